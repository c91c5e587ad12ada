/-
  Walks: Check, the program's and the reference's.
-/
import Derived.Test.YtlfdmbfbfadifaaDoorWd
namespace Go.Proofs.YtlfdmbfbfadifaaDoor
open Go.RowKit

theorem all_step {d : DD} {k : Nat} (h : ∀ j, j < k → okN j (num d j) = true) (hk : okN k (num d k) = true) : ∀ j, j < k + 1 → okN j (num d j) = true := fun j hj => by
  by_cases e : j = k
  · subst e; exact hk
  · exact h j (by omega)
theorem check_5 {d : DD} {k : Nat} (hk : k < 9) (h : okN k (num d k) = false) : checkR d = 5 := by
  unfold checkR; rw [allN_no hk h]; rfl
theorem check_06 {d : DD} (h : ∀ j, j < 9 → okN j (num d j) = true) : checkR d = if nameOk d.nm && shortB d then 0 else 6 := by
  unfold checkR; rw [allN_all h]; rfl
/-- What a name is: empty, a slash, another. -/
theorem name_cases (l : List UInt8) : ((mk l).toList = [] ∧ (mk l).toList.isEmpty = true ∧ nameOk l = true) ∨ ((mk l).toList ≠ [] ∧ (mk l).toList.isEmpty = false ∧ ((mk l).toList == [47]) = true ∧ nameOk l = true) ∨
    ((mk l).toList ≠ [] ∧ (mk l).toList.isEmpty = false ∧ ((mk l).toList == [47]) = false ∧ nameOk l = validL l) := by
  rw [mk_toList]
  by_cases h : l = []
  · exact .inl ⟨h, by rw [h]; rfl, by rw [h]; rfl⟩
  · by_cases h2 : l = [47]
    · exact .inr (.inl ⟨h, by simpa using h, by rw [h2]; rfl, by rw [h2]; rfl⟩)
    · exact .inr (.inr ⟨h, by simpa using h, by simpa using h2, by unfold nameOk; simp [h, h2]⟩)

set_option maxRecDepth 100000 in
set_option maxHeartbeats 3200000 in
theorem Check_any (d : DD) (hd : inD d) (hb : bigD d) (w : World) (g : G w) :
    Calls Tryd.prog 67 #[dirV d] w fun e w' => e = .returned (.int .i64 (checkR d)) ∧ Below w.heap.size w w' := by
  unfold dirV
  have hB0 : Below w.heap.size w (w.alloc (.cells (cellsA d) 32)) := (Below.refl _ w).alloc (Nat.le_refl _) _
  have hK0 := BlkD.new w d
  have H5 := Lib.hid (fun k hk h => check_5 (d := d) (k := k) hk h)
  have H6 := Lib.hid (fun h => check_06 (d := d) h)
  generalize checkR d = res at H5 H6 ⊢
  have hsz : (w.alloc (.cells (cellsA d) 32)).heap.size = w.heap.size + 1 := by simp
  have HD := Lib.hid hd
  have HB := Lib.hid hb
  have HG := Lib.hid g
  clear hd hb g
  generalize hW : w.alloc (.cells (cellsA d) 32) = W at hB0 hK0 hsz
  replace hW := Lib.hid hW
  have HB0 := Lib.hid hB0
  have HK0 := Lib.hid hK0
  replace hsz := Lib.hid hsz
  clear hB0 hK0
  go_enter Tryd.func67, Tryd.ntmps67
  go_wp2_with fail
  rw [hW.out]
  refine (numbersOf_any _ _).mono ?_
  rintro e w1 ⟨rfl, hB1⟩
  have HB1 := Lib.hid (HB0.out.trans (hB1.mono (by rw [hsz.out]; omega)))
  have HK1 := Lib.hid (HK0.out.below hB1 (by rw [hsz.out]; omega))
  clear hB1
  go_wp2_with fail
  go_loopw [6] (fun vk wr => ∃ k : Nat, vk = .int .i64 (k : Int) ∧ k ≤ 9 ∧ Hid (Below w.heap.size w wr) ∧ Hid (BlkD wr w.heap.size d) ∧ Hid (∀ j, j < k → okN j (num d j) = true)) (fun vk _ => 9 - (intOf vk).toNat)
  case atStart => exact ⟨0, rfl, by omega, HB1.out, HK1.out, fun j hj => by omega⟩
  case round =>
    obtain ⟨k, rfl, hk, hB, hK, hA⟩ := hrel
    by_cases hlt : k < 9
    · have hix := nums_index w.heap.size hlt
      have hc := hK.out.numc hlt
      obtain ⟨f0, f1, f2⟩ := (HG.out.below hB.out).fmt hlt
      have hN := Lib.hid (fun W => isNumber_any (num d k) k hlt (HD.out k hlt) W)
      have HA := Lib.hid (fun h => all_step hA.out (k := k) h)
      have HN := Lib.hid (fun h => H5.out k hlt h)
      generalize okN k (num d k) = b at hN HA HN
      generalize num d k = n at hc hN
      go_wp2
      have k1 : (k : Int) < 9 := by omega
      have k0 : (0 : Int) ≤ (k : Int) := by omega
      go_still_tail 6, (by kernel_rfl)
      change wpList _ _ _ _ _ wr.drew
      have hBd := Lib.hid (below_drew hB.out)
      have hKd : Hid (BlkD wr.drew w.heap.size d) := hK.out
      clear hix hc f0 f1 f2 k1 k0
      go_wp2_with fail
      refine (hN.out _).mono ?_
      rintro e w2 ⟨rfl, hB2⟩
      have HB2 := Lib.hid (hBd.out.trans (hB2.mono hBd.out.size))
      have HK2 := Lib.hid (hKd.out.below hB2 hKd.out.lt)
      clear hB2 hN
      cases b
      · replace HN := Lib.hid (HN.out rfl)
        clear HA
        go_wp2
        go_ret
        rw [HN.out]
        exact ⟨rfl, HB2.out⟩
      · replace HA := Lib.hid (HA.out rfl)
        clear HN
        go_wp2
        exact ⟨⟨k + 1, by go_num, by omega, HB2, HK2, HA⟩, by simp [intOf]; omega⟩
    · obtain rfl : k = 9 := by omega
      replace H6 := Lib.hid (H6.out hA.out)
      clear hA H5 hk hlt
      have x9 := hK.out.txtc (k := 0) (by omega)
      have x10 := hK.out.txtc (k := 1) (by omega)
      have x11 := hK.out.txtc (k := 2) (by omega)
      have x12 := hK.out.txtc (k := 3) (by omega)
      have b0 := HB.out 0 (by omega)
      have b1 := HB.out 1 (by omega)
      have b2 := HB.out 2 (by omega)
      have b3 := HB.out 3 (by omega)
      simp only [txt, Nat.add_zero, Nat.reduceAdd] at x9 x10 x11 x12 b0 b1 b2 b3
      have hV := Lib.hid (fun W => ValidM d.nm b0 W)
      have s1 := mk_size d.ui
      have s2 := mk_size d.gi
      have s3 := mk_size d.mu
      unfold maxLen at b1 b2 b3
      have hs : shortB d = decide ((mk d.ui).size ≤ 64 ∧ (mk d.gi).size ≤ 64 ∧ (mk d.mu).size ≤ 64) := by rw [s1, s2, s3]; rfl
      have hnc := name_cases d.nm
      rw [← s1] at b1
      rw [← s2] at b2
      rw [← s3] at b3
      clear s1 s2 s3 b0
      generalize d.nm = nm at *
      generalize d.ui = ui at *
      generalize d.gi = gi at *
      generalize d.mu = mu at *
      rcases hnc with ⟨n1, n2, n3⟩ | ⟨n1, n2, n3, n4⟩ | ⟨n1, n2, n3, n4⟩
      · have hr : res = if shortB d = true then 0 else 6 := by rw [H6.out, n3, Bool.true_and]
        rw [hs] at hr
        replace hr := Lib.hid hr
        clear H6 n3 hs hV
        go_wp2
        all_goals go_ret
        all_goals (rw [hr.out]; refine ⟨ret1 ?_, hB.out⟩; clear hr; simp only [decide_eq_true_eq]; (repeat' split) <;> (try rfl) <;> exfalso <;> (repeat' split at *) <;> omega)
      · have hr : res = if shortB d = true then 0 else 6 := by rw [H6.out, n4, Bool.true_and]
        rw [hs] at hr
        replace hr := Lib.hid hr
        clear H6 n4 hs hV
        go_wp2
        all_goals go_ret
        all_goals (rw [hr.out]; refine ⟨ret1 ?_, hB.out⟩; clear hr; simp only [decide_eq_true_eq]; (repeat' split) <;> (try rfl) <;> exfalso <;> (repeat' split at *) <;> omega)
      · rw [n4] at H6
        clear n4
        generalize validL nm = vv at hV H6
        cases vv
        · have hr : Hid (res = 6) := H6.out
          clear H6 hs
          go_wp2_with (go_at_call 80; refine (hV.out _).mono ?_; rintro e w' ⟨rfl, rfl⟩)
          go_ret
          rw [hr.out]
          exact ⟨rfl, hB.out⟩
        · have hr : res = if shortB d = true then 0 else 6 := by rw [H6.out, Bool.true_and]
          rw [hs] at hr
          replace hr := Lib.hid hr
          clear H6 hs
          go_wp2_with (go_at_call 80; refine (hV.out _).mono ?_; rintro e w' ⟨rfl, rfl⟩)
          all_goals go_ret
          all_goals (rw [hr.out]; refine ⟨ret1 ?_, hB.out⟩; clear hr; simp only [decide_eq_true_eq]; (repeat' split) <;> (try rfl) <;> exfalso <;> (repeat' split at *) <;> omega)
end Go.Proofs.YtlfdmbfbfadifaaDoor
