/-
  Walks of the reference: Check.
-/
import Derived.Test.YtlfdmbfbfadifaaGreatDoorWn
namespace Go.Proofs.YtlfdmbfbfadifaaGreatDoor
open Go.RowKit

def lettersA : List UInt8 := [102, 110, 97, 111, 122, 118, 117, 116, 78, 81, 113, 105, 109, 112, 101, 79, 99, 100, 115, 69, 108, 84, 83]
theorem letters_at {k : Nat} (hk : k < 23) : ((⟨#[102, 110, 97, 111, 122, 118, 117, 116, 78, 81, 113, 105, 109, 112, 101, 79, 99, 100, 115, 69, 108, 84, 83]⟩ : ByteArray)[k]'hk) = letN k := by
  rcases k23 hk with rfl | rfl | rfl | rfl | rfl | rfl | rfl | rfl | rfl | rfl | rfl | rfl | rfl | rfl | rfl | rfl | rfl | rfl | rfl | rfl | rfl | rfl | rfl <;> rfl
theorem bad_step {m : MM} {k : Nat} (h : ∀ j, j < k → badF m j = false) (he : badF m k = false) : ∀ j, j < k + 1 → badF m j = false := fun j hj => by
  by_cases e : j = k
  · subst e; exact he
  · exact h j (by omega)
theorem fault_step {g : Nat → Int} {L : List Nat} {k : Nat} (h : ∀ j, j < k → g (L.getD j 0) = 0) (he : g (L.getD k 0) = 0) : ∀ j, j < k + 1 → g (L.getD j 0) = 0 := fun j hj => by
  by_cases e : j = k
  · subst e; exact he
  · exact h j (by omega)
theorem letK_at {k : Int} {j : Nat} (hj : j < (fieldsL k).length) (h : j < (mk (lettersK k)).size) : (mk (lettersK k))[j] = letN ((fieldsL k).getD j 0) := by
  rw [mk_get]
  simp [lettersK, hj]
/-- Check, by its parts. -/
theorem checkM_form {m : MM} (h : kindB m.kd = false) : checkM m = 2 := by unfold checkM; rw [if_pos h]
theorem checkM_tag {m : MM} (h : kindB m.kd = true) (ht : tagB m.kd m.tg = false) : checkM m = 5 := by unfold checkM; rw [if_neg (by rw [h]; decide), if_pos ht]
theorem checkM_bad {m : MM} (h : kindB m.kd = true) (ht : tagB m.kd m.tg = true) {k : Nat} (hk : k < 23) (hb : badF m k = true) : checkM m = 2 := by
  unfold checkM; rw [if_neg (by rw [h]; decide), if_neg (by rw [ht]; decide), if_pos (othersB_yes hk hb)]
theorem checkM_first {m : MM} (h : kindB m.kd = true) (ht : tagB m.kd m.tg = true) (hb : ∀ j, j < 23 → badF m j = false) : checkM m = firstE (faultP m) (fieldsL m.kd) := by
  unfold checkM; rw [if_neg (by rw [h]; decide), if_neg (by rw [ht]; decide), if_neg (by rw [othersB_no hb]; decide)]
theorem checkM_firstQ {m : MM} (h : kindB m.kd = true) (ht : tagB m.kd m.tg = true) (hb : ∀ j, j < 23 → badF m j = false) : checkM m = firstE (faultQ m) (fieldsL m.kd) := by
  rw [checkM_first h ht hb]; exact firstE_congr fun f hf => faultPQ hf h
theorem getD_lt {k : Int} (h : kindB k = true) {j : Nat} (hj : j < (fieldsL k).length) : (fieldsL k).getD j 0 < 23 := by
  rw [idx_get hj]; exact (fieldsL_le h).2 _ (List.getElem_mem hj)
theorem info_msg : (Tryz.prog.info? 30).map (·.size) = some 39 := by kernel_rfl

/-- A whole struct is read in a region's forced tail: by one law. -/
theorem wpStill_load_row {P : Program} {ops : Array Oper} {w : World} {Q : Act → Prop} {a : Act} {o : Oper} {rest : List Oper} (hw : Region.wanted o (yielded ops a.tmps) = true) (ty : TypeId) (x : Operand) (ho : o.op = .load ty x)
    (g : Nat) (hx : a.eval x = .pointer (some ⟨g, 0, none⟩)) (cs : Array Value) (hl : (Instr.loadAt ty (.pointer (some ⟨g, 0, none⟩))).run P w = .ok (.agg cs) w)
    (h : wpStill P ops w Q rest (a.put o.dst (.agg cs))) : wpStill P ops w Q (o :: rest) a := by
  unfold wpStill
  rw [if_pos hw]
  unfold Oper.still execOp
  simp only [ho, hx, hl, Sem.run_bind, Sem.run_pure, Result.andThen_ok, Oper.stillUpon_value]
  exact h

set_option maxRecDepth 100000 in
set_option maxHeartbeats 6400000 in
theorem RCheckM_any (m : MM) (hm : inM m) (w : World) (hr : RowM w m) :
    Calls Tryz.prog 21 #[msgV m] w fun e w' => e = .returned (.int .i64 (checkM m)) ∧ Below w.heap.size w w' := by
  have hB0 : Below w.heap.size w (w.alloc (.cells (cellsB m) 30)) := (Below.refl _ w).alloc (Nat.le_refl _) _
  have hK0 := BlkM.new w m
  have hN := Lib.hid (fun W => RName_any m.kd W)
  have hT := Lib.hid (fun W => Rtag_any m W)
  have hZ := Lib.hid (fun f hf W h => Zero_any m f hf W h)
  have hQ := Lib.hid (fun f hf W h => fault_any m f hf hm W h)
  have hU := Lib.hid (fun hk f hf W => RUses_let m.kd f hk hf W)
  have hFi := Lib.hid (fun hk W => RFields_any m.kd hk W)
  have H1 := Lib.hid (fun h => checkM_form (m := m) h)
  have H2 := Lib.hid (fun h ht => checkM_tag (m := m) h ht)
  have H3 := Lib.hid (fun h ht k hk hb => checkM_bad (m := m) h ht (k := k) hk hb)
  have H4 := Lib.hid (fun h ht hb => checkM_firstQ (m := m) h ht hb)
  generalize checkM m = res at *
  have HR := Lib.hid hr
  have HB0 := Lib.hid hB0
  have HK0 := Lib.hid hK0
  have hcell : Hid (∀ W, BlkM W w.heap.size m → W.cell? ⟨w.heap.size, 0, none⟩ = some (.int .i64 m.kd)) := fun W h => h.cell 0
  have x0 : (cellsB m)[0]? = some (.int .i64 m.kd) := rfl
  have hemp := Lib.hid (@nameK_nil m.kd)
  have hld : Hid (∀ W, BlkM W w.heap.size m → (Instr.loadAt 30 (.pointer (some ⟨w.heap.size, 0, none⟩))).run Tryz.prog W = .ok (.agg (cellsB m)) W) := fun W h => by
    have := run_loadVar_row (P := Tryz.prog) W w.heap.size 30 30 (cellsB m) (0, 0) _ h Tryz.underlying30 rfl (by kernel_rfl)
    simp only [Instr.loadAt, Instr.sureAddr, Sem.run_bind, Sem.run_pure, Result.andThen_ok, this]
  clear hB0 hK0 hr hm
  unfold msgV at hT hZ hQ ⊢
  cases hk : kindB m.kd
  · have he : (mk (nameK m.kd)).toList = [] := by rw [mk_toList]; exact hemp.out.2 hk
    have hr := Lib.hid (H1.out hk)
    generalize mk (nameK m.kd) = s at *
    clear hk
    go_enter Tryz.func21, Tryz.ntmps21
    go_wp2_with fail
    refine (hN.out _).mono ?_
    rintro e w1 ⟨rfl, rfl⟩
    go_wp2
    go_ret
    rw [hr.out]
    exact ⟨rfl, HB0.out⟩
  have he : (mk (nameK m.kd)).toList ≠ [] := by rw [mk_toList]; exact fun e => by rw [hemp.out.1 e] at hk; cases hk
  have he2 : (mk (nameK m.kd)).toList.isEmpty = false := by simpa using he
  have he3 : ((mk (nameK m.kd)).toList == []) = false := by simpa using he
  generalize mk (nameK m.kd) = s at *
  replace hk := Lib.hid hk
  go_enter Tryz.func21, Tryz.ntmps21
  go_wp2_with fail
  refine (hN.out _).mono ?_
  rintro e w1 ⟨rfl, rfl⟩
  clear x0
  go_wp2_with (refine wpList_load_row rfl 30 _ rfl w.heap.size rfl 30 (cellsB m) (0, 0) _ HK0.out Tryz.underlying30 rfl (by kernel_rfl) ?_)
  refine (hT.out _).mono ?_
  rintro e w2 ⟨rfl, hB2⟩
  have HB2 := Lib.hid (HB0.out.trans (hB2.mono HB0.out.size))
  have HK2 := Lib.hid (HK0.out.below hB2 HK0.out.lt)
  clear hB2
  cases ht : tagB m.kd m.tg
  · have hr := Lib.hid (H2.out hk.out ht)
    clear ht
    go_wp2
    go_ret
    rw [hr.out]
    exact ⟨rfl, HB2.out⟩
  replace ht := Lib.hid ht
  go_wp2
  go_loopw [4] (fun vk wr => ∃ k : Nat, vk = .int .i64 (k : Int) ∧ k ≤ 23 ∧ Hid (Below w.heap.size w wr) ∧ Hid (BlkM wr w.heap.size m) ∧ Hid (∀ j, j < k → badF m j = false)) (fun vk _ => 23 - (intOf vk).toNat)
  case atStart => exact ⟨0, rfl, by omega, HB2.out, HK2.out, fun j hj => by omega⟩
  case round =>
    obtain ⟨k, rfl, hk23, HB, HK, ha⟩ := hrel
    by_cases hlt : k < 23
    · have hc := hcell.out _ HK.out
      have hl := hld.out _ HK.out
      have hat := letters_at hlt
      have hu := Lib.hid (hU.out hk.out k hlt)
      have hz := Lib.hid (hZ.out k hlt)
      have hbad : badF m k = (!(zeroB m k) && !((fieldsL m.kd).contains k)) := rfl
      have HA := Lib.hid (fun h => bad_step ha.out (k := k) h)
      have HE := Lib.hid (fun h => H3.out hk.out ht.out k hlt h)
      generalize badF m k = bb at *
      generalize zeroB m k = zb at *
      generalize (fieldsL m.kd).contains k = cb at *
      have k1 : (k : Int) < 23 := by omega
      have k0 : (0 : Int) ≤ (k : Int) := by omega
      cases cb
      · rw [Bool.not_false, Bool.and_true] at hbad
        go_wp2
        refine wp_region_still_tail 10 (by kernel_rfl) (by kernel_rfl) ?_
        simp only [List.take_succ_cons, List.take_zero, List.drop_succ_cons, List.drop_zero]
        iterate 4 (refine wpStill_step (fun K hK => ?_); go_simp; refine hK _ ?_; clear hK K)
        refine wpStill_step (fun K hK => ?_)
        go_simp
        refine ⟨_, (hu.out _).mono (fun e w'' h => ⟨h.1, h.2.symm⟩), hK _ ?_⟩
        clear hK K
        iterate 2 (refine wpStill_step (fun K hK => ?_); go_simp; refine hK _ ?_; clear hK K)
        refine wpStill_load_row rfl 30 _ rfl w.heap.size rfl (cellsB m) (hld.out wr.drew HK.out) ?_
        iterate 2 (refine wpStill_step (fun K hK => ?_); go_simp; refine hK _ ?_; clear hK K)
        refine wpStill_nil ?_
        change wpList _ _ _ _ _ wr.drew
        have hBd := Lib.hid (below_drew HB.out)
        have hKd : Hid (BlkM wr.drew w.heap.size m) := HK.out
        replace hz := Lib.hid (hz.out wr.drew (HR.out.below ((below_drew HB.out).mono (Nat.le_refl _))))
        clear hc hl hat hu k1 k0
        go_wp2_with fail
        refine hz.out.mono ?_
        rintro e w3 ⟨rfl, hB3⟩
        have HB3 := Lib.hid (hBd.out.trans (hB3.mono hBd.out.size))
        have HK3 := Lib.hid (hKd.out.below hB3 hKd.out.lt)
        clear hB3
        cases zb
        · have hr := Lib.hid (HE.out hbad)
          clear HA HE hbad
          go_wp2
          go_ret
          rw [hr.out]
          exact ⟨rfl, HB3.out⟩
        · have HA' := Lib.hid (HA.out hbad)
          clear HA HE hbad
          go_wp2
          exact ⟨⟨k + 1, by go_num, by omega, HB3, HK3, HA'⟩, by simp [intOf]; omega⟩
      · rw [Bool.not_true, Bool.and_false] at hbad
        have HA' := Lib.hid (HA.out hbad)
        clear HA HE hbad
        go_wp2
        refine wp_region_still_tail 10 (by kernel_rfl) (by kernel_rfl) ?_
        simp only [List.take_succ_cons, List.take_zero, List.drop_succ_cons, List.drop_zero]
        iterate 4 (refine wpStill_step (fun K hK => ?_); go_simp; refine hK _ ?_; clear hK K)
        refine wpStill_step (fun K hK => ?_)
        go_simp
        refine ⟨_, (hu.out _).mono (fun e w'' h => ⟨h.1, h.2.symm⟩), hK _ ?_⟩
        clear hK K
        iterate 5 (refine wpStill_step (fun K hK => ?_); go_simp; refine hK _ ?_; clear hK K)
        refine wpStill_nil ?_
        change wpList _ _ _ _ _ wr.drew
        have hBd := Lib.hid (below_drew HB.out)
        have hKd : Hid (BlkM wr.drew w.heap.size m) := HK.out
        clear hc hl hat hu k1 k0
        go_wp2
        exact ⟨⟨k + 1, by go_num, by omega, hBd, hKd, HA'⟩, by simp [intOf]; omega⟩
    · obtain rfl : k = 23 := by omega
      have hc := hcell.out _ HK.out
      have H5 := Lib.hid (H4.out hk.out ht.out ha.out)
      have hF0 := Lib.hid (firstE_none (g := faultQ m) (L := fieldsL m.kd))
      have hF1 := Lib.hid (fun k hk h he => firstE_hit (g := faultQ m) (L := fieldsL m.kd) (k := k) hk h he)
      have hlen : (mk (lettersK m.kd)).size = (fieldsL m.kd).length := by rw [mk_size]; simp [lettersK]
      have hl4 := (fieldsL_le hk.out).1
      clear H1 H2 H3 H4 hN hT hZ hU hemp he he2 he3
      rw [← H5.out] at hF0 hF1
      clear H5 ha hlt hk23
      go_wp2_with fail
      refine (hFi.out hk.out _).mono ?_
      rintro e w3 ⟨rfl, rfl⟩
      clear hc
      go_wp2
      go_loopw [6] (fun vk wr => ∃ k : Nat, vk = .int .i64 (k : Int) ∧ k ≤ (fieldsL m.kd).length ∧ Hid (Below w.heap.size w wr) ∧ Hid (BlkM wr w.heap.size m) ∧ Hid (∀ j, j < k → faultQ m ((fieldsL m.kd).getD j 0) = 0)) (fun vk _ => (fieldsL m.kd).length - (intOf vk).toNat)
      case atStart => exact ⟨0, rfl, by omega, HB.out, HK.out, fun j hj => by omega⟩
      case round =>
        rename_i wr0 _
        clear HB HK
        obtain ⟨k, rfl, hkl, HB, HK, ha⟩ := hrel
        by_cases hlt : k < (fieldsL m.kd).length
        · have hk1 : k < (mk (lettersK m.kd)).size := by omega
          have hat := letK_at hlt hk1
          have hq := fun W => hQ.out _ (getD_lt hk.out hlt) W
          have hE := Lib.hid (fun h => hF1.out k hlt ha.out h)
          have hA := Lib.hid (fun h => fault_step ha.out (k := k) h)
          generalize (fieldsL m.kd).getD k 0 = f at *
          rw [← hat] at hq
          generalize faultQ m f = z at *
          replace hq := Lib.hid hq
          clear hat
          have k0 : (0 : Int) ≤ (k : Int) := by omega
          go_wp2
          refine wp_region_still_tail 4 (by kernel_rfl) (by kernel_rfl) ?_
          simp only [List.take_succ_cons, List.take_zero, List.drop_succ_cons, List.drop_zero]
          refine wpStill_load_row rfl 30 _ rfl w.heap.size rfl (cellsB m) (hld.out wr.drew HK.out) ?_
          iterate 3 (refine wpStill_step (fun K hK => ?_); go_simp; refine hK _ ?_; clear hK K)
          refine wpStill_nil ?_
          change wpList _ _ _ _ _ wr.drew
          have hBd := Lib.hid (below_drew HB.out)
          have hKd : Hid (BlkM wr.drew w.heap.size m) := HK.out
          replace hq := Lib.hid (hq.out wr.drew (HR.out.below ((below_drew HB.out).mono (Nat.le_refl _))))
          go_wp2_with fail
          refine hq.out.mono ?_
          rintro e w3 ⟨rfl, hB3⟩
          have HB3 := Lib.hid (hBd.out.trans (hB3.mono hBd.out.size))
          have HK3 := Lib.hid (hKd.out.below hB3 hKd.out.lt)
          clear hB3
          by_cases hz0 : z = 0
          · have hA' := Lib.hid (hA.out hz0)
            subst hz0
            clear hA hE
            go_wp2
            exact ⟨⟨k + 1, by go_num, by omega, HB3, HK3, hA'⟩, by simp [intOf]; omega⟩
          · have hr := Lib.hid (hE.out hz0)
            have hz1 : (z != 0) = true := by simpa using hz0
            clear hA hE hz0
            go_wp2
            go_ret
            rw [hr.out]
            exact ⟨rfl, HB3.out⟩
        · obtain rfl : k = (fieldsL m.kd).length := by omega
          have hr := Lib.hid (hF0.out ha.out)
          clear ha hlt hF0 hF1
          go_wp2
          go_ret
          rw [hr.out]
          exact ⟨rfl, HB.out⟩
end Go.Proofs.YtlfdmbfbfadifaaGreatDoor
