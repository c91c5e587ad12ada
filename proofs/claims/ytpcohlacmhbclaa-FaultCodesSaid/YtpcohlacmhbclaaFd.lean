/-
  Package fault's rows, Text and Find.
-/
import Derived.Test.YtpcohlacmhbclaaFc
namespace Go.Proofs.Ytpcohlacmhbclaa
open Go.RowKit

theorem Lies.of_own {w : World} {B n : Nat} {v : Value} {xs : List Value} (h : w.ownsRow B 36 2 v n xs) (hn : 0 < n) : Lies w v n xs := by
  obtain ⟨g, cap, rfl, hb, hlt⟩ := h.form hn
  refine ⟨g, cap, rfl, hlt, h.1, fun j u hj => ?_⟩
  have hl := (List.getElem?_eq_some_iff.1 hj).1
  rw [h.cellAt j (by have := h.1; omega)]
  exact hj
theorem Lies.new (w : World) (l : List Value) (n : Nat) (hl : l.length = n * 2) (t : TypeId) : Lies (w.alloc (.cells l.toArray t)) (.slice (some ⟨w.heap.size, 0, none⟩) n n) n l :=
  ⟨w.heap.size, n, rfl, by simp, hl, fun j u hj => by rw [cell_of_row _ _ j l.toArray t (0, 0) (heap_alloc_new w _)]; simpa using hj⟩
theorem oneCell_rows (a n : Nat) : ∀ u ∈ rowCells a n, u.oneCell' = true := by
  intro u hu
  unfold rowCells at hu
  obtain ⟨j, _, hj⟩ := List.mem_flatMap.1 hu
  simp at hj
  rcases hj with rfl | rfl <;> rfl

set_option maxRecDepth 100000 in
set_option maxHeartbeats 1600000 in
theorem rows_any (w : World) : Calls Try.prog 16 #[] w fun e w' => ∃ v, e = .returned v ∧ Lies w' v 59 (rowCells 0 59) ∧ Below w.heap.size w w' := by
  have F1 := Lib.hid (file_any w)
  go_enter Try.func16, Try.ntmps16
  go_wp2_with fail
  refine F1.out.mono ?_
  rintro e w1 ⟨rfl, hw1⟩
  have L1 := Lib.hid (Lies.new w (rowCells 0 33) 33 (rowCells_len 0 33) 36)
  have B1 := Lib.hid ((Below.refl w.heap.size w).alloc (Nat.le_refl _) (.cells (rowCells 0 33).toArray 36))
  rw [← hw1] at L1 B1
  have F2 := Lib.hid (service_any w1)
  have hz1 : w1.heap.size = w.heap.size + 1 := by rw [hw1]; simp
  have HZ1 := Lib.hid hz1
  clear hw1 hz1
  go_wp2_with fail
  refine F2.out.mono ?_
  rintro e w2 ⟨rfl, hw2⟩
  have L2 := Lib.hid (Lies.new w1 (rowCells 33 26) 26 (rowCells_len 33 26) 36)
  have B2 := Lib.hid ((Below.refl w1.heap.size w1).alloc (Nat.le_refl _) (.cells (rowCells 33 26).toArray 36))
  rw [← hw2] at L2 B2
  have L1' := Lib.hid (L1.out.below B2.out)
  have hz2 : w2.heap.size = w1.heap.size + 1 := by rw [hw2]; simp
  have HZ2 := Lib.hid hz2
  clear hw2 hz2 L1
  go_wp2_with fail
  have hal := Below.alloc (Below.refl w2.heap.size w2) (Nat.le_refl _) (.cells #[.slice (some ⟨w.heap.size, 0, none⟩) 33 33, .slice (some ⟨w1.heap.size, 0, none⟩) 26 26] 33)
  refine (Concat_two w2.heap.size 33 26 _ _ (rowCells 0 33) (rowCells 33 26) _ (by simp) (L1'.out.below hal) (L2.out.below hal) (by omega) (by omega) (by omega) (oneCell_rows _ _) (oneCell_rows _ _) (by rw [cell_of_row _ _ 0 _ _ (0, 0) (heap_alloc_new w2 _)]; rfl) (by rw [cell_of_row _ _ 1 _ _ (0, 0) (heap_alloc_new w2 _)]; rfl)).mono ?_
  rintro e w3 ⟨v, rfl, hv, hB⟩
  have HV := Lib.hid (Lies.of_own hv (by omega))
  have HB := Lib.hid (B1.out.trans ((B2.out.mono B1.out.size).trans ((hal.mono (Nat.le_trans B1.out.size B2.out.size)).trans (hB.mono (Nat.le_trans B1.out.size (Nat.le_trans B2.out.size hal.size))))))
  clear hv hB hal
  go_wp2_with fail
  go_ret
  refine ⟨v, rfl, ?_, HB.out⟩
  have := HV.out
  rw [rowCells_app 0 33 26] at this
  exact this

/-- The rows, in the loops' words. -/
theorem Lies.at_ {w : World} {g c : Nat} (h : Lies w (.slice (some ⟨g, 0, none⟩) 59 c) 59 (rowCells 0 59)) {k : Nat} (hk : k < 59) :
    w.cell? ⟨g, k * 2, none⟩ = some (.int .i64 ((k : Int) + 1)) ∧ w.cell? ⟨g, k * 2 + 1, none⟩ = some (.string (mk (textL ((k : Int) + 1)))) := by
  obtain ⟨g', c', hv, _, _, hx⟩ := h
  injection hv with h1 h2 h3
  injection h1 with h1
  injection h1 with h1
  subst h1
  have := rowCells_at 0 59 k hk
  rw [textL_in hk]
  rw [Nat.mul_comm]
  refine ⟨?_, ?_⟩
  · have := hx _ _ this.1; simpa using this
  · have := hx _ _ this.2; simpa [sv] using this

set_option maxRecDepth 100000 in
set_option maxHeartbeats 1600000 in
theorem Text_any (e : Int) (he : -9223372036854775808 ≤ e ∧ e ≤ 9223372036854775807) (w : World) :
    Calls Try.prog 7 #[.int .i64 e] w fun x w' => x = .returned (.string (mk (textL e))) ∧ Below w.heap.size w w' := by
  have R := Lib.hid (rows_any w)
  go_enter Try.func7, Try.ntmps7
  go_wp2_with fail
  refine R.out.mono ?_
  rintro x w1 ⟨v, rfl, hv, hB⟩
  obtain ⟨g, c, rfl, hg, _, _⟩ := id hv
  have HV := Lib.hid hv
  have HB := Lib.hid hB
  clear hv hB
  go_wp2_with fail
  go_loopw [7] (fun vi wr => ∃ k : Nat, k ≤ 59 ∧ vi = .int .i64 (k : Int) ∧ ¬ (1 ≤ e ∧ e ≤ k) ∧ Hid (Below w1.heap.size w1 wr)) (fun vi _ => 59 - (intOf vi).toNat)
  case atStart => exact ⟨0, by omega, rfl, by omega, Lib.hid (Below.refl _ _)⟩
  case round =>
    obtain ⟨k, hk, rfl, hno, HW⟩ := hrel
    have hsz := HW.out.size
    by_cases hlt : k < 59
    · have hc := HV.out.at_ hlt
      have hc0 := (HW.out.cell (p := ⟨g, k * 2, none⟩) hg).trans hc.1
      have hc1 := (HW.out.cell (p := ⟨g, k * 2 + 1, none⟩) hg).trans hc.2
      have HW' := fun o => Lib.hid (HW.out.alloc hsz o)
      clear hc
      by_cases hek : e = (k : Int) + 1
      · have hte : Hid (textL e = textL ((k : Int) + 1)) := by rw [hek]; rfl
        generalize textL ((k : Int) + 1) = t at hc1 hte
        have hq : (((k : Int) + 1) == e) = true := by rw [hek]; simp
        clear hek hno
        go_wp2
        go_ret
        rw [hte.out]
        exact ⟨rfl, HB.out.trans ((HW' _).out.mono HB.out.size)⟩
      · generalize textL ((k : Int) + 1) = t at hc1
        have hq : (((k : Int) + 1) == e) = false := by simp; omega
        have hno' : ¬ (1 ≤ e ∧ e ≤ ((k + 1 : Nat) : Int)) := by omega
        clear hek
        go_wp2
        exact ⟨⟨k + 1, by omega, by go_num, hno', HW' _⟩, by simp [intOf]; omega⟩
    · have hte : Hid (textL e = []) := Lib.hid (textL_out (by omega))
      go_wp2
      go_ret
      rw [hte.out]
      exact ⟨rfl, HB.out.trans (HW.out.mono HB.out.size)⟩

set_option maxRecDepth 100000 in
set_option maxHeartbeats 1600000 in
theorem Find_any (s : List UInt8) (w : World) :
    Calls Try.prog 9 #[.string (mk s)] w fun x w' => x = .returned (.tuple #[.int .i64 (findL s).1, .bool (findL s).2]) ∧ Below w.heap.size w w' := by
  have R := Lib.hid (rows_any w)
  go_enter Try.func9, Try.ntmps9
  go_wp2_with fail
  refine R.out.mono ?_
  rintro x w1 ⟨v, rfl, hv, hB⟩
  obtain ⟨g, c, rfl, hg, _, _⟩ := id hv
  have HV := Lib.hid hv
  have HB := Lib.hid hB
  clear hv hB
  go_wp2_with fail
  go_loopw [8] (fun vi wr => ∃ k : Nat, k ≤ 59 ∧ vi = .int .i64 (k : Int) ∧ Hid (findL s = findFrom s (k + 1) (59 - k)) ∧ Hid (Below w1.heap.size w1 wr)) (fun vi _ => 59 - (intOf vi).toNat)
  case atStart => exact ⟨0, by omega, rfl, rfl, Lib.hid (Below.refl _ _)⟩
  case round =>
    obtain ⟨k, hk, rfl, HN, HW⟩ := hrel
    have hsz := HW.out.size
    by_cases hlt : k < 59
    · have hc := HV.out.at_ hlt
      have hc0 := (HW.out.cell (p := ⟨g, k * 2, none⟩) hg).trans hc.1
      have hc1 := (HW.out.cell (p := ⟨g, k * 2 + 1, none⟩) hg).trans hc.2
      have HW' := fun o => Lib.hid (HW.out.alloc hsz o)
      clear hc
      by_cases hek : textL ((k : Int) + 1) = s
      · have hte := Lib.hid (HN.out.trans (findFrom_hit s k hlt hek))
        have hq : ((mk (textL ((k : Int) + 1))).toList == (mk s).toList) = true := by rw [hek]; simp
        clear hek
        generalize textL ((k : Int) + 1) = t at hc1 hq
        go_wp2
        go_ret2
        rw [hte.out]
        exact ⟨rfl, HB.out.trans ((HW' _).out.mono HB.out.size)⟩
      · have hq : ((mk (textL ((k : Int) + 1))).toList == (mk s).toList) = false := by rw [mk_toList, mk_toList]; simpa using hek
        have hno' := Lib.hid (HN.out.trans (findFrom_miss s k hlt hek))
        clear hek
        generalize textL ((k : Int) + 1) = t at hc1 hq
        go_wp2
        exact ⟨⟨k + 1, by omega, by go_num, hno', HW' _⟩, by simp [intOf]; omega⟩
    · have hk' : k = 59 := by omega
      have hte : Hid (findL s = (0, false)) := Lib.hid (HN.out.trans (by rw [hk']; rfl))
      clear hk'
      go_wp2
      go_ret2
      rw [hte.out]
      exact ⟨rfl, HB.out.trans (HW.out.mono HB.out.size)⟩
end Go.Proofs.Ytpcohlacmhbclaa
