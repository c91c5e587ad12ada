/-
  The user of a line: package user's parseLine.
-/
import Derived.Test.YtadnkbhigcegmaaDoorUn
namespace Go.Proofs.YtadnkbhigcegmaaDoor
open Go.RowKit

theorem suffix_last (x : List UInt8) : Lib.hasSuffix x [10] = decide (x.getLast? = some 10) := by
  rw [Bool.eq_iff_iff, decide_eq_true_eq]
  unfold Lib.hasSuffix
  rw [List.isSuffixOf_iff_suffix]
  constructor
  · rintro ⟨t, rfl⟩; simp
  · intro h
    obtain ⟨ys, rfl⟩ := List.getLast?_eq_some_iff.1 h
    exact ⟨ys, rfl⟩
theorem CutSuffix_any (x : List UInt8) (hs : x.length ≤ 100000) (w : World) :
    Calls Tryd.prog 50 #[.string (mk x), .string ⟨#[10]⟩] w fun e w' => e = .returned (.tuple #[.string (mk (if x.getLast? = some 10 then x.dropLast else x)), .bool (decide (x.getLast? = some 10))]) ∧ w = w' := by
  refine (Tryd.strings_CutSuffix (mk x) ⟨#[10]⟩ w (by rw [mk_size]; omega)).mono ?_
  rintro e w' ⟨rfl, rfl⟩
  rw [mk_data]
  have h10 : (⟨#[10]⟩ : ByteArray).data.toList = [10] := rfl
  rw [h10, suffix_last]
  refine ⟨?_, rfl⟩
  congr 2
  unfold Lib.trimSuffix
  rw [suffix_last]
  by_cases h : x.getLast? = some 10
  · rw [decide_eq_true h, if_pos rfl, if_pos h, List.dropLast_eq_take]; rfl
  · rw [decide_eq_false h, if_neg (by simp), if_neg h]; rfl

/-- What parseLine hands back for an optional user. -/
def optU (o : Option U) : U := o.getD U0

theorem three_at {P : List (List UInt8)} (h : P.length = 3) : P = [P.getD 0 [], P.getD 1 [], P.getD 2 []] := by
  match P, h with
  | [a, b, c], _ => rfl
theorem line_not3 {t : List UInt8} (h : (pieces 58 t).length ≠ 3) : lineL t = none := by
  unfold lineL
  match hp : pieces 58 t, h with
  | [], _ => rfl
  | [_], _ => rfl
  | [_, _], _ => rfl
  | [_, _, _], h => exact absurd rfl h
  | _ :: _ :: _ :: _ :: _, _ => rfl
theorem line_3 {t a b c : List UInt8} (h : pieces 58 t = [a, b, c]) : lineL t = if c = [] then some ⟨a, b, []⟩ else if (pieces 44 c).contains [] then none else some ⟨a, b, pieces 44 c⟩ := by unfold lineL; rw [h]

theorem Split_some (d : UInt8) (x : List UInt8) (hs : x.length ≤ 100000) (w : World) (g : G w) :
    Calls Tryd.prog 51 #[.string (mk x), .string ⟨#[d]⟩] w fun e w' => ∃ q c, e = .returned (.slice q (pieces d x).length c) ∧ SRow w' (.slice q (pieces d x).length c) (pieces d x) ∧ Below w.heap.size w w' :=
  (Split_any d x hs w g).mono fun _ _ ⟨c, h1, h2, h3⟩ => ⟨_, c, h1, h2.row, h3⟩

set_option maxRecDepth 100000 in
set_option maxHeartbeats 3200000 in
theorem parseLine_any (x : List UInt8) (hs : x.length ≤ 100000) (w : World) (g : G w) :
    Calls Tryd.prog 42 #[.string (mk x)] w fun e w' => ∃ mv, e = .returned (.tuple #[.agg #[.string (mk (optU (plineL x)).n), .string (mk (optU (plineL x)).l), mv], .bool (plineL x).isSome]) ∧ SRowT w.heap.size w' mv (optU (plineL x)).m ∧ Below w.heap.size w w' := by
  have hB0 := (Below.refl w.heap.size w).alloc (Nat.le_refl _) (.cells #[.string ⟨#[]⟩, .string ⟨#[]⟩, .slice none 0 0] 32)
  have HX0 := Lib.hid (heap_alloc_new w (.cells #[.string ⟨#[]⟩, .string ⟨#[]⟩, .slice none 0 0] 32 (0, 0)))
  have HC := Lib.hid (CutSuffix_any x hs (w.alloc (.cells #[.string ⟨#[]⟩, .string ⟨#[]⟩, .slice none 0 0] 32)))
  have hlt : (if x.getLast? = some 10 then x.dropLast else x).length ≤ 100000 := by
    split
    · rw [List.length_dropLast]; omega
    · exact hs
  have hpl : plineL x = if decide (x.getLast? = some 10) = true then lineL (if x.getLast? = some 10 then x.dropLast else x) else none := by
    unfold plineL
    by_cases h : x.getLast? = some 10
    · simp [h]
    · simp [h]
  have HP := Lib.hid hpl
  generalize plineL x = res at HP ⊢
  generalize (if x.getLast? = some 10 then x.dropLast else x) = t at HC hlt HP
  generalize decide (x.getLast? = some 10) = en at HC HP
  have HS := Lib.hid (Split_some 58 t hlt _ (g.below hB0))
  have HB0 := Lib.hid hB0
  have HG0 := Lib.hid (g.below hB0)
  have HPL := Lib.hid (pieces_len 58 t)
  have HPM := Lib.hid (fun y hy => pieces_mem (d := 58) (l := t) (x := y) hy)
  clear hpl hB0 g
  by_cases hbad : en = false ∨ (pieces 58 t).length ≠ 3
  · have HR : Hid (res = none) := by
      rw [Hid, HP.out]
      rcases hbad with h | h
      · rw [h]; rfl
      · rw [line_not3 h]; simp
    clear HP
    generalize (pieces 58 t) = P at hbad HS
    have hbad' : en = false ∨ (en = true ∧ ((P.length : Int) != 3) = true) := by
      rcases hbad with h | h
      · exact .inl h
      · cases en with
        | false => exact .inl rfl
        | true => exact .inr ⟨rfl, by simp; omega⟩
    clear hbad
    rcases hbad' with rfl | ⟨rfl, h3⟩
    all_goals
      go_enter Tryd.func42, Tryd.ntmps42
      go_wp2_with (go_at_call 50; refine HC.out.mono ?_; rintro e w' ⟨rfl, rfl⟩)
      refine HS.out.mono ?_
      rintro e w1 ⟨q, c, rfl, hs1, hB1⟩
      have hx1 := (hB1.block w.heap.size (by simp)).trans HX0.out
      have HB1 := Lib.hid (HB0.out.trans (hB1.mono HB0.out.size))
      have z0 := blk3_0 hx1
      have z1 := blk3_1 hx1
      have z2 := blk3_2 hx1
      have f0 := blk3_f hx1 0
      have f1 := blk3_f hx1 1
      have f2 := blk3_f hx1 2
      have HX1 := Lib.hid hx1
      clear hs1 hB1 hx1
      go_wp2
      refine bodyPost_ret (results_user rfl rfl (blk3_set HX1.out _ _ _)) rfl ?_
      rw [HR.out]
      exact ⟨_, rfl, SRowT.nil_ _ _, below_set3 HB1.out (Nat.le_refl _) _ _ _⟩
  · obtain ⟨rfl, h3⟩ : en = true ∧ (pieces 58 t).length = 3 := by
      cases en with
      | false => exact absurd (.inl rfl) hbad
      | true =>
        refine ⟨rfl, ?_⟩
        by_cases h : (pieces 58 t).length = 3
        · exact h
        · exact absurd (.inr h) hbad
    have hP3 := three_at h3
    have HP2 : Hid (res = lineL t) := HP.out
    have HL3 := Lib.hid (line_3 hP3)
    have hm0 := HPM.out ((pieces 58 t).getD 2 []) (by rw [hP3]; simp)
    clear HP HPM
    generalize (pieces 58 t) = P at h3 HS HL3 hm0
    generalize lineL t = res' at HL3 HP2
    go_enter Tryd.func42, Tryd.ntmps42
    go_wp2_with (go_at_call 50; refine HC.out.mono ?_; rintro e w' ⟨rfl, rfl⟩)
    refine HS.out.mono ?_
    rintro e w1 ⟨q, c, rfl, hs1, hB1⟩
    have hx1 := (hB1.block w.heap.size (by simp)).trans HX0.out
    have HB1 := Lib.hid (HB0.out.trans (hB1.mono HB0.out.size))
    have HG1 := Lib.hid (HG0.out.below hB1)
    have hz1 := hB1.size
    simp only [World.size_alloc] at hz1
    obtain ⟨bb, o, rfl, hbb, c0⟩ := hs1.at_ (Below.refl _ _) (k := 0) (by omega)
    obtain ⟨_, _, hp1, _, c1⟩ := hs1.at_ (Below.refl _ _) (k := 1) (by omega)
    injection hp1 with hp1; injection hp1 with hp1 hp2; subst hp1 hp2
    obtain ⟨_, _, hp1, _, c2⟩ := hs1.at_ (Below.refl _ _) (k := 2) (by omega)
    injection hp1 with hp1; injection hp1 with hp1 hp2; subst hp1 hp2
    rw [Nat.add_zero] at c0
    have HX1 := Lib.hid hx1
    have HS1 := Lib.hid hs1
    have hPc : (P.length : Int) ≤ c := by
      obtain ⟨_, _, hv, h, _⟩ := id hs1
      injection hv with _ _ h4; omega
    rw [h3] at hPc ⊢
    generalize P.getD 0 [] = a0 at *
    generalize P.getD 1 [] = a1 at *
    generalize P.getD 2 [] = a2 at *
    clear hs1 hB1 hx1
    go_wp2_with fail
    have hne : bb ≠ w1.heap.size := by omega
    go_region_held3 (fun W => W.cell? ⟨bb, o, none⟩ = some (.string (mk a0)) ∧ W.cell? ⟨bb, o + 1, none⟩ = some (.string (mk a1))) (first | exact ⟨c0, c1⟩ | go_keep) ((fail))
    have hbel := below_drewN ((Below.refl w1.heap.size w1).alloc (Nat.le_refl _) (.cells #[.string (mk a0), .string (mk a1), .slice none 0 0] 32)) 1
    have hy2 : (w1.alloc (.cells #[.string (mk a0), .string (mk a1), .slice none 0 0] 32 (0, 0))).drew.heap[w1.heap.size]? = _ := heap_alloc_new w1 _
    generalize hW2 : (w1.alloc (.cells #[.string (mk a0), .string (mk a1), .slice none 0 0] 32)).drew = W2 at hy2 ⊢
    have hbel2 : Below w1.heap.size w1 W2 := by rw [← hW2]; exact hbel
    have hx2 := (hbel2.block w.heap.size (by omega)).trans HX1.out
    have e2 := (hbel2.cell (p := ⟨bb, o + 2, none⟩) hbb).trans c2
    have hz2 := hbel2.size
    have hz3 : W2.heap.size = w1.heap.size + 1 := by rw [← hW2]; simp [World.drew]
    have hlt5 : w1.heap.size < W2.heap.size := by omega
    have hlt6 : w.heap.size < W2.heap.size := by omega
    clear hz3
    have HB2 := Lib.hid (HB1.out.trans (hbel2.mono HB1.out.size))
    have HG2 := Lib.hid (HG1.out.below hbel2)
    clear hbel hbel2 hW2 c0 c1 c2
    have z0 := blk3_0 hx2
    have z1 := blk3_1 hx2
    have z2 := blk3_2 hx2
    have f0 := blk3_f hx2 0
    have f1 := blk3_f hx2 1
    have f2 := blk3_f hx2 2
    have y0 := blk3_0 hy2
    have y1 := blk3_1 hy2
    have y2 := blk3_2 hy2
    have g2 := blk3_f hy2 2
    have HX2 := Lib.hid hx2
    have HY2 := Lib.hid hy2
    have hne2 : w1.heap.size ≠ w.heap.size := by omega
    have hne3 : w.heap.size ≠ w1.heap.size := by omega
    clear hx2 hy2 HX1 HG1
    by_cases h20 : a2 = []
    · have q1 : (mk a2).toList = [] := by rw [mk_toList]; exact h20
      have q2 : (mk a2).toList.isEmpty = true := by simp [q1]
      have HR : Hid (res = some ⟨a0, a1, []⟩) := HP2.out.trans (HL3.out.trans (if_pos h20))
      clear HP2 HL3 h20
      go_wp2
      refine bodyPost_ret (results_user rfl rfl (blk3_set HX2.out _ _ _)) rfl ?_
      rw [HR.out]
      exact ⟨_, rfl, SRowT.nil_ _ _, below_set3 HB2.out (Nat.le_refl _) _ _ _⟩
    · have q1 : (mk a2).toList ≠ [] := by rw [mk_toList]; exact h20
      have q2 : (mk a2).toList.isEmpty = false := by simp [q1]
      have HR := Lib.hid (HP2.out.trans (HL3.out.trans (if_neg h20)))
      have S2 := Lib.hid (Split_any 44 a2 (by omega) W2 HG2.out)
      have hpl := pieces_len 44 a2
      clear HP2 HL3 h20
      generalize pieces 44 a2 = M at S2 HR hpl
      go_wp2_with fail
      refine S2.out.mono ?_
      rintro e W3 ⟨c3, rfl, hs3, hB3⟩
      have hx3 := (hB3.block w.heap.size (by omega)).trans HX2.out
      have hy3 := (hB3.block w1.heap.size (by omega)).trans HY2.out
      have HB3 := Lib.hid (HB2.out.trans (hB3.mono HB2.out.size))
      have hs4 := hs3.set ⟨w1.heap.size, 2, none⟩ hlt5 (.slice (some ⟨W2.heap.size, 0, none⟩) M.length c3)
      have C3 := Lib.hid (Contains_any _ _ M [] _ hs4.row (by omega))
      have HS4 := Lib.hid hs4
      clear z0 z1 z2 f0 f1 f2 y0 y1 y2 g2
      have z0 := blk3_0 hx3
      have z1 := blk3_1 hx3
      have z2 := blk3_2 hx3
      have f0 := blk3_f hx3 0
      have f1 := blk3_f hx3 1
      have f2 := blk3_f hx3 2
      have y0 := blk3_0 hy3
      have y1 := blk3_1 hy3
      have y2 := blk3_2 hy3
      have g2 := blk3_f hy3 2
      have HX3 := Lib.hid hx3
      have HY3 := Lib.hid hy3
      clear hs3 hB3 hx3 hy3 hs4 S2 HX2 HY2 hpl
      have hmk : (mk [] : ByteArray) = ⟨#[]⟩ := rfl
      rw [hmk] at C3
      generalize hcont : M.contains [] = cb at C3 HR
      clear hcont
      cases cb with
      | true =>
        have HR2 : Hid (res = none) := HR.out.trans (if_pos rfl)
        go_wp2_with (go_at_call 40; refine C3.out.mono ?_; rintro e w' ⟨rfl, rfl⟩)
        refine bodyPost_ret (results_user rfl rfl (blk3_set ((Below.heap_setCell _ _ _ _ hne3).trans HX3.out) _ _ _)) rfl ?_
        rw [HR2.out]
        exact ⟨_, rfl, SRowT.nil_ _ _, below_set3 (HB3.out.setCell (p := ⟨w1.heap.size, 2, none⟩) (by show w.heap.size ≤ w1.heap.size; omega) _) (Nat.le_refl _) _ _ _⟩
      | false =>
        have HR2 : Hid (res = some ⟨a0, a1, M⟩) := HR.out.trans (if_neg (by simp))
        go_wp2_with (go_at_call 40; refine C3.out.mono ?_; rintro e w' ⟨rfl, rfl⟩)
        refine bodyPost_ret (results_user rfl rfl (blk3_set ((Below.heap_setCell _ _ _ _ hne3).trans HX3.out) _ _ _)) rfl ?_
        rw [HR2.out]
        exact ⟨_, rfl, (((HS4.out.set ⟨w.heap.size, 0, none⟩ hlt6 _).set ⟨w.heap.size, 1, none⟩ hlt6 _).set ⟨w.heap.size, 2, none⟩ hlt6 _).mono (by omega), below_set3 (HB3.out.setCell (p := ⟨w1.heap.size, 2, none⟩) (by show w.heap.size ≤ w1.heap.size; omega) _) (Nat.le_refl _) _ _ _⟩
end Go.Proofs.YtadnkbhigcegmaaDoor
