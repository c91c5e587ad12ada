/-
  The walks over the statements of layer 5, first part.
-/
import Derived.Test.YtadnkbhigcegmaaDoorUx
import Derived.Shelf.Vars
namespace Go.Proofs.YtadnkbhigcegmaaDoor
open Go.RowKit

/-- What the row's world gives the walks. -/
theorem shapedG {W : World} (h : W.ShapedOpen Tryd.prog) : G W :=
  Go.Proofs.cell_of_shapedOpen_int (zero := #[.int .i64 0]) (t := 3) h (of_decide_eq_true (by kernel_rfl)) (by kernel_rfl) rfl (by kernel_rfl) (by kernel_rfl) Tryd.underlying3

theorem join_small {M : List (List UInt8)} (h1 : M.length ≤ 30) (h2 : ∀ j, j < M.length → (M.getD j []).length ≤ 200) : (joinL 44 M).length ≤ 30 * 201 := by
  have key : ∀ (N : List (List UInt8)), (∀ x ∈ N, x.length ≤ 200) → sumL N ≤ N.length * 201 := by
    intro N
    induction N with
    | nil => intro _; simp [sumL]
    | cons x r ih =>
      intro h
      rw [sumL_cons, List.length_cons]
      have := ih (fun y hy => h y (by simp [hy]))
      have := h x (by simp)
      omega
  have h3 : ∀ x ∈ M, x.length ≤ 200 := fun x hx => by
    obtain ⟨j, hj, rfl⟩ := List.getElem_of_mem hx
    rw [← getD_at hj]
    exact h2 j hj
  by_cases h0 : M = []
  · rw [h0, joinL_nil]; simp
  · have := sumL_join 44 M h0
    have := key M h3
    omega
theorem text_small {L : List U} (h : smallL L = true) : (textL L).length ≤ 1000000 := by
  obtain ⟨h1, h2⟩ := small_ok h
  have key : ∀ (N : List U), (∀ u ∈ N, okU u) → (textL N).length ≤ N.length * 6500 := by
    intro N
    induction N with
    | nil => intro _; simp [textL]
    | cons u r ih =>
      intro h
      have e : textL (u :: r) = lineT u ++ 10 :: textL r := by simp [textL]
      have hu := h u (by simp)
      have hj := join_small hu.1 hu.2.2.2
      have hl := lineT_len u
      have := ih (fun v hv => h v (by simp [hv]))
      have h3 := hu.2.1
      have h4 := hu.2.2.1
      rw [e, List.length_append, List.length_cons, List.length_cons]
      omega
  have := key L (fun u hu => by
    obtain ⟨k, hk, rfl⟩ := List.getElem_of_mem hu
    rw [← getL_get hk]; exact h2 k)
  omega
/-! the bounds of what is parsed -/
theorem endL_fst {acc : List U} : (endL acc).1 = acc ∨ (endL acc).1 = [] := by
  unfold endL; split
  · exact .inl rfl
  · exact .inr rfl
theorem prs_big {N : Nat} : ∀ (p : List (List UInt8)), (∀ y ∈ p, y.length ≤ N) → ∀ (acc : List U), (∀ k, BigU N (getL acc k)) → (∀ k, BigU N (getL (prs p acc).1 k)) ∧ (prs p acc).1.length ≤ acc.length + p.length := by
  intro p
  induction p with
  | nil =>
    intro _ acc h
    show (∀ k, BigU N (getL (endL acc).1 k)) ∧ (endL acc).1.length ≤ _
    rcases endL_fst (acc := acc) with e | e <;> rw [e]
    · exact ⟨h, by simp⟩
    · exact ⟨fun k => by simpa [getL] using BigU.zero N, by simp⟩
  | cons y r ih =>
    intro hp acc h
    have hnil : ∀ k, BigU N (getL [] k) := fun k => by simpa [getL] using BigU.zero N
    cases r with
    | nil =>
      simp only [prs]
      by_cases hy : y = []
      · rw [if_pos hy]
        rcases endL_fst (acc := acc) with e | e <;> rw [e]
        · exact ⟨h, by simp⟩
        · exact ⟨hnil, by simp⟩
      · rw [if_neg hy]; exact ⟨hnil, by simp⟩
    | cons z r =>
      cases hl : lineL y with
      | none => rw [prs_none (by simp) hl]; exact ⟨hnil, by simp⟩
      | some u =>
        rw [prs_some (by simp) hl]
        obtain ⟨a, b⟩ := ih (fun q hq => hp q (by simp [hq])) (acc ++ [u]) (bigAll_snoc h ((lineL_big hl).mono (hp y (by simp))))
        exact ⟨a, by simp at b ⊢; omega⟩
theorem parse_big (x : List UInt8) : (∀ k, BigU x.length (getL (parseL x).1 k)) ∧ (parseL x).1.length ≤ x.length + 1 := by
  obtain ⟨a, b⟩ := prs_big (N := x.length) (pieces 10 x) (fun y hy => pieces_mem hy) [] (fun k => by simpa [getL] using BigU.zero _)
  exact ⟨a, by have := pieces_len 10 x; simp at b; exact Nat.le_trans b this⟩
theorem parse_Big (x : List UInt8) (h : x.length ≤ 3000) : Big (parseL x).1 := by
  obtain ⟨a, b⟩ := parse_big x
  exact big_of (N := x.length) (by omega) (by omega) a
theorem parse_bound (x : List UInt8) (h : x.length ≤ 3000) : (parseL x).1.length ≤ 100000 ∧ Memb (parseL x).1 1000000 := ⟨(parse_Big x h).1, memb_of_big (parse_Big x h)⟩
theorem as_mk (s : ByteArray) : ∃ x, s = mk x := ⟨s.data.toList, (mk_of s).symm⟩

set_option maxRecDepth 100000 in
set_option maxHeartbeats 1600000 in
theorem userNames_walk (s : ByteArray) (hs : s.size ≤ maxLen) (W : World) (g : G W) :
    Calls Tryd.prog 3 #[.string s] W fun e w' => e = .returned (.bool true) ∧ Below W.heap.size W w' := by
  obtain ⟨x, rfl⟩ := as_mk s
  have A := Lib.hid (awake_any W g)
  have hz := mk_size x
  by_cases h : (mk x).size ≤ 2000
  · have V := Lib.hid (Valid_any x (by omega) W)
    have R := Lib.hid (RValid_any x (by omega) W)
    generalize validL x = r at V R
    clear hz hs
    go_enter Tryd.func3, Tryd.ntmps3
    go_wp2_with (first
      | (go_at_call 11; refine V.out.mono ?_; rintro e w' ⟨rfl, rfl⟩)
      | (go_at_call 12; refine R.out.mono ?_; rintro e w' ⟨rfl, rfl⟩)
      | (go_at_call 10; refine A.out.mono ?_))
    rintro e w2 ⟨rfl, hB⟩
    have HB := Lib.hid hB
    clear hB
    go_wp2
    go_ret
    exact ⟨rfl, HB.out⟩
  · clear hz
    go_enter Tryd.func3, Tryd.ntmps3
    go_wp2_with (go_at_call 10; refine A.out.mono ?_)
    rintro e w2 ⟨rfl, hB⟩
    have HB := Lib.hid hB
    clear hB
    go_wp2
    go_ret
    exact ⟨rfl, HB.out⟩

set_option maxRecDepth 100000 in
set_option maxHeartbeats 3200000 in
theorem userParses_walk (s : ByteArray) (hs : s.size ≤ maxLen) (W : World) (g : G W) :
    Calls Tryd.prog 6 #[.string s] W fun e w' => e = .returned (.bool true) ∧ Below W.heap.size W w' := by
  obtain ⟨x, rfl⟩ := as_mk s
  have A := Lib.hid (fun w' (h : Below W.heap.size W w') => awake_any w' (g.below h))
  have hz := mk_size x
  by_cases h : (mk x).size ≤ 3000
  · have V := Lib.hid (Parse_any x (by omega) W g)
    have R := Lib.hid (fun w' => RParse_any x (by omega) w')
    have hpb : (parseL x).1.length ≤ 100000 ∧ Memb (parseL x).1 1000000 := parse_bound x (by omega)
    have HP := Lib.hid hpb
    clear hz hs hpb
    generalize parseL x = r at V R HP
    obtain ⟨rl, ri, re⟩ := r
    dsimp only at V R HP
    go_enter Tryd.func6, Tryd.ntmps6
    go_wp2_with fail
    refine V.out.mono ?_
    rintro e w1 ⟨v1, rfl, hu1, hB1⟩
    have HB1 := Lib.hid hB1
    have HU1 := Lib.hid hu1
    clear hu1 hB1
    go_wp2_with fail
    refine (R.out _).mono ?_
    rintro e w2 ⟨v2, rfl, hu2, hB2⟩
    have HB2 := Lib.hid (HB1.out.trans (hB2.mono HB1.out.size))
    have S := Same_any v1 v2 rl rl w2 (HU1.out.below hB2) hu2 HP.out.1 HP.out.2
    rw [decide_eq_true (rfl : rl = rl)] at S
    replace S := Lib.hid S
    clear hu2 hB2
    go_wp2_with fail
    refine S.out.mono ?_
    rintro e w3 ⟨rfl, hB3⟩
    have HB3 := Lib.hid (HB2.out.trans (hB3.mono HB2.out.size))
    clear hB3
    go_wp2_with fail
    refine (A.out _ HB3.out).mono ?_
    rintro e w4 ⟨rfl, hB4⟩
    have HB4 := Lib.hid (HB3.out.trans (hB4.mono HB3.out.size))
    clear hB4
    go_wp2
    go_ret
    exact ⟨rfl, HB4.out⟩
  · clear hz
    go_enter Tryd.func6, Tryd.ntmps6
    go_wp2_with fail
    refine (A.out _ (Below.refl _ _)).mono ?_
    rintro e w2 ⟨rfl, hB⟩
    have HB := Lib.hid hB
    clear hB
    go_wp2
    go_ret
    exact ⟨rfl, HB.out⟩

set_option maxRecDepth 100000 in
set_option maxHeartbeats 3200000 in
theorem userCanonical_walk (s : ByteArray) (hs : s.size ≤ maxLen) (W : World) (g : G W) :
    Calls Tryd.prog 8 #[.string s] W fun e w' => e = .returned (.bool true) ∧ Below W.heap.size W w' := by
  obtain ⟨x, rfl⟩ := as_mk s
  have A := Lib.hid (fun w' (h : Below W.heap.size W w') => awake_any w' (g.below h))
  have hz := mk_size x
  by_cases h : (mk x).size ≤ 3000
  · have V := Lib.hid (Parse_any x (by omega) W g)
    have hBig := parse_Big x (by omega)
    have hErr := parse_err (x := x)
    have hOk := fun L i => print_parse (x := x) (L := L) (i := i)
    have HX : Hid (x.length ≤ 3000) := by rw [Hid]; omega
    clear hz hs
    generalize parseL x = r at V hBig hErr hOk
    obtain ⟨rl, ri, re⟩ := r
    dsimp only at V hBig hErr
    by_cases h0 : re = 0
    · obtain ⟨hc, ht⟩ := hOk rl ri (by rw [h0])
      have hne : (re != 0) = false := by simpa using h0
      have hpr : printL rl = (textL rl, (0 : Int)) := if_pos hc
      have C := Lib.hid (fun w' v (h : URow w' v rl) => Check_any v rl w' h hBig)
      have P := Lib.hid (fun w' v (h : URow w' v rl) => Print_any v rl w' h hBig (by rw [ht]; have := HX.out; omega))
      rw [hpr] at P
      rw [hc] at C
      dsimp only at P
      rw [ht] at P
      clear hOk hErr hc ht hpr h0
      go_enter Tryd.func8, Tryd.ntmps8
      go_wp2_with fail
      refine V.out.mono ?_
      rintro e w1 ⟨v1, rfl, hu1, hB1⟩
      have HB1 := Lib.hid hB1
      have P1 := Lib.hid (P.out _ _ hu1)
      have HU1 := Lib.hid hu1
      clear hu1 hB1
      go_wp2_with fail
      refine P1.out.mono ?_
      rintro e w2 ⟨rfl, hB2⟩
      have HB2 := Lib.hid (HB1.out.trans (hB2.mono HB1.out.size))
      have C2 := Lib.hid (C.out _ _ (HU1.out.below hB2))
      clear hB2 P1
      go_wp2_with fail
      refine C2.out.mono ?_
      rintro e w3 ⟨rfl, hB3⟩
      have HB3 := Lib.hid (HB2.out.trans (hB3.mono HB2.out.size))
      clear hB3 C2
      go_wp2_with fail
      refine (A.out _ HB3.out).mono ?_
      rintro e w4 ⟨rfl, hB4⟩
      have HB4 := Lib.hid (HB3.out.trans (hB4.mono HB3.out.size))
      clear hB4
      go_wp2
      go_ret
      exact ⟨rfl, HB4.out⟩
    · have hnil := hErr h0
      have hne : (re != 0) = true := by simpa using h0
      subst hnil
      clear hOk hErr h0 hBig
      go_enter Tryd.func8, Tryd.ntmps8
      go_wp2_with fail
      refine V.out.mono ?_
      rintro e w1 ⟨v1, rfl, hu1, hB1⟩
      have HB1 := Lib.hid hB1
      obtain ⟨q1, c1, rfl, _⟩ := hu1
      clear hB1
      go_wp2_with fail
      refine (A.out _ HB1.out).mono ?_
      rintro e w4 ⟨rfl, hB4⟩
      have HB4 := Lib.hid (HB1.out.trans (hB4.mono HB1.out.size))
      clear hB4
      go_wp2
      go_ret
      exact ⟨rfl, HB4.out⟩
  · clear hz
    go_enter Tryd.func8, Tryd.ntmps8
    go_wp2_with fail
    refine (A.out _ (Below.refl _ _)).mono ?_
    rintro e w2 ⟨rfl, hB⟩
    have HB := Lib.hid hB
    clear hB
    go_wp2
    go_ret
    exact ⟨rfl, HB.out⟩
end Go.Proofs.YtadnkbhigcegmaaDoor
