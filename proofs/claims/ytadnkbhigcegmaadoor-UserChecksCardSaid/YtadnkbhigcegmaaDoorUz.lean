/-
  The walks over the statements of layer 5, second part: those that take a list of users.
-/
import Derived.Test.YtadnkbhigcegmaaDoorUy
namespace Go.Proofs.YtadnkbhigcegmaaDoor
open Go.RowKit

theorem join_le {N : Nat} {M : List (List UInt8)} (h : ∀ x ∈ M, x.length ≤ N) : (joinL 44 M).length ≤ M.length * (N + 1) := by
  have key : ∀ (M : List (List UInt8)), (∀ x ∈ M, x.length ≤ N) → sumL M ≤ M.length * (N + 1) := by
    intro M
    induction M with
    | nil => intro _; simp [sumL]
    | cons x r ih =>
      intro h
      rw [sumL_cons, List.length_cons, Nat.succ_mul]
      have := ih (fun y hy => h y (by simp [hy]))
      have := h x (by simp)
      omega
  by_cases h0 : M = []
  · rw [h0, joinL_nil]; simp
  · have := sumL_join 44 M h0
    have := key M h
    omega
theorem text_valid {L : List U} (hs : smallL L = true) (hc : checkL L = 0) : (textL L).length ≤ 90000 := by
  obtain ⟨_, h2⟩ := small_ok hs
  have h64 := (check_ok hc).1
  have key : ∀ (N : List U), (∀ u ∈ N, goodU u ∧ u.m.length ≤ 30) → (textL N).length ≤ N.length * 1100 := by
    intro N
    induction N with
    | nil => intro _; simp [textL]
    | cons u r ih =>
      intro h
      have e : textL (u :: r) = lineT u ++ 10 :: textL r := by simp [textL]
      obtain ⟨hu, hm⟩ := h u (by simp)
      have hj := join_le (N := 32) (M := u.m) (fun x hx => valid_len (hu.2.2 x hx))
      have hl := lineT_len u
      have := ih (fun v hv => h v (by simp [hv]))
      have h3 := valid_len hu.1
      have h4 : u.l.length ≤ 32 := by
        rcases hu.2.1 with h | h
        · rw [h]; simp
        · exact valid_len h
      rw [e, List.length_append, List.length_cons, List.length_cons]
      omega
  have := key L (fun u hu => by
    obtain ⟨k, hk, rfl⟩ := List.getElem_of_mem hu
    rw [← getL_get hk]
    exact ⟨good_of hc hk, (h2 k).1⟩)
  omega

set_option maxRecDepth 100000 in
set_option maxHeartbeats 3200000 in
theorem userChecks_walk (v : Value) (L : List U) (W : World) (h : URow W v L) (g : G W) :
    Calls Tryd.prog 4 #[v] W fun e w' => e = .returned (.bool true) ∧ Below W.heap.size W w' := by
  have A := Lib.hid (fun w' (h : Below W.heap.size W w') => awake_any w' (g.below h))
  have S := Lib.hid (small_any v L W h)
  have HU := Lib.hid h
  cases hs : smallL L with
  | false =>
    rw [hs] at S
    clear hs h
    go_enter Tryd.func4, Tryd.ntmps4
    go_wp2_with (go_at_call 13; refine S.out.mono ?_; rintro e w' ⟨rfl, rfl⟩)
    refine (A.out _ (Below.refl _ _)).mono ?_
    rintro e w2 ⟨rfl, hB⟩
    have HB := Lib.hid hB
    clear hB
    go_wp2
    go_ret
    exact ⟨rfl, HB.out⟩
  | true =>
    rw [hs] at S
    have hBig := big_small hs
    have hT := text_small hs
    have P := Lib.hid (fun w' (hB : Below W.heap.size W w') => Print_any v L w' (h.below hB) hBig hT)
    have R := Lib.hid (fun w' (hB : Below W.heap.size W w') => RPrint_any v L w' (h.below hB) hBig hT)
    have C := Lib.hid (fun w' (hB : Below W.heap.size W w') => Check_any v L w' (h.below hB) hBig)
    have RC := Lib.hid (fun w' (hB : Below W.heap.size W w') => RCheck_any v L w' (h.below hB) hBig)
    generalize printL L = pr at P R
    generalize checkL L = ch at C RC
    obtain ⟨pt, pe⟩ := pr
    dsimp only at P R
    clear hs h hBig hT
    go_enter Tryd.func4, Tryd.ntmps4
    go_wp2_with (go_at_call 13; refine S.out.mono ?_; rintro e w' ⟨rfl, rfl⟩)
    refine (P.out _ (Below.refl _ _)).mono ?_
    rintro e w1 ⟨rfl, hB1⟩
    have HB1 := Lib.hid hB1
    clear hB1
    go_wp2_with fail
    refine (R.out _ HB1.out).mono ?_
    rintro e w2 ⟨rfl, hB2⟩
    have HB2 := Lib.hid (HB1.out.trans (hB2.mono HB1.out.size))
    clear hB2
    go_wp2_with fail
    refine (C.out _ HB2.out).mono ?_
    rintro e w3 ⟨rfl, hB3⟩
    have HB3 := Lib.hid (HB2.out.trans (hB3.mono HB2.out.size))
    clear hB3
    go_wp2_with fail
    refine (RC.out _ HB3.out).mono ?_
    rintro e w4 ⟨rfl, hB4⟩
    have HB4 := Lib.hid (HB3.out.trans (hB4.mono HB3.out.size))
    clear hB4
    go_wp2_with fail
    refine (A.out _ HB4.out).mono ?_
    rintro e w5 ⟨rfl, hB5⟩
    have HB5 := Lib.hid (HB4.out.trans (hB5.mono HB4.out.size))
    clear hB5
    go_wp2
    go_ret
    exact ⟨rfl, HB5.out⟩

set_option maxRecDepth 100000 in
set_option maxHeartbeats 3200000 in
theorem userInverse_walk (v : Value) (L : List U) (W : World) (h : URow W v L) (g : G W) :
    Calls Tryd.prog 7 #[v] W fun e w' => e = .returned (.bool true) ∧ Below W.heap.size W w' := by
  have A := Lib.hid (fun w' (h : Below W.heap.size W w') => awake_any w' (g.below h))
  have S := Lib.hid (small_any v L W h)
  have HU := Lib.hid h
  cases hs : smallL L with
  | false =>
    rw [hs] at S
    clear hs h
    go_enter Tryd.func7, Tryd.ntmps7
    go_wp2_with (go_at_call 13; refine S.out.mono ?_; rintro e w' ⟨rfl, rfl⟩)
    refine (A.out _ (Below.refl _ _)).mono ?_
    rintro e w2 ⟨rfl, hB⟩
    have HB := Lib.hid hB
    clear hB
    go_wp2
    go_ret
    exact ⟨rfl, HB.out⟩
  | true =>
    rw [hs] at S
    have hBig := big_small hs
    have hT := text_small hs
    have P := Lib.hid (fun w' (hB : Below W.heap.size W w') => Print_any v L w' (h.below hB) hBig hT)
    have C := Lib.hid (fun w' (hB : Below W.heap.size W w') => Check_any v L w' (h.below hB) hBig)
    have hM := memb_of_big hBig
    have hL := hBig.1
    by_cases hc : checkL L = 0
    · have hpr : printL L = (textL L, (0 : Int)) := if_pos hc
      have hlen : (textL L).length ≤ 90000 := text_valid hs hc
      have Pa := Lib.hid (fun w' (hB : Below W.heap.size W w') => Parse_any (textL L) hlen w' (g.below hB))
      rw [hpr] at P
      rw [parse_print hc] at Pa
      dsimp only at P Pa
      generalize textL L = T at P Pa
      have HML := Lib.hid (And.intro hL hM)
      clear hs h hBig hT hpr hc hlen hM hL C
      go_enter Tryd.func7, Tryd.ntmps7
      go_wp2_with (go_at_call 13; refine S.out.mono ?_; rintro e w' ⟨rfl, rfl⟩)
      refine (P.out _ (Below.refl _ _)).mono ?_
      rintro e w1 ⟨rfl, hB1⟩
      have HB1 := Lib.hid hB1
      clear hB1
      go_wp2_with fail
      refine (Pa.out _ HB1.out).mono ?_
      rintro e w2 ⟨v2, rfl, hu2, hB2⟩
      have HB2 := Lib.hid (HB1.out.trans (hB2.mono HB1.out.size))
      have Sm := Same_any v v2 L L w2 (HU.out.below HB2.out) hu2 HML.out.1 HML.out.2
      rw [decide_eq_true (rfl : L = L)] at Sm
      replace Sm := Lib.hid Sm
      clear hu2 hB2
      go_wp2_with fail
      refine Sm.out.mono ?_
      rintro e w3 ⟨rfl, hB3⟩
      have HB3 := Lib.hid (HB2.out.trans (hB3.mono HB2.out.size))
      clear hB3
      go_wp2_with fail
      refine (A.out _ HB3.out).mono ?_
      rintro e w5 ⟨rfl, hB5⟩
      have HB5 := Lib.hid (HB3.out.trans (hB5.mono HB3.out.size))
      clear hB5
      go_wp2
      go_ret
      exact ⟨rfl, HB5.out⟩
    · have hpr : printL L = ([], checkL L) := if_neg hc
      rw [hpr] at P
      dsimp only at P
      generalize checkL L = ch at P C hc
      have hne : (ch != 0) = true := by simpa using hc
      have ht : (mk []).toList = [] := mk_toList []
      clear hs h hBig hT hpr hc hM hL
      go_enter Tryd.func7, Tryd.ntmps7
      go_wp2_with (go_at_call 13; refine S.out.mono ?_; rintro e w' ⟨rfl, rfl⟩)
      refine (P.out _ (Below.refl _ _)).mono ?_
      rintro e w1 ⟨rfl, hB1⟩
      have HB1 := Lib.hid hB1
      clear hB1
      go_wp2_with fail
      refine (C.out _ HB1.out).mono ?_
      rintro e w3 ⟨rfl, hB3⟩
      have HB3 := Lib.hid (HB1.out.trans (hB3.mono HB1.out.size))
      clear hB3
      go_wp2_with fail
      refine (A.out _ HB3.out).mono ?_
      rintro e w5 ⟨rfl, hB5⟩
      have HB5 := Lib.hid (HB3.out.trans (hB5.mono HB3.out.size))
      clear hB5
      go_wp2
      go_ret
      exact ⟨rfl, HB5.out⟩
end Go.Proofs.YtadnkbhigcegmaaDoor
