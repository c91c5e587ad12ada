/-
  The walks over the statements of layer 6, second part: Parse and Text undo each other.
-/
import Derived.Test.YtogjkkijejgggaaDoorMp
namespace Go.Proofs.YtogjkkijejgggaaDoor
open Go.RowKit

theorem parse_text {m : Int} (h : vldB m = true) : parseI (textM m) = (m, 0) := by
  have e : textI m = textM m := by unfold textI; rw [h]; rfl
  unfold parseI
  rw [modeK_text h, if_pos ⟨rfl, e⟩]
theorem parse_ok {l : List UInt8} : (textI (parseI l).1 = l ∧ (parseI l).2 = 0 ∧ inI (parseI l).1) ∨ parseI l = (0, 2) := by
  unfold parseI
  split
  · rename_i h
    left
    refine ⟨h.2, rfl, ?_⟩
    have hv : vldB (modeK l 12) = true := by
      cases hv : vldB (modeK l 12) with
      | true => rfl
      | false =>
        have := h.2
        unfold textI at this
        rw [hv] at this
        have h1 := h.1
        rw [← this] at h1
        simp at h1
    show inI (modeK l 12)
    unfold vldB at hv
    simp only [decide_eq_true_eq] at hv
    unfold inI; omega
  · right; rfl

set_option maxRecDepth 100000 in
set_option maxHeartbeats 3200000 in
theorem permBack_walk (m : Int) (s : ByteArray) (hm : inI m) (hs : s.size ≤ maxLen) (W : World) (g : G W) :
    Calls Tryd.prog 6 #[.int .i64 m, .string s] W fun e w' => e = .returned (.bool true) ∧ Below W.heap.size W w' := by
  obtain ⟨l, rfl⟩ : ∃ l, s = mk l := ⟨s.data.toList, (mk_of s).symm⟩
  have A := Lib.hid (fun w' (h : Below W.heap.size W w') => alive_any w' (g.below h))
  have hsz := mk_size l
  by_cases hlen : l.length ≤ 100
  · have hs2 : ((mk l).size : Int) ≤ 100 := by omega
    have TA := Text_any m hm W g
    have PB := Lib.hid (fun w' (h : Below W.heap.size W w') => Parse_any l (by omega) w' (g.below h))
    have hPO := @parse_ok l
    have TT := Lib.hid (fun x (hx : inI x) w' (h : Below W.heap.size W w') => Text_any x hx w' (g.below h))
    generalize parseI l = p at *
    obtain ⟨p1, p2⟩ := p
    dsimp only at PB hPO
    have HPO : (p2 = 0 ∧ Hid (∀ w', Below W.heap.size W w' → Calls Tryd.prog 12 #[.int .i64 p1] w' fun e w'' => e = .returned (.string (mk l)) ∧ Below w'.heap.size w' w'')) ∨ (p1 = 0 ∧ p2 = 2) := by
      rcases hPO with ⟨a, b, c⟩ | e
      · left
        refine ⟨b, fun w' h => ?_⟩
        have := TT.out p1 c w' h
        rw [a] at this
        exact this
      · right; exact ⟨congrArg Prod.fst e, congrArg Prod.snd e⟩
    have hq0 : ((mk l).toList == (mk l).toList) = true := by simp
    clear hsz hlen TT hPO
    cases hv : vldB m with
    | true =>
      have et : textI m = textM m := by unfold textI; rw [hv]; rfl
      have PA := fun w' (h : Below W.heap.size W w') => Parse_any (textM m) (by rw [textM_len]; omega) w' (g.below h)
      rw [parse_text hv] at PA
      rw [et] at TA
      have hl11 : (mk (textM m)).size = 11 := by rw [mk_size]; rfl
      have hq1 : (mk (textM m)).toList ≠ [] := by rw [mk_toList]; simp [textM]
      have hq2 : (mk (textM m)).toList.isEmpty = false := by simp [hq1]
      generalize textM m = t at *
      replace PA := Lib.hid PA
      replace TA := Lib.hid TA
      clear et hv g hm
      rcases HPO with ⟨rfl, HT⟩ | ⟨rfl, rfl⟩
      all_goals
        go_enter Tryd.func6, Tryd.ntmps6
        go_wp2_with fail
        refine TA.out.mono ?_
        rintro e w1 ⟨rfl, hB⟩
        have HB := Lib.hid hB
        clear hB
        go_wp2_with fail
        refine (PA.out _ HB.out).mono ?_
        rintro e w2 ⟨rfl, hB⟩
        replace HB := Lib.hid (HB.out.trans (hB.mono HB.out.size))
        clear hB
        go_wp2_with fail
        refine (PB.out _ HB.out).mono ?_
        rintro e w3 ⟨rfl, hB⟩
        replace HB := Lib.hid (HB.out.trans (hB.mono HB.out.size))
        clear hB
        (try (go_wp2_with fail; refine (HT.out _ HB.out).mono ?_; rintro e w4 ⟨rfl, hB⟩; replace HB := Lib.hid (HB.out.trans (hB.mono HB.out.size)); clear hB))
        go_wp2_with fail
        refine (A.out _ HB.out).mono ?_
        rintro e w5 ⟨rfl, hB⟩
        replace HB := Lib.hid (HB.out.trans (hB.mono HB.out.size))
        clear hB
        go_wp2
        go_ret
        exact ⟨rfl, HB.out⟩
    | false =>
      have et : textI m = [] := by unfold textI; rw [hv]; rfl
      rw [et] at TA
      have hq1 : (mk []).toList = [] := mk_toList []
      have hq2 : (mk []).toList.isEmpty = true := by simp [hq1]
      replace TA := Lib.hid TA
      clear et hv g hm
      rcases HPO with ⟨rfl, HT⟩ | ⟨rfl, rfl⟩
      all_goals
        go_enter Tryd.func6, Tryd.ntmps6
        go_wp2_with fail
        refine TA.out.mono ?_
        rintro e w1 ⟨rfl, hB⟩
        have HB := Lib.hid hB
        clear hB
        go_wp2_with fail
        refine (PB.out _ HB.out).mono ?_
        rintro e w3 ⟨rfl, hB⟩
        replace HB := Lib.hid (HB.out.trans (hB.mono HB.out.size))
        clear hB
        (try (go_wp2_with fail; refine (HT.out _ HB.out).mono ?_; rintro e w4 ⟨rfl, hB⟩; replace HB := Lib.hid (HB.out.trans (hB.mono HB.out.size)); clear hB))
        go_wp2_with fail
        refine (A.out _ HB.out).mono ?_
        rintro e w5 ⟨rfl, hB⟩
        replace HB := Lib.hid (HB.out.trans (hB.mono HB.out.size))
        clear hB
        go_wp2
        go_ret
        exact ⟨rfl, HB.out⟩
  · have hs2 : (100 : Int) < ((mk l).size : Int) := by omega
    unfold maxLen at hs
    clear hlen hsz g
    go_enter Tryd.func6, Tryd.ntmps6
    go_wp2_with fail
    refine (A.out _ (Below.refl _ _)).mono ?_
    rintro e w1 ⟨rfl, hB⟩
    have HB := Lib.hid hB
    clear hB
    go_wp2
    go_ret
    exact ⟨rfl, HB.out⟩
end Go.Proofs.YtogjkkijejgggaaDoor
