/-
  awake: the chapter's examples hold.
-/
import Derived.Test.YtadnkbhigcegmaaDoorUv
namespace Go.Proofs.YtadnkbhigcegmaaDoor
open Go.RowKit

def oneA : List U := [⟨[97, 100, 109], [97, 110, 110], []⟩]
def threeT : List UInt8 := [97, 100, 109, 58, 97, 110, 110, 58, 97, 110, 110, 44, 98, 111, 98, 10, 97, 110, 110, 58, 58, 10, 98, 111, 98, 58, 58, 10]
def badT : List UInt8 := [97, 100, 109, 58, 58, 10, 97, 110, 110, 58, 10]
set_option maxRecDepth 100000 in
theorem three_print : printL threeL = (threeT, (0 : Int)) := by decide
set_option maxRecDepth 100000 in
theorem three_parse : parseL threeT = (threeL, (0 : Int), (0 : Int)) := by decide
set_option maxRecDepth 100000 in
theorem bad_parse : parseL badT = ([], (1 : Int), (2 : Int)) := by decide
theorem three_find : findL threeL [97, 110, 110] = ⟨[97, 110, 110], [], []⟩ ∧ hasL threeL [97, 110, 110] = true := by decide
theorem valid1 : validL [97, 110, 110, 45, 50] = true := by decide
theorem valid2 : validL [50, 97, 110, 110] = false := by decide
theorem check1 : checkL oneA = 26 := by decide
theorem member1 : memberL threeL [98, 111, 98] [97, 100, 109] = true := by decide
theorem leads1 : leadsL threeL [97, 110, 110] [97, 100, 109] = true := by decide
theorem leads2 : leadsL threeL [98, 111, 98] [97, 100, 109] = false := by decide
theorem getL_past {L : List U} {k : Nat} (h : L.length ≤ k) : getL L k = U0 := by simp [getL, List.getElem?_eq_none h]
theorem okU_zero : okU U0 := by decide
theorem small_ok {L : List U} (h : smallL L = true) : L.length ≤ 70 ∧ ∀ k, okU (getL L k) := by
  unfold smallL at h
  rw [Bool.and_eq_true, decide_eq_true_eq, decide_eq_true_eq] at h
  refine ⟨h.1, fun k => ?_⟩
  by_cases hk : k < L.length
  · exact h.2 k hk
  · rw [getL_past (by omega)]; exact okU_zero
theorem big_small {L : List U} (h : smallL L = true) : Big L := by
  obtain ⟨h1, h2⟩ := small_ok h
  refine ⟨by omega, fun k => ?_⟩
  obtain ⟨a, b, c, d⟩ := h2 k
  refine ⟨by omega, by omega, by omega, fun j => ?_⟩
  by_cases hj : j < (getL L k).m.length
  · have := d j hj; omega
  · simp [List.getElem?_eq_none (Nat.le_of_not_lt hj)]
theorem memb_of_big {L : List U} (h : Big L) : Memb L 1000000 := fun k => by have := (h.2 k).2.2.1; omega
theorem three_big : Big threeL := big_small (by decide)
theorem oneA_big : Big oneA := big_small (by decide)
theorem oneA_row (w : World) : URow (w.alloc (.cells #[.string ⟨#[97, 100, 109]⟩, .string ⟨#[97, 110, 110]⟩, .slice none 0 0] 32)) (.slice (some ⟨w.heap.size, 0, none⟩) 1 1) oneA := by
  have hx := heap_alloc_new w (.cells #[.string ⟨#[97, 100, 109]⟩, .string ⟨#[97, 110, 110]⟩, .slice none 0 0] 32 (0, 0))
  refine ⟨_, 1, rfl, Nat.le_refl _, by unfold maxLen; decide, fun _ => ⟨w.heap.size, 0, rfl, by simp, fun k hk => ?_⟩⟩
  have hk1 : k < 1 := hk
  have hc := fun j => cell_of_row _ _ j _ _ (0, 0) hx
  obtain rfl : k = 0 := by omega
  exact ⟨.slice none 0 0, (hc 0).trans rfl, (hc 1).trans rfl, (hc 2).trans rfl, SRow.nil_ _⟩

set_option maxRecDepth 100000 in
set_option maxHeartbeats 6400000 in
theorem awake_any (w : World) (g : G w) : Calls Tryd.prog 10 #[] w fun e w' => e = .returned (.bool true) ∧ Below w.heap.size w w' := by
  have HG := Lib.hid g
  have T := Lib.hid three_any
  clear g
  go_enter Tryd.func10, Tryd.ntmps10
  go_wp2_with fail
  refine (T.out _).mono ?_
  rintro e w1 ⟨v1, rfl, hu1, hB1⟩
  have HB1 := Lib.hid hB1
  have P1 := Print_any v1 threeL w1 hu1 three_big (by decide)
  rw [three_print] at P1
  replace P1 := Lib.hid P1
  have ht : ((mk threeT).toList == [97, 100, 109, 58, 97, 110, 110, 58, 97, 110, 110, 44, 98, 111, 98, 10, 97, 110, 110, 58, 58, 10, 98, 111, 98, 58, 58, 10]) = true := by rw [mk_toList]; decide
  have Pa := fun W (g : G W) => Parse_any threeT (by decide) W g
  have Pb := fun W (g : G W) => Parse_any badT (by decide) W g
  rw [three_parse] at Pa
  rw [bad_parse] at Pb
  have PA : Hid (∀ W, G W → Calls Tryd.prog 25 #[.string ⟨#[97, 100, 109, 58, 97, 110, 110, 58, 97, 110, 110, 44, 98, 111, 98, 10, 97, 110, 110, 58, 58, 10, 98, 111, 98, 58, 58, 10]⟩] W fun e w' => ∃ v, e = .returned (.tuple #[v, .int .i64 0, .int .i64 0]) ∧ URow w' v threeL ∧ Below W.heap.size W w') := Pa
  have PB : Hid (∀ W, G W → Calls Tryd.prog 25 #[.string ⟨#[97, 100, 109, 58, 58, 10, 97, 110, 110, 58, 10]⟩] W fun e w' => ∃ v, e = .returned (.tuple #[v, .int .i64 1, .int .i64 2]) ∧ URow w' v [] ∧ Below W.heap.size W w') := Pb
  clear hu1 hB1 Pa Pb
  dsimp only at P1
  generalize threeT = TT at P1 ht
  go_wp2_with fail
  refine P1.out.mono ?_
  rintro e w2 ⟨rfl, hB2⟩
  have HB2 := Lib.hid (HB1.out.trans (hB2.mono HB1.out.size))
  clear hB2
  go_wp2_with fail
  refine (PA.out w2 (HG.out.below HB2.out)).mono ?_
  rintro e w3 ⟨v3, rfl, hu3, hB3⟩
  have HB3 := Lib.hid (HB2.out.trans (hB3.mono HB2.out.size))
  have HU3 := Lib.hid hu3
  clear hu3 hB3
  go_wp2_with fail
  refine (PB.out w3 (HG.out.below HB3.out)).mono ?_
  rintro e w4 ⟨v4, rfl, _, hB4⟩
  have HB4 := Lib.hid (HB3.out.trans (hB4.mono HB3.out.size))
  have HU4 := Lib.hid (HU3.out.below hB4)
  clear hB4
  go_wp2_with fail
  refine (T.out _).mono ?_
  rintro e w5 ⟨v5, rfl, hu5, hB5⟩
  have HB5 := Lib.hid (HB4.out.trans (hB5.mono HB4.out.size))
  have S5 := Lib.hid (Same_any v3 v5 threeL threeL w5 (HU4.out.below hB5) hu5 (by decide) (memb_of_big three_big))
  have hdt : decide (threeL = threeL) = true := by decide
  rw [hdt] at S5
  clear hu5 hB5 hdt
  go_wp2_with fail
  refine S5.out.mono ?_
  rintro e w6 ⟨rfl, hB6⟩
  have HB6 := Lib.hid (HB5.out.trans (hB6.mono HB5.out.size))
  clear hB6
  go_wp2_with fail
  refine (T.out _).mono ?_
  rintro e w7 ⟨v7, rfl, hu7, hB7⟩
  have HB7 := Lib.hid (HB6.out.trans (hB7.mono HB6.out.size))
  have F7 := Find_any v7 threeL [97, 110, 110] w7 hu7 (by decide) (memb_of_big three_big)
  rw [three_find.1, three_find.2] at F7
  have F8 : Hid (Calls Tryd.prog 18 #[v7, .string ⟨#[97, 110, 110]⟩] w7 fun e w' => ∃ mv, e = .returned (.tuple #[.agg #[.string ⟨#[97, 110, 110]⟩, .string ⟨#[]⟩, mv], .bool true]) ∧ SRow w' mv [] ∧ Below w7.heap.size w7 w') := F7
  clear hu7 hB7 F7
  go_wp2_with fail
  refine F8.out.mono ?_
  rintro e w8 ⟨mv, rfl, hs8, hB8⟩
  obtain ⟨q8, c8, rfl, _⟩ := id hs8
  have HB8 := Lib.hid (HB7.out.trans (hB8.mono HB7.out.size))
  have VA : Hid (∀ W, Calls Tryd.prog 11 #[.string ⟨#[97, 110, 110, 45, 50]⟩] W fun e w' => e = .returned (.bool true) ∧ W = w') := fun W => by
    have := Valid_any [97, 110, 110, 45, 50] (by decide) W
    rw [valid1] at this
    exact this
  have VB : Hid (∀ W, Calls Tryd.prog 11 #[.string ⟨#[50, 97, 110, 110]⟩] W fun e w' => e = .returned (.bool false) ∧ W = w') := fun W => by
    have := Valid_any [50, 97, 110, 110] (by decide) W
    rw [valid2] at this
    exact this
  clear hs8 hB8
  have HB9 := fun o => Lib.hid (HB8.out.alloc HB8.out.size o)
  have CH : Hid (∀ W o, Calls Tryd.prog 16 #[.slice (some ⟨W.heap.size + 1, 0, none⟩) 1 1] ((W.alloc o).alloc (.cells #[.string ⟨#[97, 100, 109]⟩, .string ⟨#[97, 110, 110]⟩, .slice none 0 0] 32)) fun e w' => e = .returned (.int .i64 26) ∧ Below W.heap.size W w') := fun W o => by
    have := Check_any _ oneA _ (oneA_row (W.alloc o)) oneA_big
    rw [check1, World.size_alloc] at this
    refine this.mono ?_
    rintro e w' ⟨rfl, hB⟩
    exact ⟨rfl, (((Below.refl W.heap.size W).alloc (Nat.le_refl _) _).alloc (by simp) _).trans (hB.mono (by simp; omega))⟩
  go_wp2_with (first
    | (go_at_call 11; refine (VA.out _).mono ?_; clear VA; rintro e w' ⟨rfl, rfl⟩)
    | (go_at_call 11; refine (VB.out _).mono ?_; rintro e w' ⟨rfl, rfl⟩))
  refine (CH.out _ _).mono ?_
  rintro e w9 ⟨rfl, hB9'⟩
  have HB10 := Lib.hid (HB8.out.trans (hB9'.mono HB8.out.size))
  clear hB9' CH VB HB9
  go_wp2_with fail
  refine (T.out _).mono ?_
  rintro e w11 ⟨v11, rfl, hu11, hB11⟩
  have HB11 := Lib.hid (HB10.out.trans (hB11.mono HB10.out.size))
  have M11 := Member_any v11 threeL [98, 111, 98] [97, 100, 109] w11 hu11 (by decide) (memb_of_big three_big)
  rw [member1] at M11
  have M12 : Hid (Calls Tryd.prog 21 #[v11, .string ⟨#[98, 111, 98]⟩, .string ⟨#[97, 100, 109]⟩] w11 fun e w' => e = .returned (.bool true) ∧ Below w11.heap.size w11 w') := M11
  clear hu11 hB11 M11
  go_wp2_with fail
  refine M12.out.mono ?_
  rintro e w12 ⟨rfl, hB12⟩
  have HB12 := Lib.hid (HB11.out.trans (hB12.mono HB11.out.size))
  clear hB12 M12
  go_wp2_with fail
  refine (T.out _).mono ?_
  rintro e w13 ⟨v13, rfl, hu13, hB13⟩
  have HB13 := Lib.hid (HB12.out.trans (hB13.mono HB12.out.size))
  have L13 := Leads_any v13 threeL [97, 110, 110] [97, 100, 109] w13 hu13 (by decide) (memb_of_big three_big)
  rw [leads1] at L13
  have L14 : Hid (Calls Tryd.prog 23 #[v13, .string ⟨#[97, 110, 110]⟩, .string ⟨#[97, 100, 109]⟩] w13 fun e w' => e = .returned (.bool true) ∧ Below w13.heap.size w13 w') := L13
  clear hu13 hB13 L13
  go_wp2_with fail
  refine L14.out.mono ?_
  rintro e w14 ⟨rfl, hB14⟩
  have HB14 := Lib.hid (HB13.out.trans (hB14.mono HB13.out.size))
  clear hB14 L14
  go_wp2_with fail
  refine (T.out _).mono ?_
  rintro e w15 ⟨v15, rfl, hu15, hB15⟩
  have HB15 := Lib.hid (HB14.out.trans (hB15.mono HB14.out.size))
  have L15 := Leads_any v15 threeL [98, 111, 98] [97, 100, 109] w15 hu15 (by decide) (memb_of_big three_big)
  rw [leads2] at L15
  have L16 : Hid (Calls Tryd.prog 23 #[v15, .string ⟨#[98, 111, 98]⟩, .string ⟨#[97, 100, 109]⟩] w15 fun e w' => e = .returned (.bool false) ∧ Below w15.heap.size w15 w') := L15
  clear hu15 hB15 L15
  go_wp2_with fail
  refine L16.out.mono ?_
  rintro e w16 ⟨rfl, hB16⟩
  have HB16 := Lib.hid (HB15.out.trans (hB16.mono HB15.out.size))
  clear hB16 L16
  go_wp2_with fail
  go_ret
  exact ⟨rfl, HB16.out⟩
end Go.Proofs.YtadnkbhigcegmaaDoor
