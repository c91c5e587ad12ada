/-
  Walks: few, alive.
-/
import Derived.Test.YtogjkkijejgggaaDoorMn
namespace Go.Proofs.YtogjkkijejgggaaDoor
open Go.RowKit

def FewOk (L : List U) (b : Bool) : Prop := b = true → L.length ≤ 100000 ∧ Memb L 1000000
theorem getL_past {L : List U} {k : Nat} (h : L.length ≤ k) : getL L k = U0 := by simp [getL, List.getElem?_eq_none h]
theorem few_end {L : List U} (h : ∀ j, j < L.length → (getL L j).m.length ≤ 100) : FewOk L (decide ((L.length : Int) ≤ 100)) := by
  intro hb
  have hb := of_decide_eq_true hb
  refine ⟨by omega, fun k => ?_⟩
  by_cases hk : k < L.length
  · have := h k hk; omega
  · rw [getL_past (by omega)]; simp [U0]
theorem few_go {L : List U} {k : Nat} (h : ∀ j, j < k → (getL L j).m.length ≤ 100) (he : (getL L k).m.length ≤ 100) : ∀ j, j < k + 1 → (getL L j).m.length ≤ 100 := fun j hj => by
  by_cases e : j = k
  · subst e; exact he
  · exact h j (by omega)

def SomeB (Ok : Bool → Prop) (w : World) (e : Ending) (w' : World) : Prop := ∃ b, e = .returned (.bool b) ∧ Ok b ∧ w = w'
set_option maxHeartbeats 1600000 in
theorem few_any (v : Value) (L : List U) (w : World) (h : URow w v L) :
    Calls Tryd.prog 20 #[v] w (SomeB (FewOk L) w) := by
  have HU := Lib.hid h
  obtain ⟨p, cap, rfl, hc, hm, _⟩ := h
  have hE := Lib.hid (@few_end L)
  have hN : Hid (FewOk L false) := fun h => by cases h
  generalize FewOk L = Ok at *
  unfold maxLen at hm
  go_enter Tryd.func20, Tryd.ntmps20
  go_wp2
  go_loop [6] (fun vi => ∃ k : Nat, vi = .int .i64 (k : Int) ∧ k ≤ L.length ∧ Hid (∀ j, j < k → (getL L j).m.length ≤ 100)) (fun vi => L.length - (intOf vi).toNat)
  case atStart => exact ⟨0, rfl, by omega, fun j hj => by omega⟩
  case round =>
    obtain ⟨k, rfl, hk, ha⟩ := hrel
    by_cases hlt : k < L.length
    · obtain ⟨b, o, cap', q, c, hp, hb, hcl, c0, c1, c2, hqc, hs⟩ := HU.out.at_ (Below.refl _ _) hlt
      obtain ⟨rfl, rfl⟩ : p = some ⟨b, o, none⟩ ∧ cap = cap' := by injection hp with h1 h2 h3; exact ⟨h1, h3⟩
      have hml : (getL L k).m.length ≤ 9223372036854775807 := by
        obtain ⟨_, cc, hv, _, hcm, _⟩ := hs
        unfold maxLen at hcm
        injection hv with h1 h2 h3
        omega
      clear hp hs c0 c1
      by_cases h100 : (getL L k).m.length ≤ 100
      · have HA := Lib.hid (few_go ha.out h100)
        generalize (getL L k).m.length = z at c2 hqc hml h100
        have ht : decide ((100 : Int) < (z : Int)) = false := by simp; omega
        go_wp2
        exact ⟨⟨k + 1, by go_num, by omega, HA⟩, by simp [intOf]; omega⟩
      · generalize (getL L k).m.length = z at c2 hqc hml h100
        have ht : decide ((100 : Int) < (z : Int)) = true := by simp; omega
        go_wp2
        go_ret
        exact ⟨_, rfl, hN.out, rfl⟩
    · have hkn : k = L.length := by omega
      have HA := Lib.hid (hE.out (by rw [← hkn]; exact ha.out))
      clear hkn
      go_wp2
      go_ret
      exact ⟨_, rfl, HA.out, rfl⟩

/-! ### alive -/
set_option maxRecDepth 100000 in
theorem ex_parse : parseI [97, 45, 114, 119, 45, 45, 45, 45, 45, 45, 45] = (1073742208, 0) := by decide
theorem ex_open16 : openI 16 = (6, 0) := by decide
theorem ex_open32 : openI 32 = (0, 12) := by decide
set_option maxRecDepth 100000 in
theorem ex_text1 : textI 2147484141 = [100, 45, 114, 119, 120, 114, 45, 120, 114, 45, 120] := by decide
set_option maxRecDepth 100000 in
theorem ex_text2 : textI 420 = [45, 45, 114, 119, 45, 114, 45, 45, 114, 45, 45] := by decide
theorem ex_text3 : textI 512 = [] := by decide
theorem ex_type : typeI 536871332 = 32 := by decide
theorem ex_inherit : inhI 2147484141 438 = 420 := by decide
theorem ex_allows1 : allowsI (memberL [] [97, 110, 110] [115, 121, 115]) (([97, 110, 110] : List UInt8) == [97, 110, 110]) 420 6 = true := by decide
theorem ex_allows2 : allowsI (memberL [] [98, 111, 98] [115, 121, 115]) (([98, 111, 98] : List UInt8) == [97, 110, 110]) 420 6 = false := by decide
theorem ex_allows3 : allowsI (memberL [] [98, 111, 98] [115, 121, 115]) (([98, 111, 98] : List UInt8) == [97, 110, 110]) 420 4 = true := by decide
theorem memb_nil (n : Nat) : Memb [] n := fun k => by simp [getL, U0]

set_option maxRecDepth 100000 in
set_option maxHeartbeats 6400000 in
theorem alive_any (w : World) (g : G w) : Calls Tryd.prog 9 #[] w fun e w' => e = .returned (.bool true) ∧ Below w.heap.size w w' := by
  have HG := Lib.hid g
  have PA : Hid (∀ W, G W → Calls Tryd.prog 10 #[.string ⟨#[97, 45, 114, 119, 45, 45, 45, 45, 45, 45, 45]⟩] W fun e w' => e = .returned (.tuple #[.int .i64 1073742208, .int .i64 0]) ∧ Below W.heap.size W w') := fun W g => by
    have := Parse_any [97, 45, 114, 119, 45, 45, 45, 45, 45, 45, 45] (by decide) W g
    rw [ex_parse] at this
    exact this
  have OA : Hid (∀ W, Calls Tryd.prog 16 #[.int .i64 16] W fun e w' => e = .returned (.tuple #[.int .i64 6, .int .i64 0]) ∧ W = w') := fun W => by
    have := Open_any 16 (by unfold inI; decide) W
    rw [ex_open16] at this
    exact this
  have OB : Hid (∀ W, Calls Tryd.prog 16 #[.int .i64 32] W fun e w' => e = .returned (.tuple #[.int .i64 0, .int .i64 12]) ∧ W = w') := fun W => by
    have := Open_any 32 (by unfold inI; decide) W
    rw [ex_open32] at this
    exact this
  have TA : Hid (∀ W, G W → Calls Tryd.prog 12 #[.int .i64 2147484141] W fun e w' => e = .returned (.string ⟨#[100, 45, 114, 119, 120, 114, 45, 120, 114, 45, 120]⟩) ∧ Below W.heap.size W w') := fun W g => by
    have := Text_any 2147484141 (by unfold inI; decide) W g
    rw [ex_text1] at this
    exact this
  have TB : Hid (∀ W, G W → Calls Tryd.prog 12 #[.int .i64 420] W fun e w' => e = .returned (.string ⟨#[45, 45, 114, 119, 45, 114, 45, 45, 114, 45, 45]⟩) ∧ Below W.heap.size W w') := fun W g => by
    have := Text_any 420 (by unfold inI; decide) W g
    rw [ex_text2] at this
    exact this
  have TC : Hid (∀ W, G W → Calls Tryd.prog 12 #[.int .i64 512] W fun e w' => e = .returned (.string ⟨#[]⟩) ∧ Below W.heap.size W w') := fun W g => by
    have := Text_any 512 (by unfold inI; decide) W g
    rw [ex_text3] at this
    exact this
  have YA : Hid (∀ W, Calls Tryd.prog 14 #[.int .i64 536871332] W fun e w' => e = .returned (.int .i64 32) ∧ W = w') := fun W => by
    have := Type_any 536871332 (by unfold inI; decide) W
    rw [ex_type] at this
    exact this
  have IA : Hid (∀ W, Calls Tryd.prog 18 #[.int .i64 2147484141, .int .i64 438] W fun e w' => e = .returned (.int .i64 420) ∧ W = w') := fun W => by
    have := Inherit_any 2147484141 438 (by unfold inI; decide) (by unfold inI; decide) W
    rw [ex_inherit] at this
    exact this
  have LA : Hid (∀ W, Calls Tryd.prog 21 #[.slice none 0 0, .string ⟨#[97, 110, 110]⟩, .string ⟨#[97, 110, 110]⟩, .string ⟨#[115, 121, 115]⟩, .int .i64 420, .int .i64 6] W fun e w' => e = .returned (.bool true) ∧ Below W.heap.size W w') := fun W => by
    have := Allows_any (.slice none 0 0) [] [97, 110, 110] [97, 110, 110] [115, 121, 115] 420 6 (by unfold inI; decide) W (URow.nil_ W) (by decide) (memb_nil _)
    rw [ex_allows1] at this
    exact this
  have LB : Hid (∀ W, Calls Tryd.prog 21 #[.slice none 0 0, .string ⟨#[98, 111, 98]⟩, .string ⟨#[97, 110, 110]⟩, .string ⟨#[115, 121, 115]⟩, .int .i64 420, .int .i64 6] W fun e w' => e = .returned (.bool false) ∧ Below W.heap.size W w') := fun W => by
    have := Allows_any (.slice none 0 0) [] [98, 111, 98] [97, 110, 110] [115, 121, 115] 420 6 (by unfold inI; decide) W (URow.nil_ W) (by decide) (memb_nil _)
    rw [ex_allows2] at this
    exact this
  have LC : Hid (∀ W, Calls Tryd.prog 21 #[.slice none 0 0, .string ⟨#[98, 111, 98]⟩, .string ⟨#[97, 110, 110]⟩, .string ⟨#[115, 121, 115]⟩, .int .i64 420, .int .i64 4] W fun e w' => e = .returned (.bool true) ∧ Below W.heap.size W w') := fun W => by
    have := Allows_any (.slice none 0 0) [] [98, 111, 98] [97, 110, 110] [115, 121, 115] 420 4 (by unfold inI; decide) W (URow.nil_ W) (by decide) (memb_nil _)
    rw [ex_allows3] at this
    exact this
  clear g
  go_enter Tryd.func9, Tryd.ntmps9
  go_wp2_with fail
  refine (PA.out _ HG.out).mono ?_
  rintro e w1 ⟨rfl, hB⟩
  have HB := Lib.hid hB
  clear hB
  go_wp2_with fail
  refine (OA.out _).mono ?_
  rintro e w' ⟨rfl, rfl⟩
  go_wp2_with fail
  refine (OB.out _).mono ?_
  rintro e w' ⟨rfl, rfl⟩
  go_wp2_with fail
  refine (TA.out _ (HG.out.below HB.out)).mono ?_
  rintro e w2 ⟨rfl, hB⟩
  replace HB := Lib.hid (HB.out.trans (hB.mono HB.out.size))
  clear hB
  go_wp2_with fail
  refine (TB.out _ (HG.out.below HB.out)).mono ?_
  rintro e w3 ⟨rfl, hB⟩
  replace HB := Lib.hid (HB.out.trans (hB.mono HB.out.size))
  clear hB
  go_wp2_with fail
  refine (TC.out _ (HG.out.below HB.out)).mono ?_
  rintro e w4 ⟨rfl, hB⟩
  replace HB := Lib.hid (HB.out.trans (hB.mono HB.out.size))
  clear hB
  go_wp2_with fail
  refine (YA.out _).mono ?_
  rintro e w' ⟨rfl, rfl⟩
  go_wp2_with fail
  refine (LA.out _).mono ?_
  rintro e w5 ⟨rfl, hB⟩
  replace HB := Lib.hid (HB.out.trans (hB.mono HB.out.size))
  clear hB
  go_wp2_with fail
  refine (LB.out _).mono ?_
  rintro e w6 ⟨rfl, hB⟩
  replace HB := Lib.hid (HB.out.trans (hB.mono HB.out.size))
  clear hB
  go_wp2_with fail
  refine (LC.out _).mono ?_
  rintro e w7 ⟨rfl, hB⟩
  replace HB := Lib.hid (HB.out.trans (hB.mono HB.out.size))
  clear hB
  go_wp2_with fail
  refine (IA.out _).mono ?_
  rintro e w' ⟨rfl, rfl⟩
  go_wp2
  go_ret
  exact ⟨rfl, HB.out⟩
end Go.Proofs.YtogjkkijejgggaaDoor
