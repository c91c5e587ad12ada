/-
  The fixed examples with which every statement of layer 1 ends hold.
-/
import Derived.Test.YtddiaoilelcfkaaDoorNk
import Derived.Test.YtddiaoilelcfkaaDoorNn
namespace Go.Proofs.YtddiaoilelcfkaaDoor
open Go.RowKit

theorem toList_inj {L M : List ByteArray} (h : L.map (·.data.toList) = M.map (·.data.toList)) : L = M := by
  induction L generalizing M with
  | nil => cases M with
    | nil => rfl
    | cons _ _ => simp at h
  | cons x L ih => cases M with
    | nil => simp at h
    | cons y M =>
      simp only [List.map_cons, List.cons.injEq] at h
      rw [ih h.2, ByteArray.ext (Array.ext' h.1)]
theorem flds_ex : Lib.goFieldsP sepN ⟨#[32, 97, 98, 9, 99, 32]⟩ = [⟨#[97, 98]⟩, ⟨#[99]⟩] := by
  apply toList_inj
  rw [goFields_flds]
  decide
theorem row_two (w : World) (x y : ByteArray) : StrRow (w.alloc (.cells #[.string x, .string y] 9)) (.slice (some ⟨w.heap.size, 0, none⟩) 2 2) [x, y] := by
  refine ⟨some ⟨w.heap.size, 0, none⟩, 2, rfl, fun _ => ⟨w.heap.size, 0, rfl, by simp, fun j hj => ?_⟩⟩
  rw [World.cell?_alloc_new]
  match j, hj with
  | 0, _ => rfl
  | 1, _ => rfl

set_option maxRecDepth 100000 in
set_option maxHeartbeats 1600000 in
theorem awake_any (w : World) (g : G w) : Calls Tryd.prog 13 #[] w fun e w' => e = .returned (.bool true) ∧ Below w.heap.size w w' := by
  have HG := Lib.hid g
  have h1 := Parse_any ⟨#[49, 102]⟩ 16 31 ⟨by omega, by omega⟩ (by decide) w g
  rw [show parseR (⟨#[49, 102]⟩ : ByteArray).data.toList 16 31 = (31, 0) by decide] at h1
  have H1 := Lib.hid h1
  clear h1 g
  go_enter Tryd.func13, Tryd.ntmps13
  go_wp2_with fail
  refine H1.out.mono ?_
  rintro e w1 ⟨rfl, hB1⟩
  have h2 := Parse_any ⟨#[51, 50]⟩ 10 31 ⟨by omega, by omega⟩ (by decide) w1 (HG.out.below hB1)
  rw [show parseR (⟨#[51, 50]⟩ : ByteArray).data.toList 10 31 = (0, 5) by decide] at h2
  have H2 := Lib.hid h2
  have B1 := Lib.hid hB1
  clear h2 hB1 H1
  go_wp2_with fail
  refine H2.out.mono ?_
  rintro e w2 ⟨rfl, hB2⟩
  have B2 := Lib.hid (B1.out.trans (hB2.mono B1.out.size))
  clear hB2 H2 B1
  go_wp2_with fail
  refine (add_any 2 3 5 w2 ⟨by omega, by omega⟩ ⟨by omega, by omega⟩ ⟨by omega, by omega⟩).mono ?_
  rw [show addR 2 3 5 = (5, 0) by decide]
  rintro e w' ⟨rfl, rfl⟩
  have h3 := Text_any (-255) 16 ⟨by omega, by omega⟩ w2 (HG.out.below B2.out)
  rw [show textR (-255) 16 = [45, 102, 102] by decide] at h3
  have H3 := Lib.hid h3
  clear h3
  go_wp2_with fail
  refine H3.out.mono ?_
  rintro e w3 ⟨rfl, hB3⟩
  have B3 := Lib.hid (B2.out.trans (hB3.mono B2.out.size))
  have h4 := Text_any 8 8 ⟨by omega, by omega⟩ w3 (HG.out.below B3.out)
  rw [show textR 8 8 = [49, 48] by decide] at h4
  have H4 := Lib.hid h4
  clear h4 hB3 H3 B2
  go_wp2_with fail
  refine H4.out.mono ?_
  rintro e w4 ⟨rfl, hB4⟩
  have B4 := Lib.hid (B3.out.trans (hB4.mono B3.out.size))
  have h5 := Pad_any 5 8 3 ⟨by omega, by omega⟩ ⟨by omega, by omega⟩ w4 (HG.out.below B4.out)
  rw [show padR 5 8 3 = [48, 48, 53] by decide] at h5
  have H5 := Lib.hid h5
  clear h5 hB4 H4 B3
  go_wp2_with fail
  refine H5.out.mono ?_
  rintro e w5 ⟨rfl, hB5⟩
  have B5 := Lib.hid (B4.out.trans (hB5.mono B4.out.size))
  have h6 := Fields_any ⟨#[32, 97, 98, 9, 99, 32]⟩ w5 (by decide)
  rw [flds_ex] at h6
  have H6 := Lib.hid h6
  clear h6 hB5 H5 B4
  go_wp2_with fail
  refine H6.out.mono ?_
  rintro e w6 ⟨v, rfl, hv, hB6⟩
  have B6 := Lib.hid (B5.out.trans (hB6.mono B5.out.size))
  have HV := Lib.hid (StrRow.below hv ((Below.refl w6.heap.size w6).alloc (Nat.le_refl _) (.cells #[.string ⟨#[97, 98]⟩, .string ⟨#[99]⟩] 9)))
  clear hv hB6 H6 B5
  go_wp2_with fail
  refine (Same_any _ _ _ _ _ HV.out (row_two w6 _ _) (by decide) (by decide)).mono ?_
  rintro e w7 ⟨rfl, hB7⟩
  have B7 := Lib.hid ((B6.out.alloc B6.out.size _).trans (hB7.mono (by have := B6.out.size; simp; omega)))
  clear hB7 HV B6
  have hs : sameL [(⟨#[97, 98]⟩ : ByteArray), ⟨#[99]⟩] [⟨#[97, 98]⟩, ⟨#[99]⟩] = true := by simp [sameL]
  go_wp2
  go_ret
  exact ⟨rfl, B7.out⟩
end Go.Proofs.YtddiaoilelcfkaaDoor
