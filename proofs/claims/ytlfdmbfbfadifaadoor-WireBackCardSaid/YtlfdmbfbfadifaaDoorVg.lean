/-
  An argument opened: an array of two strings.
-/
import Derived.Test.YtlfdmbfbfadifaaDoorZx
namespace Go.Proofs.YtlfdmbfbfadifaaDoor
open Go.RowKit Go.ChangeShapes Go.WideShapes

theorem cells_str2 : Tryd.prog.cellsOf 43 = 2 := by kernel_rfl
section
variable {H : Type} {enc : TypeId × Value → H} {W : World} {base : Nat} {spare : Nat → Bool} {held : Bool}
set_option maxRecDepth 100000 in
theorem open_str2 {r : Reach} {b0 : Nat} {v : Value} {d : DataW H} {p : List MemPlace} (hv : Value.okWide Tryd.prog W r b0 43 v) (h : DataW.Trod enc Tryd.prog W base spare held 43 v d p) :
    ∃ s t : ByteArray, v = .agg #[.string s, .string t] ∧ s.size ≤ maxLen ∧ t.size ≤ maxLen := by
  simp only [Value.okWide, Tryd.underlying43] at hv
  obtain ⟨cs, rfl, hsz, _⟩ := hv
  obtain ⟨l⟩ := cs
  obtain ⟨fuel, hf⟩ := h
  obtain ⟨xs, n, _, _, hlen, hxl, hg⟩ := DataW.trod_array Tryd.underlying43 hf
  match l, hsz.trans cells_str2 with
  | [c0, c1], _ =>
    match xs, hxl with
    | [y0, y1], _ =>
      have g0 := hg 0 (by omega)
      have g1 := hg 1 (by omega)
      rw [cells_str] at g0 g1
      have g0' : DataW.trod enc Tryd.prog W base spare held n 9 [c0] = some y0 := g0
      have g1' : DataW.trod enc Tryd.prog W base spare held n 9 [c1] = some y1 := g1
      obtain ⟨s0, e0, _, z0⟩ := DataW.trod_string Tryd.underlying9 g0'
      obtain ⟨s1, e1, _, z1⟩ := DataW.trod_string Tryd.underlying9 g1'
      obtain rfl : c0 = .string s0 := by simpa using e0
      obtain rfl : c1 = .string s1 := by simpa using e1
      exact ⟨s0, s1, rfl, z0, z1⟩
end
end Go.Proofs.YtlfdmbfbfadifaaDoor
