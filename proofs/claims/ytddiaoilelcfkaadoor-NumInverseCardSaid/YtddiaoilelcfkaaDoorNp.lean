/-
  What the rows' lists give the walks; the walks over the statements of layer 1.
-/
import Derived.Test.YtddiaoilelcfkaaDoorNo
import Derived.Lib.LaidTab
import Derived.Stop.LaidErr
import Derived.MakeChecks
namespace Go.Proofs.YtddiaoilelcfkaaDoor
open Go.RowKit Go.ChangeShapes

theorem inI_of_wf {n : Int} (h : (Lit.int .i64 n).wf = true) : inI n := by
  simpa [Lit.wf, IntKind.min, IntKind.max, IntKind.signed, IntKind.bits, inI] using h

theorem gd64 : Tryd.prog.globalNamed "math/bits.deBruijn64tab" = some 5 := by kernel_rfl
theorem gd64t : (Tryd.prog.globals[5]?).map (·.type) = some 101 := by kernel_rfl
theorem gpowt : (Tryd.prog.globals[0]?).map (·.type) = some 85 := by kernel_rfl
theorem cu8 : Tryd.prog.cellsOf 5 = 1 := by kernel_rfl
theorem cu64 : Tryd.prog.cellsOf 66 = 1 := by kernel_rfl
theorem c64u8 : Tryd.prog.cellsOf 101 = 64 := by kernel_rfl
theorem c20 : Tryd.prog.cellsOf 85 = 20 := by kernel_rfl
theorem gS : Tryd.prog.globalNamed "strconv.ErrSyntax" = some 1 := by kernel_rfl
theorem gR : Tryd.prog.globalNamed "strconv.ErrRange" = some 2 := by kernel_rfl
theorem gSt : (Tryd.prog.globals[1]?).map (·.type) = some 40 := by kernel_rfl
theorem gRt : (Tryd.prog.globals[2]?).map (·.type) = some 40 := by kernel_rfl
theorem star : "*" ++ "errors.errorString" = "*errors.errorString" := by decide
theorem rowE (u : TypeId) (h : Tryd.prog.typeName? 3 u = some "*errors.errorString") : u = 97 :=
  typeName_ptr_named (nm := "errors.errorString") (by rw [star]; kernel_rfl) (by kernel_rfl) (by decide) u (by rw [star]; exact h)
theorem cES : Tryd.prog.cellsOf 99 = 1 := by kernel_rfl
theorem cS : Tryd.prog.cellsOf 9 = 1 := by kernel_rfl

/-- From the row's list to what the walks ask. -/
theorem laidG {W : World} (h0 : laidMetH Tryd.prog [("math/bits.deBruijn32tab", Rows.laid_math_bits_deBruijn32tab), ("math/bits.deBruijn64tab", Rows.laid_math_bits_deBruijn64tab), ("internal/strconv.uint64pow10", Rows.laid_internal_strconv_uint64pow10), ("strconv.ErrRange", Rows.laid_strconv_ErrRange), ("strconv.ErrSyntax", Rows.laid_strconv_ErrSyntax)] W) : G W := by
  rw [MakeChecks.laidMetH_plain _ _ _ (by kernel_rfl)] at h0
  have h1 := h0.tail
  have h2 := h1.tail
  have h3 := h2.tail
  have h4 := h3.tail
  have hd : Lib.TabIs Tryd.prog W "math/bits.deBruijn64tab" .u8 [0, 1, 56, 2, 57, 49, 28, 3, 61, 58, 42, 50, 38, 29, 17, 4, 62, 47, 59, 36, 45, 43, 51, 22, 53, 39, 33, 30, 24, 18, 12, 5, 63, 55, 48, 27, 60, 41, 37, 16, 46, 35, 44, 21, 52, 32, 23, 11, 54, 26, 40, 15, 34, 20, 31, 10, 25, 14, 19, 9, 13, 8, 7, 6] :=
    Lib.tabIs_of_head gd64 gd64t Tryd.underlying101 Tryd.underlying5 cu8 c64u8 h1
  have hp : Lib.TabIs Tryd.prog W "internal/strconv.uint64pow10" .u64 Lib.pow10Tab := Lib.tabIs_of_head gpow gpowt Tryd.underlying85 Tryd.underlying66 cu64 c20 h2
  have c7 := hd.cell gd64 7 (by decide)
  have c15 := hd.cell gd64 15 (by decide)
  obtain ⟨a0, s0, hr, _⟩ := laid_sentinel h3 gR gRt Tryd.underlying40 rowE Tryd.underlying97 Tryd.underlying99 rfl rfl Tryd.underlying9 cES cS
  obtain ⟨a1, s1, hs, _⟩ := laid_sentinel h4 gS gSt Tryd.underlying40 rowE Tryd.underlying97 Tryd.underlying99 rfl rfl Tryd.underlying9 cES cS
  refine ⟨hp, by simpa using c7, by simpa using c15, ⟨_, _, by simpa using World.var?_cell gS hs 0⟩, ⟨_, _, by simpa using World.var?_cell gR hr 0⟩, ?_⟩
  rcases Nat.lt_or_ge 5 W.heap.size with h | h
  · exact h
  · exfalso
    have : W.cell? ⟨5, 7, none⟩ = none := by simp [World.cell?, Array.getElem?_eq_none (show W.heap.size ≤ 5 from h)]
    rw [this] at c7; cases c7

set_option maxRecDepth 100000 in
set_option maxHeartbeats 1600000 in
theorem numAdds_walk (a b m : Int) (ha : inI a) (hb : inI b) (hm : inI m) (W : World) (g : G W) :
    Calls Tryd.prog 8 #[.int .i64 a, .int .i64 b, .int .i64 m] W fun e w' => e = .returned (.bool true) ∧ Below W.heap.size W w' := by
  have A1 := Lib.hid (add_any a b m W ha hb hm)
  have A2 := Lib.hid (addref_any a b m W ha hb hm)
  have A3 := Lib.hid (awake_any W g)
  clear ha hb hm g
  generalize addR a b m = r at A1 A2
  obtain ⟨r1, r2⟩ := r
  go_enter Tryd.func8, Tryd.ntmps8
  go_wp2_with fail
  refine A1.out.mono ?_
  rintro e w' ⟨rfl, rfl⟩
  go_wp2_with fail
  refine A2.out.mono ?_
  rintro e w' ⟨rfl, rfl⟩
  go_wp2_with fail
  refine A3.out.mono ?_
  rintro e w' ⟨rfl, hB⟩
  go_wp2
  go_ret
  exact ⟨rfl, hB⟩
end Go.Proofs.YtddiaoilelcfkaaDoor
