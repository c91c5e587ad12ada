/-
  What the rows' lists give the walks; arguments opened: a description.
-/
import Derived.Test.YtinjnbcikoejkaaDoorSc
import Derived.Test.YtinjnbcikoejkaaDoorSe
import Derived.Lib.LaidU8
import Derived.MakeChecks
import Derived.Deep.Slices
import Derived.SliceStrings
import Derived.ChangeSame
import Derived.Carry
import Derived.OpenShut
namespace Go.Proofs.YtinjnbcikoejkaaDoor
open Go.RowKit Go.ChangeShapes Go.WideShapes

theorem cells_dir : Tryd.prog.cellsOf 25 = 13 := by kernel_rfl
theorem cells_qid : Tryd.prog.cellsOf 23 = 3 := by kernel_rfl
theorem cells_str : Tryd.prog.cellsOf 9 = 1 := by kernel_rfl
theorem cells_int : Tryd.prog.cellsOf 3 = 1 := by kernel_rfl
theorem cells_bool : Tryd.prog.cellsOf 4 = 1 := by kernel_rfl
theorem qid_fields : ∃ f0 f1 f2 : Field, Tryd.prog.underlying 23 = some (.struct #[f0, f1, f2]) ∧ f0.type = 3 ∧ f1.type = 3 ∧ f2.type = 3 ∧ f0.offset = 0 ∧ f1.offset = 1 ∧ f2.offset = 2 :=
  ⟨_, _, _, Tryd.underlying23, rfl, rfl, rfl, rfl, rfl, rfl⟩
theorem dir_fields : ∃ f0 f1 f2 f3 f4 f5 f6 f7 f8 f9 f10 : Field, Tryd.prog.underlying 25 = some (.struct #[f0, f1, f2, f3, f4, f5, f6, f7, f8, f9, f10]) ∧ f0.type = 3 ∧ f1.type = 3 ∧ f2.type = 23 ∧ f3.type = 3 ∧ f4.type = 3 ∧ f5.type = 3 ∧ f6.type = 3 ∧ f7.type = 9 ∧ f8.type = 9 ∧ f9.type = 9 ∧ f10.type = 9 ∧ f0.offset = 0 ∧ f1.offset = 1 ∧ f2.offset = 2 ∧ f3.offset = 5 ∧ f4.offset = 6 ∧ f5.offset = 7 ∧ f6.offset = 8 ∧ f7.offset = 9 ∧ f8.offset = 10 ∧ f9.offset = 11 ∧ f10.offset = 12 :=
  ⟨_, _, _, _, _, _, _, _, _, _, _, Tryd.underlying25, rfl, rfl, rfl, rfl, rfl, rfl, rfl, rfl, rfl, rfl, rfl, rfl, rfl, rfl, rfl, rfl, rfl, rfl, rfl, rfl, rfl, rfl⟩
section
variable {H : Type} {enc : TypeId × Value → H} {W : World} {base : Nat} {spare : Nat → Bool} {held : Bool}
theorem open_qidC {fuel : Nat} {c0 c1 c2 : Value} {x : DataW H × List MemPlace} (h : DataW.trod enc Tryd.prog W base spare held fuel 23 [c0, c1, c2] = some x) : ∃ a b c : Int, c0 = .int .i64 a ∧ c1 = .int .i64 b ∧ c2 = .int .i64 c ∧ inI a ∧ inI b ∧ inI c := by
  obtain ⟨f0, f1, f2, hu, t0, t1, t2, o0, o1, o2⟩ := qid_fields
  obtain ⟨xs, n, _, _, _, hxl, hg⟩ := DataW.trod_struct hu h
  match xs, hxl with
  | [y0, y1, y2], _ =>
    have g0 := hg 0 f0 rfl
    have g1 := hg 1 f1 rfl
    have g2 := hg 2 f2 rfl
    rw [o0, t0, cells_int] at g0
    rw [o1, t1, cells_int] at g1
    rw [o2, t2, cells_int] at g2
    have g0' : DataW.trod enc Tryd.prog W base spare held n 3 [c0] = some y0 := g0
    have g1' : DataW.trod enc Tryd.prog W base spare held n 3 [c1] = some y1 := g1
    have g2' : DataW.trod enc Tryd.prog W base spare held n 3 [c2] = some y2 := g2
    obtain ⟨n0, e0, _, w0⟩ := DataW.trod_int Tryd.underlying3 g0'
    obtain ⟨n1, e1, _, w1⟩ := DataW.trod_int Tryd.underlying3 g1'
    obtain ⟨n2, e2, _, w2⟩ := DataW.trod_int Tryd.underlying3 g2'
    exact ⟨n0, n1, n2, by simpa using e0, by simpa using e1, by simpa using e2, inI_of_wf w0, inI_of_wf w1, inI_of_wf w2⟩
/-- A description's cells. -/
theorem open_dirC {fuel : Nat} {l : List Value} {x : DataW H × List MemPlace} (h : DataW.trod enc Tryd.prog W base spare held fuel 25 l = some x) : ∃ d : DD, l = cellsD d ∧ inD d ∧ bigD d := by
  obtain ⟨f0, f1, f2, f3, f4, f5, f6, f7, f8, f9, f10, hu, t0, t1, t2, t3, t4, t5, t6, t7, t8, t9, t10, o0, o1, o2, o3, o4, o5, o6, o7, o8, o9, o10⟩ := dir_fields
  obtain ⟨xs, n, _, _, hlen, hxl, hg⟩ := DataW.trod_struct hu h
  rw [cells_dir] at hlen
  match l, hlen with
  | [c0, c1, c2, c3, c4, c5, c6, c7, c8, c9, c10, c11, c12], _ =>
    match xs, hxl with
    | [y0, y1, y2, y3, y4, y5, y6, y7, y8, y9, y10], _ =>
      have g0 := hg 0 f0 rfl
      rw [o0, t0, cells_int] at g0
      have g0' : DataW.trod enc Tryd.prog W base spare held n 3 [c0] = some y0 := g0
      obtain ⟨n0, e0, _, w0⟩ := DataW.trod_int Tryd.underlying3 g0'
      obtain rfl : c0 = .int .i64 n0 := by simpa using e0
      have g1 := hg 1 f1 rfl
      rw [o1, t1, cells_int] at g1
      have g1' : DataW.trod enc Tryd.prog W base spare held n 3 [c1] = some y1 := g1
      obtain ⟨n1, e1, _, w1⟩ := DataW.trod_int Tryd.underlying3 g1'
      obtain rfl : c1 = .int .i64 n1 := by simpa using e1
      have g2 := hg 2 f2 rfl
      rw [o2, t2, cells_qid] at g2
      have g2' : DataW.trod enc Tryd.prog W base spare held n 23 [c2, c3, c4] = some y2 := g2
      obtain ⟨n2, n3, n4, rfl, rfl, rfl, i2, i3, i4⟩ := open_qidC g2'
      have g3 := hg 3 f3 rfl
      rw [o3, t3, cells_int] at g3
      have g3' : DataW.trod enc Tryd.prog W base spare held n 3 [c5] = some y3 := g3
      obtain ⟨n5, e3, _, w5⟩ := DataW.trod_int Tryd.underlying3 g3'
      obtain rfl : c5 = .int .i64 n5 := by simpa using e3
      have g4 := hg 4 f4 rfl
      rw [o4, t4, cells_int] at g4
      have g4' : DataW.trod enc Tryd.prog W base spare held n 3 [c6] = some y4 := g4
      obtain ⟨n6, e4, _, w6⟩ := DataW.trod_int Tryd.underlying3 g4'
      obtain rfl : c6 = .int .i64 n6 := by simpa using e4
      have g5 := hg 5 f5 rfl
      rw [o5, t5, cells_int] at g5
      have g5' : DataW.trod enc Tryd.prog W base spare held n 3 [c7] = some y5 := g5
      obtain ⟨n7, e5, _, w7⟩ := DataW.trod_int Tryd.underlying3 g5'
      obtain rfl : c7 = .int .i64 n7 := by simpa using e5
      have g6 := hg 6 f6 rfl
      rw [o6, t6, cells_int] at g6
      have g6' : DataW.trod enc Tryd.prog W base spare held n 3 [c8] = some y6 := g6
      obtain ⟨n8, e6, _, w8⟩ := DataW.trod_int Tryd.underlying3 g6'
      obtain rfl : c8 = .int .i64 n8 := by simpa using e6
      have g7 := hg 7 f7 rfl
      rw [o7, t7, cells_str] at g7
      have g7' : DataW.trod enc Tryd.prog W base spare held n 9 [c9] = some y7 := g7
      obtain ⟨s9, e7, _, w9⟩ := DataW.trod_string Tryd.underlying9 g7'
      obtain rfl : c9 = .string s9 := by simpa using e7
      have g8 := hg 8 f8 rfl
      rw [o8, t8, cells_str] at g8
      have g8' : DataW.trod enc Tryd.prog W base spare held n 9 [c10] = some y8 := g8
      obtain ⟨s10, e8, _, w10⟩ := DataW.trod_string Tryd.underlying9 g8'
      obtain rfl : c10 = .string s10 := by simpa using e8
      have g9 := hg 9 f9 rfl
      rw [o9, t9, cells_str] at g9
      have g9' : DataW.trod enc Tryd.prog W base spare held n 9 [c11] = some y9 := g9
      obtain ⟨s11, e9, _, w11⟩ := DataW.trod_string Tryd.underlying9 g9'
      obtain rfl : c11 = .string s11 := by simpa using e9
      have g10 := hg 10 f10 rfl
      rw [o10, t10, cells_str] at g10
      have g10' : DataW.trod enc Tryd.prog W base spare held n 9 [c12] = some y10 := g10
      obtain ⟨s12, e10, _, w12⟩ := DataW.trod_string Tryd.underlying9 g10'
      obtain rfl : c12 = .string s12 := by simpa using e10
      refine ⟨⟨n0, n1, n2, n3, n4, n5, n6, n7, n8, s9.data.toList, s10.data.toList, s11.data.toList, s12.data.toList⟩, by simp [cellsD, mk_of], fun k hk => ?_, fun k hk => ?_⟩
      · rcases k9 hk with rfl | rfl | rfl | rfl | rfl | rfl | rfl | rfl | rfl
        · exact inI_of_wf w0
        · exact inI_of_wf w1
        · exact i2
        · exact i3
        · exact i4
        · exact inI_of_wf w5
        · exact inI_of_wf w6
        · exact inI_of_wf w7
        · exact inI_of_wf w8
      · rcases k4 hk with rfl | rfl | rfl | rfl
        · exact w9
        · exact w10
        · exact w11
        · exact w12
/-- A description as an argument. -/
theorem open_dir {r : Reach} {b0 : Nat} {v : Value} {d : DataW H} {p : List MemPlace} (hv : Value.okWide Tryd.prog W r b0 25 v) (h : DataW.Trod enc Tryd.prog W base spare held 25 v d p) :
    ∃ x : DD, v = dirV x ∧ inD x ∧ bigD x := by
  obtain ⟨_, _, _, _, _, _, _, _, _, _, _, hu, _⟩ := dir_fields
  obtain ⟨cs, rfl, hsz⟩ := okWide_struct hu hv
  obtain ⟨l⟩ := cs
  obtain ⟨fuel, hf⟩ := h
  have hf' : DataW.trod enc Tryd.prog W base spare held fuel 25 l = some (d, p) := hf
  obtain ⟨x, rfl, h1, h2⟩ := open_dirC hf'
  exact ⟨x, rfl, h1, h2⟩

/-! ### The table of formats -/
theorem format_fields : ∃ f0 f1 f2 : Field, Tryd.prog.underlying 49 = some (.struct #[f0, f1, f2]) ∧ f0.type = 3 ∧ f1.type = 3 ∧ f2.type = 4 ∧ f0.offset = 0 ∧ f1.offset = 1 ∧ f2.offset = 2 :=
  ⟨_, _, _, Tryd.underlying49, rfl, rfl, rfl, rfl, rfl, rfl⟩
theorem cells_format : Tryd.prog.cellsOf 49 = 3 := by kernel_rfl
theorem format_cells {fuel : Nat} {cs : List Value} {a b : Int} {c : Bool} {p : List MemPlace} (h : DataW.trod enc Tryd.prog W base spare held fuel 49 cs = some (.agg [.lit (.int .i64 a), .lit (.int .i64 b), .lit (.bool c)], p)) :
    cs = [.int .i64 a, .int .i64 b, .bool c] := by
  obtain ⟨f0, f1, f2, hu, t0, t1, t2, o0, o1, o2⟩ := format_fields
  obtain ⟨xs, n, _, hx, hlen, hxl, hf⟩ := DataW.trod_struct hu h
  rw [cells_format] at hlen
  match cs, hlen with
  | [c0, c1, c2], _ =>
    match xs, hxl with
    | [y0, y1, y2], _ =>
      have g0 := hf 0 f0 rfl
      have g1 := hf 1 f1 rfl
      have g2 := hf 2 f2 rfl
      rw [o0, t0, cells_int] at g0
      rw [o1, t1, cells_int] at g1
      rw [o2, t2, cells_bool] at g2
      have g0' : DataW.trod enc Tryd.prog W base spare held n 3 [c0] = some y0 := g0
      have g1' : DataW.trod enc Tryd.prog W base spare held n 3 [c1] = some y1 := g1
      have g2' : DataW.trod enc Tryd.prog W base spare held n 4 [c2] = some y2 := g2
      obtain ⟨n0, e0, x0, _⟩ := DataW.trod_int Tryd.underlying3 g0'
      obtain ⟨n1, e1, x1, _⟩ := DataW.trod_int Tryd.underlying3 g1'
      obtain ⟨n2, e2, x2⟩ := DataW.trod_bool Tryd.underlying4 g2'
      subst x0 x1 x2
      obtain rfl : c0 = .int .i64 n0 := by simpa using e0
      obtain rfl : c1 = .int .i64 n1 := by simpa using e1
      obtain rfl : c2 = .bool n2 := by simpa using e2
      simp at hx
      simp [hx]
end
theorem gformats : Tryd.prog.globalNamed "filespace/stat.formats" = some 0 := by kernel_rfl
theorem gformats_t : (Tryd.prog.globals[0]?).map (·.type) = some 50 := by kernel_rfl
theorem formats_at : (Rows.laid_filespace_stat_formats (H := Unit)) = .agg ((List.range 9).map fun k => .agg [.lit (.int .i64 (fW k : Int)), .lit (.int .i64 (fG k : Int)), .lit (.bool (fS k))]) := by
  kernel_rfl
theorem formats_get (k : Nat) (hk : k < 9) : formatsL[k * 3]? = some (.int .i64 (fW k : Int)) ∧ formatsL[k * 3 + 1]? = some (.int .i64 (fG k : Int)) ∧ formatsL[k * 3 + 2]? = some (.bool (fS k)) := by
  rcases k9 hk with rfl | rfl | rfl | rfl | rfl | rfl | rfl | rfl | rfl
  all_goals exact ⟨rfl, rfl, rfl⟩
/-- From the row's list to what the walks ask. -/
theorem laidG {W : World} (h0 : laidMetH Tryd.prog [("filespace/stat.formats", Rows.laid_filespace_stat_formats)] W) : G W := by
  rw [MakeChecks.laidMetH_plain _ _ _ (by kernel_rfl)] at h0
  obtain ⟨g', t', cs, fuel, p, hg', ht', hvar, hd⟩ := Lib.laidMet.reads h0 (List.Mem.head _)
  obtain rfl := Option.some.inj (gformats.symm.trans hg')
  obtain rfl := Option.some.inj (gformats_t.symm.trans ht')
  have key : ∀ k, k < 9 → (cs.toList.drop (k * 3)).take 3 = [.int .i64 (fW k : Int), .int .i64 (fG k : Int), .bool (fS k)] := fun k hk => by
    rw [formats_at] at hd
    obtain ⟨f', d', q', hds, htr⟩ := Lib.array_elem Tryd.underlying50 hd k hk
    rw [cells_format] at htr
    have he : d' = .agg [.lit (.int .i64 (fW k : Int)), .lit (.int .i64 (fG k : Int)), .lit (.bool (fS k))] := by
      have := hds
      rw [List.getElem?_map, List.getElem?_range hk] at this
      simpa using this.symm
    rw [he] at htr
    exact format_cells htr
  have cell : ∀ j v, formatsL[j]? = some v → W.cell? ⟨0, 0 + j, none⟩ = some v := fun j v hv => by
    rw [Nat.zero_add, World.var?_cell gformats hvar j]
    have hj : j < 27 := (List.getElem?_eq_some_iff.1 hv).1
    have hk := key (j / 3) (by omega)
    have hm := formats_get (j / 3) (by omega)
    have e : ∀ i, i < 3 → cs[j / 3 * 3 + i]? = [Value.int .i64 (fW (j / 3) : Int), .int .i64 (fG (j / 3) : Int), .bool (fS (j / 3))][i]? := fun i hi => by
      rw [← hk, List.getElem?_take, if_pos hi, List.getElem?_drop]; simp
    have hr : j % 3 = 0 ∨ j % 3 = 1 ∨ j % 3 = 2 := by omega
    rcases hr with hr | hr | hr
    · have ej : j / 3 * 3 + 0 = j := by omega
      have e0 := e 0 (by omega)
      rw [ej] at e0
      rw [Nat.add_zero] at ej
      rw [ej] at hm
      rw [e0, ← hv, hm.1]; rfl
    · have ej : j / 3 * 3 + 1 = j := by omega
      have e0 := e 1 (by omega)
      rw [ej] at e0 hm
      rw [e0, ← hv, hm.2.1]; rfl
    · have ej : j / 3 * 3 + 2 = j := by omega
      have e0 := e 2 (by omega)
      rw [ej] at e0 hm
      rw [e0, ← hv, hm.2.2]; rfl
  refine ⟨?_, cell⟩
  rcases Nat.lt_or_ge 0 W.heap.size with h | h
  · exact h
  · exfalso
    have c0 := cell 0 _ rfl
    have : W.cell? ⟨0, 0 + 0, none⟩ = none := by simp [World.cell?, Array.getElem?_eq_none h]
    rw [this] at c0; cases c0
end Go.Proofs.YtinjnbcikoejkaaDoor
