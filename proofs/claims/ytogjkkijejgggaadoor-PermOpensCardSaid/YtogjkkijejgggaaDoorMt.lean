/-
  What the rows' lists give the walks; arguments opened: a list of users, who asks, two numbers.
-/
import Derived.Test.YtogjkkijejgggaaDoorMs
import Derived.Lib.LaidU8
import Derived.MakeChecks
import Derived.Deep.Slices
import Derived.SliceStrings
import Derived.ChangeSame
import Derived.Carry
import Derived.OpenShut
namespace Go.Proofs.YtogjkkijejgggaaDoor
open Go.RowKit Go.ChangeShapes Go.WideShapes

theorem cells3 : Tryd.prog.cellsOf 52 = 3 := by kernel_rfl
theorem cells1 : Tryd.prog.cellsOf 9 = 1 := by kernel_rfl
theorem user_fields : ∃ f0 f1 f2 : Field, Tryd.prog.underlying 52 = some (.struct #[f0, f1, f2]) ∧ f0.type = 9 ∧ f1.type = 9 ∧ f2.type = 50 ∧ f0.offset = 0 ∧ f1.offset = 1 ∧ f2.offset = 2 ∧
    Tryd.prog.cellsOf f0.type = 1 ∧ Tryd.prog.cellsOf f1.type = 1 ∧ Tryd.prog.cellsOf f2.type = 1 :=
  ⟨_, _, _, Tryd.underlying52, rfl, rfl, rfl, rfl, rfl, rfl, by kernel_rfl, by kernel_rfl, by kernel_rfl⟩

section
variable {H : Type} {enc : TypeId × Value → H} {W : World} {base : Nat} {spare : Nat → Bool} {held : Bool}
theorem plain_addr {a : Addr} {v : Value} (h : W.cell? a = some v) : a = ⟨a.block, a.off, none⟩ := by
  have := World.cell?_spot h
  cases a
  simp only at this
  rw [this]
/-- The members. -/
theorem open_members {fuel : Nat} {v : Value} {x : DataW H × List MemPlace} (h : DataW.trod enc Tryd.prog W base spare held fuel 50 [v] = some x) : ∃ M, SRow W v M := by
  rcases open_strings Tryd.underlying50 Tryd.underlying9 cells1 h with ⟨hcs, _⟩ | ⟨a, len, cap, ss, hcs, _, hl, hm, hz, _, hcell, _⟩
  · obtain rfl : v = .slice none 0 0 := by simpa using hcs
    exact ⟨[], SRow.nil_ W⟩
  · obtain rfl : v = .slice (some a) len cap := by simpa using hcs
    have hsl : len ≤ ss.length := by rw [hz]; split <;> omega
    have hlen : ((ss.take len).map fun s => s.data.toList).length = len := by simp; omega
    refine ⟨(ss.take len).map fun s => s.data.toList, some a, cap, by rw [hlen], by rw [hlen]; exact hl, hm, fun hne => ?_⟩
    have hpos : 0 < len := by
      rcases Nat.eq_zero_or_pos len with h0 | h0
      · exfalso; apply hne; simp [h0]
      · exact h0
    have h0 := hcell 0 (by omega)
    have hp := plain_addr h0
    simp only [Addr.add, if_pos] at hp
    refine ⟨a.block, a.off, by rw [← hp], by have := World.block_lt_of_cell? _ _ h0; simpa [Addr.add] using this, fun j hj => ?_⟩
    rw [hlen] at hj
    have hc := hcell j (by omega)
    rw [hp, add_at] at hc
    rw [hc]
    have hjs : j < ss.length := by omega
    simp [sv, mk_of, hjs]
/-- One user. -/
theorem open_user {fuel : Nat} {cs : List Value} {x : DataW H × List MemPlace} (h : DataW.trod enc Tryd.prog W base spare held fuel 52 cs = some x) : ∃ (u : U) (mv : Value), cs = [.string (mk u.n), .string (mk u.l), mv] ∧ SRow W mv u.m := by
  obtain ⟨f0, f1, f2, hu, t0, t1, t2, o0, o1, o2, k0, k1, k2⟩ := user_fields
  obtain ⟨xs, n, _, _, hlen, hxl, hf⟩ := DataW.trod_struct hu h
  rw [cells3] at hlen
  match cs, hlen with
  | [c0, c1, c2], _ =>
    match xs, hxl with
    | [y0, y1, y2], _ =>
      have g0 := hf 0 f0 rfl
      have g1 := hf 1 f1 rfl
      have g2 := hf 2 f2 rfl
      rw [o0, k0, t0] at g0
      rw [o1, k1, t1] at g1
      rw [o2, k2, t2] at g2
      have g0' : DataW.trod enc Tryd.prog W base spare held n 9 [c0] = some y0 := g0
      have g1' : DataW.trod enc Tryd.prog W base spare held n 9 [c1] = some y1 := g1
      have g2' : DataW.trod enc Tryd.prog W base spare held n 50 [c2] = some y2 := g2
      obtain ⟨s0, e0, _, _⟩ := DataW.trod_string Tryd.underlying9 g0'
      obtain ⟨s1, e1, _, _⟩ := DataW.trod_string Tryd.underlying9 g1'
      obtain ⟨M, hM⟩ := open_members g2'
      obtain rfl : c0 = .string s0 := by simpa using e0
      obtain rfl : c1 = .string s1 := by simpa using e1
      exact ⟨⟨s0.data.toList, s1.data.toList, M⟩, c2, by simp [mk_of], hM⟩
/-- The list. -/
theorem open_users {p : Option Addr} {len cap : Nat} {d : DataW H} {ps : List MemPlace} (h : DataW.Trod enc Tryd.prog W base spare held 32 (.slice p len cap) d ps) : ∃ L, URow W (.slice p len cap) L := by
  obtain ⟨fuel, hf⟩ := h
  have hf' : DataW.trod enc Tryd.prog W base spare held fuel 32 [.slice p len cap] = some (d, ps) := hf
  rcases Go.Deep.open_slice Tryd.underlying32 hf' with ⟨hcs, _⟩ | ⟨a, len', cap', m, n, D, Pl, hcs, _, hl, hm, hmm, _, hi⟩
  · obtain ⟨rfl, rfl, rfl⟩ : p = none ∧ len = 0 ∧ cap = 0 := by simpa using hcs
    exact ⟨[], URow.nil_ W⟩
  · obtain ⟨rfl, rfl, rfl⟩ : p = some a ∧ len = len' ∧ cap = cap' := by simpa using hcs
    have hml : len ≤ m := by rw [hmm]; split <;> omega
    rw [cells3] at hi
    have key : ∀ i, ∃ u : U, i < len → ∃ mv, W.cell? (a.add (i * 3)) = some (.string (mk u.n)) ∧ W.cell? ((a.add (i * 3)).add 1) = some (.string (mk u.l)) ∧ W.cell? ((a.add (i * 3)).add 2) = some mv ∧ SRow W mv u.m := fun i => by
      by_cases hil : i < len
      · obtain ⟨cs', hc, ht⟩ := hi i (by omega)
        obtain ⟨u, mv, rfl, hs⟩ := open_user ht
        obtain ⟨_, _, hat⟩ := World.cells?_some hc
        refine ⟨u, fun _ => ⟨mv, ?_, ?_, ?_, hs⟩⟩
        · have := hat 0 (by omega); simpa [Addr.add] using this
        · exact hat 1 (by omega)
        · exact hat 2 (by omega)
      · exact ⟨U0, fun h => absurd h hil⟩
    refine ⟨(List.range len).map fun i => Classical.choose (key i), some a, cap, by simp, by simpa using hl, hm, fun hne => ?_⟩
    have hpos : 0 < len := by
      rcases Nat.eq_zero_or_pos len with h0 | h0
      · exfalso; apply hne; simp [h0]
      · exact h0
    obtain ⟨_, h0, _⟩ := Classical.choose_spec (key 0) hpos
    have hp := plain_addr h0
    simp only [Addr.add, Nat.zero_mul, if_pos] at hp
    refine ⟨a.block, a.off, by rw [← hp], by have := World.block_lt_of_cell? _ _ h0; simpa [Addr.add] using this, fun k hk => ?_⟩
    have hkl : k < len := by simpa using hk
    have hg : getL ((List.range len).map fun i => Classical.choose (key i)) k = Classical.choose (key k) := by
      rw [getL_get (by simpa using hkl)]; simp
    rw [hg]
    have hpk : a.add (k * 3) = ⟨a.block, a.off + k * 3, none⟩ := (congrArg (fun x : Addr => x.add (k * 3)) hp).trans (add_at a.block a.off (k * 3))
    have hpk1 : (a.add (k * 3)).add 1 = ⟨a.block, a.off + k * 3 + 1, none⟩ := (congrArg (fun x : Addr => x.add 1) hpk).trans (add_at a.block (a.off + k * 3) 1)
    have hpk2 : (a.add (k * 3)).add 2 = ⟨a.block, a.off + k * 3 + 2, none⟩ := (congrArg (fun x : Addr => x.add 2) hpk).trans (add_at a.block (a.off + k * 3) 2)
    obtain ⟨mv, c0, c1, c2, hs⟩ := Classical.choose_spec (key k) hkl
    exact ⟨mv, (congrArg W.cell? hpk).symm.trans c0, (congrArg W.cell? hpk1).symm.trans c1, (congrArg W.cell? hpk2).symm.trans c2, hs⟩
end
theorem inI_of_wf {n : Int} (h : (Lit.int .i64 n).wf = true) : inI n := by
  simpa [Lit.wf, IntKind.min, IntKind.max, IntKind.signed, IntKind.bits, inI] using h

theorem who_fields : ∃ f0 f1 f2 f3 f4 : Field, Tryd.prog.underlying 34 = some (.struct #[f0, f1, f2, f3, f4]) ∧ f0.type = 9 ∧ f1.type = 9 ∧ f2.type = 9 ∧ f3.type = 3 ∧ f4.type = 3 ∧
    f0.offset = 0 ∧ f1.offset = 1 ∧ f2.offset = 2 ∧ f3.offset = 3 ∧ f4.offset = 4 :=
  ⟨_, _, _, _, _, Tryd.underlying34, rfl, rfl, rfl, rfl, rfl, rfl, rfl, rfl, rfl, rfl⟩
theorem cells_who : Tryd.prog.cellsOf 34 = 5 := by kernel_rfl
theorem cells_int : Tryd.prog.cellsOf 3 = 1 := by kernel_rfl
theorem cells_arr : Tryd.prog.cellsOf 38 = 2 := by kernel_rfl
section
variable {H : Type} {enc : TypeId × Value → H} {W : World} {base : Nat} {spare : Nat → Bool} {held : Bool}
theorem open_who {r : Reach} {b0 : Nat} {v : Value} {d : DataW H} {p : List MemPlace} (hv : Value.okWide Tryd.prog W r b0 34 v) (h : DataW.Trod enc Tryd.prog W base spare held 34 v d p) :
    ∃ (x u g : List UInt8) (m n : Int), v = .agg #[.string (mk x), .string (mk u), .string (mk g), .int .i64 m, .int .i64 n] ∧ inI m ∧ inI n := by
  obtain ⟨f0, f1, f2, f3, f4, hu, t0, t1, t2, t3, t4, o0, o1, o2, o3, o4⟩ := who_fields
  obtain ⟨cs, rfl, hsz⟩ := okWide_struct hu hv
  obtain ⟨l⟩ := cs
  obtain ⟨fuel, hf⟩ := h
  obtain ⟨xs, n, _, _, hlen, hxl, hg⟩ := DataW.trod_struct hu hf
  match l, hsz.trans cells_who with
  | [c0, c1, c2, c3, c4], _ =>
    match xs, hxl with
    | [y0, y1, y2, y3, y4], _ =>
      have g0 := hg 0 f0 rfl
      have g1 := hg 1 f1 rfl
      have g2 := hg 2 f2 rfl
      have g3 := hg 3 f3 rfl
      have g4 := hg 4 f4 rfl
      rw [o0, t0, cells1] at g0
      rw [o1, t1, cells1] at g1
      rw [o2, t2, cells1] at g2
      rw [o3, t3, cells_int] at g3
      rw [o4, t4, cells_int] at g4
      have g0' : DataW.trod enc Tryd.prog W base spare held n 9 [c0] = some y0 := g0
      have g1' : DataW.trod enc Tryd.prog W base spare held n 9 [c1] = some y1 := g1
      have g2' : DataW.trod enc Tryd.prog W base spare held n 9 [c2] = some y2 := g2
      have g3' : DataW.trod enc Tryd.prog W base spare held n 3 [c3] = some y3 := g3
      have g4' : DataW.trod enc Tryd.prog W base spare held n 3 [c4] = some y4 := g4
      obtain ⟨s0, e0, _, _⟩ := DataW.trod_string Tryd.underlying9 g0'
      obtain ⟨s1, e1, _, _⟩ := DataW.trod_string Tryd.underlying9 g1'
      obtain ⟨s2, e2, _, _⟩ := DataW.trod_string Tryd.underlying9 g2'
      obtain ⟨n3, e3, _, w3⟩ := DataW.trod_int Tryd.underlying3 g3'
      obtain ⟨n4, e4, _, w4⟩ := DataW.trod_int Tryd.underlying3 g4'
      obtain rfl : c0 = .string s0 := by simpa using e0
      obtain rfl : c1 = .string s1 := by simpa using e1
      obtain rfl : c2 = .string s2 := by simpa using e2
      obtain rfl : c3 = .int .i64 n3 := by simpa using e3
      obtain rfl : c4 = .int .i64 n4 := by simpa using e4
      exact ⟨s0.data.toList, s1.data.toList, s2.data.toList, n3, n4, by simp [mk_of], inI_of_wf w3, inI_of_wf w4⟩
theorem open_two {r : Reach} {b0 : Nat} {v : Value} {d : DataW H} {p : List MemPlace} (hv : Value.okWide Tryd.prog W r b0 38 v) (h : DataW.Trod enc Tryd.prog W base spare held 38 v d p) :
    ∃ m n : Int, v = .agg #[.int .i64 m, .int .i64 n] ∧ inI m ∧ inI n := by
  simp only [Value.okWide, Tryd.underlying38] at hv
  obtain ⟨cs, rfl, hsz, _⟩ := hv
  obtain ⟨l⟩ := cs
  obtain ⟨fuel, hf⟩ := h
  obtain ⟨xs, n, _, _, hlen, hxl, hg⟩ := DataW.trod_array Tryd.underlying38 hf
  match l, hsz.trans cells_arr with
  | [c0, c1], _ =>
    match xs, hxl with
    | [y0, y1], _ =>
      have g0 := hg 0 (by omega)
      have g1 := hg 1 (by omega)
      rw [cells_int] at g0 g1
      have g0' : DataW.trod enc Tryd.prog W base spare held n 3 [c0] = some y0 := g0
      have g1' : DataW.trod enc Tryd.prog W base spare held n 3 [c1] = some y1 := g1
      obtain ⟨n0, e0, _, w0⟩ := DataW.trod_int Tryd.underlying3 g0'
      obtain ⟨n1, e1, _, w1⟩ := DataW.trod_int Tryd.underlying3 g1'
      obtain rfl : c0 = .int .i64 n0 := by simpa using e0
      obtain rfl : c1 = .int .i64 n1 := by simpa using e1
      exact ⟨n0, n1, rfl, inI_of_wf w0, inI_of_wf w1⟩

/-! ### The table of marks -/
theorem mark_fields : ∃ f0 f1 f2 : Field, Tryd.prog.underlying 43 = some (.struct #[f0, f1, f2]) ∧ f0.type = 3 ∧ f1.type = 5 ∧ f2.type = 3 ∧ f0.offset = 0 ∧ f1.offset = 1 ∧ f2.offset = 2 :=
  ⟨_, _, _, Tryd.underlying43, rfl, rfl, rfl, rfl, rfl, rfl⟩
theorem cells_mark : Tryd.prog.cellsOf 43 = 3 := by kernel_rfl
theorem cells_u8 : Tryd.prog.cellsOf 5 = 1 := by kernel_rfl
theorem cells_marks : Tryd.prog.cellsOf 44 = 36 := by kernel_rfl
theorem mark_cells {fuel : Nat} {cs : List Value} {a b c : Int} {p : List MemPlace} (h : DataW.trod enc Tryd.prog W base spare held fuel 43 cs = some (.agg [.lit (.int .i64 a), .lit (.int .u8 b), .lit (.int .i64 c)], p)) :
    cs = [.int .i64 a, .int .u8 b, .int .i64 c] := by
  obtain ⟨f0, f1, f2, hu, t0, t1, t2, o0, o1, o2⟩ := mark_fields
  obtain ⟨xs, n, _, hx, hlen, hxl, hf⟩ := DataW.trod_struct hu h
  rw [cells_mark] at hlen
  match cs, hlen with
  | [c0, c1, c2], _ =>
    match xs, hxl with
    | [y0, y1, y2], _ =>
      have g0 := hf 0 f0 rfl
      have g1 := hf 1 f1 rfl
      have g2 := hf 2 f2 rfl
      rw [o0, t0, cells_int] at g0
      rw [o1, t1, cells_u8] at g1
      rw [o2, t2, cells_int] at g2
      have g0' : DataW.trod enc Tryd.prog W base spare held n 3 [c0] = some y0 := g0
      have g1' : DataW.trod enc Tryd.prog W base spare held n 5 [c1] = some y1 := g1
      have g2' : DataW.trod enc Tryd.prog W base spare held n 3 [c2] = some y2 := g2
      obtain ⟨n0, e0, x0, _⟩ := DataW.trod_int Tryd.underlying3 g0'
      obtain ⟨n1, e1, x1, _⟩ := DataW.trod_int Tryd.underlying5 g1'
      obtain ⟨n2, e2, x2, _⟩ := DataW.trod_int Tryd.underlying3 g2'
      subst x0 x1 x2
      obtain rfl : c0 = .int .i64 n0 := by simpa using e0
      obtain rfl : c1 = .int .u8 n1 := by simpa using e1
      obtain rfl : c2 = .int .i64 n2 := by simpa using e2
      simp at hx
      simp [hx]
end
theorem gmarks : Tryd.prog.globalNamed "filespace/perm.marks" = some 0 := by kernel_rfl
theorem gmarks_t : (Tryd.prog.globals[0]?).map (·.type) = some 44 := by kernel_rfl
theorem marks_at (k : Nat) (hk : k < 12) : (Rows.laid_filespace_perm_marks (H := Unit)) = .agg ((List.range 12).map fun k => .agg [.lit (.int .i64 (plc k)), .lit (.int .u8 ((ltr k).toNat : Int)), .lit (.int .i64 (bt k))]) := by
  kernel_rfl
theorem marks_get (k : Nat) (hk : k < 12) : marksL[k * 3]? = some (.int .i64 (plc k)) ∧ marksL[k * 3 + 1]? = some (.int .u8 ((ltr k).toNat : Int)) ∧ marksL[k * 3 + 2]? = some (.int .i64 (bt k)) := by
  have h : k = 0 ∨ k = 1 ∨ k = 2 ∨ k = 3 ∨ k = 4 ∨ k = 5 ∨ k = 6 ∨ k = 7 ∨ k = 8 ∨ k = 9 ∨ k = 10 ∨ k = 11 := by omega
  rcases h with rfl | rfl | rfl | rfl | rfl | rfl | rfl | rfl | rfl | rfl | rfl | rfl
  all_goals exact ⟨rfl, rfl, rfl⟩
/-- From the row's list to what the walks ask. -/
theorem laidG {W : World} (h0 : laidMetH Tryd.prog [("filespace/perm.marks", Rows.laid_filespace_perm_marks)] W) : G W := by
  rw [MakeChecks.laidMetH_plain _ _ _ (by kernel_rfl)] at h0
  obtain ⟨g', t', cs, fuel, p, hg', ht', hvar, hd⟩ := Lib.laidMet.reads h0 (List.Mem.head _)
  obtain rfl := Option.some.inj (gmarks.symm.trans hg')
  obtain rfl := Option.some.inj (gmarks_t.symm.trans ht')
  have key : ∀ k, k < 12 → (cs.toList.drop (k * 3)).take 3 = [.int .i64 (plc k), .int .u8 ((ltr k).toNat : Int), .int .i64 (bt k)] := fun k hk => by
    rw [marks_at k hk] at hd
    obtain ⟨f', d', q', hds, htr⟩ := Lib.array_elem Tryd.underlying44 hd k hk
    rw [cells_mark] at htr
    have he : d' = .agg [.lit (.int .i64 (plc k)), .lit (.int .u8 ((ltr k).toNat : Int)), .lit (.int .i64 (bt k))] := by
      have := hds
      rw [List.getElem?_map, List.getElem?_range hk] at this
      simpa using this.symm
    rw [he] at htr
    exact mark_cells htr
  have cell : ∀ j v, marksL[j]? = some v → W.cell? ⟨0, 0 + j, none⟩ = some v := fun j v hv => by
    rw [Nat.zero_add, World.var?_cell gmarks hvar j]
    have hj : j < 36 := (List.getElem?_eq_some_iff.1 hv).1
    have hk := key (j / 3) (by omega)
    have hm := marks_get (j / 3) (by omega)
    have e : ∀ i, i < 3 → cs[j / 3 * 3 + i]? = [Value.int .i64 (plc (j / 3)), .int .u8 ((ltr (j / 3)).toNat : Int), .int .i64 (bt (j / 3))][i]? := fun i hi => by
      rw [← hk, List.getElem?_take, if_pos hi, List.getElem?_drop]; simp
    have hr : j % 3 = 0 ∨ j % 3 = 1 ∨ j % 3 = 2 := by omega
    rcases hr with hr | hr | hr
    · have ej : j / 3 * 3 + 0 = j := by omega
      have e0 := e 0 (by omega)
      rw [ej] at e0
      rw [Nat.add_zero] at ej
      rw [ej] at hm
      rw [e0, ← hv, hm.1]; rfl
    · have ej : j / 3 * 3 + 1 = j := by omega
      have e0 := e 1 (by omega)
      rw [ej] at e0 hm
      rw [e0, ← hv, hm.2.1]; rfl
    · have ej : j / 3 * 3 + 2 = j := by omega
      have e0 := e 2 (by omega)
      rw [ej] at e0 hm
      rw [e0, ← hv, hm.2.2]; rfl
  refine ⟨?_, cell⟩
  rcases Nat.lt_or_ge 0 W.heap.size with h | h
  · exact h
  · exfalso
    have c0 := cell 0 _ rfl
    have : W.cell? ⟨0, 0 + 0, none⟩ = none := by simp [World.cell?, Array.getElem?_eq_none h]
    rw [this] at c0; cases c0
end Go.Proofs.YtogjkkijejgggaaDoor
