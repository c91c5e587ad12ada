/-
  What the rows' lists give the walks; arguments opened: messages.
-/
import Derived.Test.YtlfdmbfbfadifaaGreatDoorWb
import Derived.Lib.LaidU8
import Derived.MakeChecks
import Derived.Deep.Slices
import Derived.SliceStrings
import Derived.ChangeSame
import Derived.Carry
import Derived.OpenShut
namespace Go.Proofs.YtlfdmbfbfadifaaGreatDoor
open Go.RowKit Go.ChangeShapes Go.WideShapes

theorem cells_dir : Tryz.prog.cellsOf 27 = 13 := by kernel_rfl
theorem cells_qid : Tryz.prog.cellsOf 25 = 3 := by kernel_rfl
theorem cells_str : Tryz.prog.cellsOf 9 = 1 := by kernel_rfl
theorem cells_int : Tryz.prog.cellsOf 3 = 1 := by kernel_rfl
theorem cells_bool : Tryz.prog.cellsOf 4 = 1 := by kernel_rfl
theorem qid_fields : ∃ f0 f1 f2 : Field, Tryz.prog.underlying 25 = some (.struct #[f0, f1, f2]) ∧ f0.type = 3 ∧ f1.type = 3 ∧ f2.type = 3 ∧ f0.offset = 0 ∧ f1.offset = 1 ∧ f2.offset = 2 :=
  ⟨_, _, _, Tryz.underlying25, rfl, rfl, rfl, rfl, rfl, rfl⟩
theorem dir_fields : ∃ f0 f1 f2 f3 f4 f5 f6 f7 f8 f9 f10 : Field, Tryz.prog.underlying 27 = some (.struct #[f0, f1, f2, f3, f4, f5, f6, f7, f8, f9, f10]) ∧ f0.type = 3 ∧ f1.type = 3 ∧ f2.type = 25 ∧ f3.type = 3 ∧ f4.type = 3 ∧ f5.type = 3 ∧ f6.type = 3 ∧ f7.type = 9 ∧ f8.type = 9 ∧ f9.type = 9 ∧ f10.type = 9 ∧ f0.offset = 0 ∧ f1.offset = 1 ∧ f2.offset = 2 ∧ f3.offset = 5 ∧ f4.offset = 6 ∧ f5.offset = 7 ∧ f6.offset = 8 ∧ f7.offset = 9 ∧ f8.offset = 10 ∧ f9.offset = 11 ∧ f10.offset = 12 :=
  ⟨_, _, _, _, _, _, _, _, _, _, _, Tryz.underlying27, rfl, rfl, rfl, rfl, rfl, rfl, rfl, rfl, rfl, rfl, rfl, rfl, rfl, rfl, rfl, rfl, rfl, rfl, rfl, rfl, rfl, rfl⟩
theorem cells_msg : Tryz.prog.cellsOf 30 = 39 := by kernel_rfl
theorem cells_ns : Tryz.prog.cellsOf 22 = 1 := by kernel_rfl
theorem cells_nq : Tryz.prog.cellsOf 23 = 1 := by kernel_rfl
theorem cells_err : Tryz.prog.cellsOf 28 = 1 := by kernel_rfl
theorem msg_fields : ∃ f0 f1 f2 f3 f4 f5 f6 f7 f8 f9 f10 f11 f12 f13 f14 f15 f16 f17 f18 f19 f20 f21 f22 f23 f24 : Field, Tryz.prog.underlying 30 = some (.struct #[f0, f1, f2, f3, f4, f5, f6, f7, f8, f9, f10, f11, f12, f13, f14, f15, f16, f17, f18, f19, f20, f21, f22, f23, f24]) ∧ f0.type = 3 ∧ f1.type = 3 ∧ f2.type = 3 ∧ f3.type = 3 ∧ f4.type = 3 ∧ f5.type = 3 ∧ f6.type = 3 ∧ f7.type = 9 ∧ f8.type = 9 ∧ f9.type = 9 ∧ f10.type = 22 ∧ f11.type = 23 ∧ f12.type = 25 ∧ f13.type = 3 ∧ f14.type = 3 ∧ f15.type = 3 ∧ f16.type = 9 ∧ f17.type = 3 ∧ f18.type = 3 ∧ f19.type = 9 ∧ f20.type = 27 ∧ f21.type = 28 ∧ f22.type = 3 ∧ f23.type = 3 ∧ f24.type = 9 ∧ f0.offset = 0 ∧ f1.offset = 1 ∧ f2.offset = 2 ∧ f3.offset = 3 ∧ f4.offset = 4 ∧ f5.offset = 5 ∧ f6.offset = 6 ∧ f7.offset = 7 ∧ f8.offset = 8 ∧ f9.offset = 9 ∧ f10.offset = 10 ∧ f11.offset = 11 ∧ f12.offset = 12 ∧ f13.offset = 15 ∧ f14.offset = 16 ∧ f15.offset = 17 ∧ f16.offset = 18 ∧ f17.offset = 19 ∧ f18.offset = 20 ∧ f19.offset = 21 ∧ f20.offset = 22 ∧ f21.offset = 35 ∧ f22.offset = 36 ∧ f23.offset = 37 ∧ f24.offset = 38 :=
  ⟨_, _, _, _, _, _, _, _, _, _, _, _, _, _, _, _, _, _, _, _, _, _, _, _, _, Tryz.underlying30, rfl, rfl, rfl, rfl, rfl, rfl, rfl, rfl, rfl, rfl, rfl, rfl, rfl, rfl, rfl, rfl, rfl, rfl, rfl, rfl, rfl, rfl, rfl, rfl, rfl, rfl, rfl, rfl, rfl, rfl, rfl, rfl, rfl, rfl, rfl, rfl, rfl, rfl, rfl, rfl, rfl, rfl, rfl, rfl, rfl, rfl, rfl, rfl, rfl, rfl⟩
section
variable {H : Type} {enc : TypeId × Value → H} {W : World} {base : Nat} {spare : Nat → Bool} {held : Bool}
set_option maxRecDepth 100000 in
theorem open_qidC {fuel : Nat} {c0 c1 c2 : Value} {x : DataW H × List MemPlace} (h : DataW.trod enc Tryz.prog W base spare held fuel 25 [c0, c1, c2] = some x) : ∃ a b c : Int, c0 = .int .i64 a ∧ c1 = .int .i64 b ∧ c2 = .int .i64 c ∧ inI a ∧ inI b ∧ inI c := by
  obtain ⟨f0, f1, f2, hu, t0, t1, t2, o0, o1, o2⟩ := qid_fields
  obtain ⟨xs, n, _, _, _, hxl, hg⟩ := DataW.trod_struct hu h
  match xs, hxl with
  | [y0, y1, y2], _ =>
    have g0 := hg 0 f0 rfl
    have g1 := hg 1 f1 rfl
    have g2 := hg 2 f2 rfl
    rw [o0, t0, cells_int] at g0
    rw [o1, t1, cells_int] at g1
    rw [o2, t2, cells_int] at g2
    have g0' : DataW.trod enc Tryz.prog W base spare held n 3 [c0] = some y0 := g0
    have g1' : DataW.trod enc Tryz.prog W base spare held n 3 [c1] = some y1 := g1
    have g2' : DataW.trod enc Tryz.prog W base spare held n 3 [c2] = some y2 := g2
    obtain ⟨n0, e0, _, w0⟩ := DataW.trod_int Tryz.underlying3 g0'
    obtain ⟨n1, e1, _, w1⟩ := DataW.trod_int Tryz.underlying3 g1'
    obtain ⟨n2, e2, _, w2⟩ := DataW.trod_int Tryz.underlying3 g2'
    exact ⟨n0, n1, n2, by simpa using e0, by simpa using e1, by simpa using e2, inI_of_wf w0, inI_of_wf w1, inI_of_wf w2⟩
set_option maxRecDepth 100000 in
/-- A description's cells. -/
theorem open_dirC {fuel : Nat} {l : List Value} {x : DataW H × List MemPlace} (h : DataW.trod enc Tryz.prog W base spare held fuel 27 l = some x) : ∃ d : DD, l = cellsD d ∧ inD d ∧ bigD d := by
  obtain ⟨f0, f1, f2, f3, f4, f5, f6, f7, f8, f9, f10, hu, t0, t1, t2, t3, t4, t5, t6, t7, t8, t9, t10, o0, o1, o2, o3, o4, o5, o6, o7, o8, o9, o10⟩ := dir_fields
  obtain ⟨xs, n, _, _, hlen, hxl, hg⟩ := DataW.trod_struct hu h
  rw [cells_dir] at hlen
  match l, hlen with
  | [c0, c1, c2, c3, c4, c5, c6, c7, c8, c9, c10, c11, c12], _ =>
    match xs, hxl with
    | [y0, y1, y2, y3, y4, y5, y6, y7, y8, y9, y10], _ =>
      have g0 := hg 0 f0 rfl
      rw [o0, t0, cells_int] at g0
      have g0' : DataW.trod enc Tryz.prog W base spare held n 3 [c0] = some y0 := g0
      obtain ⟨n0, e0, _, w0⟩ := DataW.trod_int Tryz.underlying3 g0'
      obtain rfl : c0 = .int .i64 n0 := by simpa using e0
      have g1 := hg 1 f1 rfl
      rw [o1, t1, cells_int] at g1
      have g1' : DataW.trod enc Tryz.prog W base spare held n 3 [c1] = some y1 := g1
      obtain ⟨n1, e1, _, w1⟩ := DataW.trod_int Tryz.underlying3 g1'
      obtain rfl : c1 = .int .i64 n1 := by simpa using e1
      have g2 := hg 2 f2 rfl
      rw [o2, t2, cells_qid] at g2
      have g2' : DataW.trod enc Tryz.prog W base spare held n 25 [c2, c3, c4] = some y2 := g2
      obtain ⟨n2, n3, n4, rfl, rfl, rfl, i2, i3, i4⟩ := open_qidC g2'
      have g3 := hg 3 f3 rfl
      rw [o3, t3, cells_int] at g3
      have g3' : DataW.trod enc Tryz.prog W base spare held n 3 [c5] = some y3 := g3
      obtain ⟨n5, e3, _, w5⟩ := DataW.trod_int Tryz.underlying3 g3'
      obtain rfl : c5 = .int .i64 n5 := by simpa using e3
      have g4 := hg 4 f4 rfl
      rw [o4, t4, cells_int] at g4
      have g4' : DataW.trod enc Tryz.prog W base spare held n 3 [c6] = some y4 := g4
      obtain ⟨n6, e4, _, w6⟩ := DataW.trod_int Tryz.underlying3 g4'
      obtain rfl : c6 = .int .i64 n6 := by simpa using e4
      have g5 := hg 5 f5 rfl
      rw [o5, t5, cells_int] at g5
      have g5' : DataW.trod enc Tryz.prog W base spare held n 3 [c7] = some y5 := g5
      obtain ⟨n7, e5, _, w7⟩ := DataW.trod_int Tryz.underlying3 g5'
      obtain rfl : c7 = .int .i64 n7 := by simpa using e5
      have g6 := hg 6 f6 rfl
      rw [o6, t6, cells_int] at g6
      have g6' : DataW.trod enc Tryz.prog W base spare held n 3 [c8] = some y6 := g6
      obtain ⟨n8, e6, _, w8⟩ := DataW.trod_int Tryz.underlying3 g6'
      obtain rfl : c8 = .int .i64 n8 := by simpa using e6
      have g7 := hg 7 f7 rfl
      rw [o7, t7, cells_str] at g7
      have g7' : DataW.trod enc Tryz.prog W base spare held n 9 [c9] = some y7 := g7
      obtain ⟨s9, e7, _, w9⟩ := DataW.trod_string Tryz.underlying9 g7'
      obtain rfl : c9 = .string s9 := by simpa using e7
      have g8 := hg 8 f8 rfl
      rw [o8, t8, cells_str] at g8
      have g8' : DataW.trod enc Tryz.prog W base spare held n 9 [c10] = some y8 := g8
      obtain ⟨s10, e8, _, w10⟩ := DataW.trod_string Tryz.underlying9 g8'
      obtain rfl : c10 = .string s10 := by simpa using e8
      have g9 := hg 9 f9 rfl
      rw [o9, t9, cells_str] at g9
      have g9' : DataW.trod enc Tryz.prog W base spare held n 9 [c11] = some y9 := g9
      obtain ⟨s11, e9, _, w11⟩ := DataW.trod_string Tryz.underlying9 g9'
      obtain rfl : c11 = .string s11 := by simpa using e9
      have g10 := hg 10 f10 rfl
      rw [o10, t10, cells_str] at g10
      have g10' : DataW.trod enc Tryz.prog W base spare held n 9 [c12] = some y10 := g10
      obtain ⟨s12, e10, _, w12⟩ := DataW.trod_string Tryz.underlying9 g10'
      obtain rfl : c12 = .string s12 := by simpa using e10
      refine ⟨⟨n0, n1, n2, n3, n4, n5, n6, n7, n8, s9.data.toList, s10.data.toList, s11.data.toList, s12.data.toList⟩, by simp [cellsD, mk_of], fun k hk => ?_, fun k hk => ?_⟩
      · rcases k9 hk with rfl | rfl | rfl | rfl | rfl | rfl | rfl | rfl | rfl
        · exact inI_of_wf w0
        · exact inI_of_wf w1
        · exact i2
        · exact i3
        · exact i4
        · exact inI_of_wf w5
        · exact inI_of_wf w6
        · exact inI_of_wf w7
        · exact inI_of_wf w8
      · rcases k4 hk with rfl | rfl | rfl | rfl
        · exact w9
        · exact w10
        · exact w11
        · exact w12
set_option maxRecDepth 100000 in
/-- A description as an argument. -/
theorem open_dir {r : Reach} {b0 : Nat} {v : Value} {d : DataW H} {p : List MemPlace} (hv : Value.okWide Tryz.prog W r b0 27 v) (h : DataW.Trod enc Tryz.prog W base spare held 27 v d p) :
    ∃ x : DD, v = dirV x ∧ inD x ∧ bigD x := by
  obtain ⟨_, _, _, _, _, _, _, _, _, _, _, hu, _⟩ := dir_fields
  obtain ⟨cs, rfl, hsz⟩ := okWide_struct hu hv
  obtain ⟨l⟩ := cs
  obtain ⟨fuel, hf⟩ := h
  have hf' : DataW.trod enc Tryz.prog W base spare held fuel 27 l = some (d, p) := hf
  obtain ⟨x, rfl, h1, h2⟩ := open_dirC hf'
  exact ⟨x, rfl, h1, h2⟩
theorem plain_addr {a : Addr} {v : Value} (h : W.cell? a = some v) : a = ⟨a.block, a.off, none⟩ := by
  have := World.cell?_spot h
  cases a
  simp only at this
  rw [this]
set_option maxRecDepth 100000 in
/-- The members. -/
theorem open_members {fuel : Nat} {v : Value} {x : DataW H × List MemPlace} (h : DataW.trod enc Tryz.prog W base spare held fuel 22 [v] = some x) : ∃ M, SRow W v M ∧ ∀ l ∈ M, l.length ≤ maxLen := by
  rcases open_strings Tryz.underlying22 Tryz.underlying9 cells_str h with ⟨hcs, _⟩ | ⟨a, len, cap, ss, hcs, _, hl, hm, hz, _, hcell, hsm⟩
  · obtain rfl : v = .slice none 0 0 := by simpa using hcs
    exact ⟨[], SRow.nil_ W, fun l hl => by cases hl⟩
  · obtain rfl : v = .slice (some a) len cap := by simpa using hcs
    have hsl : len ≤ ss.length := by rw [hz]; split <;> omega
    have hlen : ((ss.take len).map fun s => s.data.toList).length = len := by simp; omega
    refine ⟨(ss.take len).map fun s => s.data.toList, ⟨some a, cap, by rw [hlen], by rw [hlen]; exact hl, hm, fun hne => ?_⟩, fun l hl => ?_⟩
    rotate_left
    · obtain ⟨s, hs, rfl⟩ := List.mem_map.1 hl
      have := hsm s (List.mem_of_mem_take hs)
      rwa [show s.data.toList.length = s.size from Array.length_toList]
    have hpos : 0 < len := by
      rcases Nat.eq_zero_or_pos len with h0 | h0
      · exfalso; apply hne; simp [h0]
      · exact h0
    have h0 := hcell 0 (by omega)
    have hp := plain_addr h0
    simp only [Addr.add, if_pos] at hp
    refine ⟨a.block, a.off, by rw [← hp], by have := World.block_lt_of_cell? _ _ h0; simpa [Addr.add] using this, fun j hj => ?_⟩
    rw [hlen] at hj
    have hc := hcell j (by omega)
    rw [hp, add_at] at hc
    rw [hc]
    have hjs : j < ss.length := by omega
    simp [sv, mk_of, hjs]
set_option maxRecDepth 100000 in
/-- The qids. -/
theorem open_qids {fuel : Nat} {v : Value} {x : DataW H × List MemPlace} (h : DataW.trod enc Tryz.prog W base spare held fuel 23 [v] = some x) : ∃ L, QRow W v L ∧ ∀ k, k < L.length → inI (atQ L k).t := by
  rcases Go.Deep.open_slice Tryz.underlying23 h with ⟨hcs, _⟩ | ⟨a, len, cap, m, n, D, Pl, hcs, _, hl, hm, hmm, _, hi⟩
  · obtain rfl : v = .slice none 0 0 := by simpa using hcs
    exact ⟨[], QRow.nil_ W, fun k hk => by simp at hk⟩
  · obtain rfl : v = .slice (some a) len cap := by simpa using hcs
    have hml : len ≤ m := by rw [hmm]; split <;> omega
    rw [cells_qid] at hi
    have key : ∀ i, ∃ u : QQ, i < len → (W.cell? (a.add (i * 3)) = some (.int .i64 u.t) ∧ W.cell? ((a.add (i * 3)).add 1) = some (.int .i64 u.v) ∧ W.cell? ((a.add (i * 3)).add 2) = some (.int .i64 u.p)) ∧ inI u.t := fun i => by
      by_cases hil : i < len
      · obtain ⟨cs', hc, ht⟩ := hi i (by omega)
        obtain ⟨_, _, hat⟩ := World.cells?_some hc
        have hcl : cs'.length = 3 := by
          obtain ⟨f0, f1, f2, hu, _⟩ := qid_fields
          obtain ⟨_, _, _, _, hlen, _, _⟩ := DataW.trod_struct hu ht
          rw [cells_qid] at hlen; exact hlen
        match cs', hcl with
        | [c0, c1, c2], _ =>
          obtain ⟨x0, x1, x2, rfl, rfl, rfl, i0, _, _⟩ := open_qidC ht
          refine ⟨⟨x0, x1, x2⟩, fun _ => ⟨⟨?_, ?_, ?_⟩, i0⟩⟩
          · have := hat 0 (by omega); simpa [Addr.add] using this
          · exact hat 1 (by omega)
          · exact hat 2 (by omega)
      · exact ⟨noQ, fun h => absurd h hil⟩
    have hg : ∀ k, k < len → atQ ((List.range len).map fun i => Classical.choose (key i)) k = Classical.choose (key k) := fun k hk => by
      simp [atQ, hk]
    refine ⟨(List.range len).map fun i => Classical.choose (key i), ⟨some a, cap, by simp, by simpa using hl, hm, fun hne => ?_⟩, fun k hk => ?_⟩
    · have hpos : 0 < len := by
        rcases Nat.eq_zero_or_pos len with h0 | h0
        · exfalso; apply hne; simp [h0]
        · exact h0
      have h0 := (Classical.choose_spec (key 0) hpos).1.1
      have hp := plain_addr h0
      simp only [Addr.add, Nat.zero_mul, if_pos] at hp
      refine ⟨a.block, a.off, by rw [← hp], by have := World.block_lt_of_cell? _ _ h0; simpa [Addr.add] using this, fun k hk => ?_⟩
      have hkl : k < len := by simpa using hk
      rw [hg k hkl]
      have hpk : a.add (k * 3) = ⟨a.block, a.off + k * 3, none⟩ := (congrArg (fun x : Addr => x.add (k * 3)) hp).trans (add_at a.block a.off (k * 3))
      have hpk1 : (a.add (k * 3)).add 1 = ⟨a.block, a.off + k * 3 + 1, none⟩ := (congrArg (fun x : Addr => x.add 1) hpk).trans (add_at a.block (a.off + k * 3) 1)
      have hpk2 : (a.add (k * 3)).add 2 = ⟨a.block, a.off + k * 3 + 2, none⟩ := (congrArg (fun x : Addr => x.add 2) hpk).trans (add_at a.block (a.off + k * 3) 2)
      obtain ⟨⟨c0, c1, c2⟩, _⟩ := Classical.choose_spec (key k) hkl
      exact ⟨(congrArg W.cell? hpk).symm.trans c0, (congrArg W.cell? hpk1).symm.trans c1, (congrArg W.cell? hpk2).symm.trans c2⟩
    · have hkl : k < len := by simpa using hk
      rw [hg k hkl]
      exact (Classical.choose_spec (key k) hkl).2
set_option maxRecDepth 100000 in
/-- A message as an argument. -/
theorem open_msg {r : Reach} {b0 : Nat} {v : Value} {d : DataW H} {p : List MemPlace} (hv : Value.okWide Tryz.prog W r b0 30 v) (h : DataW.Trod enc Tryz.prog W base spare held 30 v d p) :
    ∃ x : MM, v = msgV x ∧ inM x ∧ RowM W x := by
  obtain ⟨f0, f1, f2, f3, f4, f5, f6, f7, f8, f9, f10, f11, f12, f13, f14, f15, f16, f17, f18, f19, f20, f21, f22, f23, f24, hu, t0, t1, t2, t3, t4, t5, t6, t7, t8, t9, t10, t11, t12, t13, t14, t15, t16, t17, t18, t19, t20, t21, t22, t23, t24, o0, o1, o2, o3, o4, o5, o6, o7, o8, o9, o10, o11, o12, o13, o14, o15, o16, o17, o18, o19, o20, o21, o22, o23, o24⟩ := msg_fields
  obtain ⟨cs, rfl, hsz⟩ := okWide_struct hu hv
  obtain ⟨l⟩ := cs
  obtain ⟨fuel, hf⟩ := h
  have hf' : DataW.trod enc Tryz.prog W base spare held fuel 30 l = some (d, p) := hf
  obtain ⟨xs, n, _, _, hlen, hxl, hg⟩ := DataW.trod_struct hu hf'
  rw [cells_msg] at hlen
  match l, hlen with
  | c0 :: c1 :: c2 :: c3 :: c4 :: c5 :: c6 :: c7 :: c8 :: c9 :: c10 :: c11 :: c12 :: c13 :: c14 :: c15 :: c16 :: c17 :: c18 :: c19 :: c20 :: c21 :: c22 :: c23 :: c24 :: c25 :: c26 :: c27 :: c28 :: c29 :: c30 :: c31 :: c32 :: c33 :: c34 :: c35 :: c36 :: c37 :: c38 :: [], _ =>
    match xs, hxl with
    | [y0, y1, y2, y3, y4, y5, y6, y7, y8, y9, y10, y11, y12, y13, y14, y15, y16, y17, y18, y19, y20, y21, y22, y23, y24], _ =>
      have g0 := hg 0 f0 rfl
      rw [o0, t0, cells_int] at g0
      have g0' : DataW.trod enc Tryz.prog W base spare held n 3 [c0] = some y0 := g0
      obtain ⟨n0, e0, _, w0⟩ := DataW.trod_int Tryz.underlying3 g0'
      obtain rfl : c0 = .int .i64 n0 := by simpa using e0
      have g1 := hg 1 f1 rfl
      rw [o1, t1, cells_int] at g1
      have g1' : DataW.trod enc Tryz.prog W base spare held n 3 [c1] = some y1 := g1
      obtain ⟨n1, e1, _, w1⟩ := DataW.trod_int Tryz.underlying3 g1'
      obtain rfl : c1 = .int .i64 n1 := by simpa using e1
      have g2 := hg 2 f2 rfl
      rw [o2, t2, cells_int] at g2
      have g2' : DataW.trod enc Tryz.prog W base spare held n 3 [c2] = some y2 := g2
      obtain ⟨n2, e2, _, w2⟩ := DataW.trod_int Tryz.underlying3 g2'
      obtain rfl : c2 = .int .i64 n2 := by simpa using e2
      have g3 := hg 3 f3 rfl
      rw [o3, t3, cells_int] at g3
      have g3' : DataW.trod enc Tryz.prog W base spare held n 3 [c3] = some y3 := g3
      obtain ⟨n3, e3, _, w3⟩ := DataW.trod_int Tryz.underlying3 g3'
      obtain rfl : c3 = .int .i64 n3 := by simpa using e3
      have g4 := hg 4 f4 rfl
      rw [o4, t4, cells_int] at g4
      have g4' : DataW.trod enc Tryz.prog W base spare held n 3 [c4] = some y4 := g4
      obtain ⟨n4, e4, _, w4⟩ := DataW.trod_int Tryz.underlying3 g4'
      obtain rfl : c4 = .int .i64 n4 := by simpa using e4
      have g5 := hg 5 f5 rfl
      rw [o5, t5, cells_int] at g5
      have g5' : DataW.trod enc Tryz.prog W base spare held n 3 [c5] = some y5 := g5
      obtain ⟨n5, e5, _, w5⟩ := DataW.trod_int Tryz.underlying3 g5'
      obtain rfl : c5 = .int .i64 n5 := by simpa using e5
      have g6 := hg 6 f6 rfl
      rw [o6, t6, cells_int] at g6
      have g6' : DataW.trod enc Tryz.prog W base spare held n 3 [c6] = some y6 := g6
      obtain ⟨n6, e6, _, w6⟩ := DataW.trod_int Tryz.underlying3 g6'
      obtain rfl : c6 = .int .i64 n6 := by simpa using e6
      have g7 := hg 7 f7 rfl
      rw [o7, t7, cells_str] at g7
      have g7' : DataW.trod enc Tryz.prog W base spare held n 9 [c7] = some y7 := g7
      obtain ⟨s7, e7, _, w7⟩ := DataW.trod_string Tryz.underlying9 g7'
      obtain rfl : c7 = .string s7 := by simpa using e7
      have g8 := hg 8 f8 rfl
      rw [o8, t8, cells_str] at g8
      have g8' : DataW.trod enc Tryz.prog W base spare held n 9 [c8] = some y8 := g8
      obtain ⟨s8, e8, _, w8⟩ := DataW.trod_string Tryz.underlying9 g8'
      obtain rfl : c8 = .string s8 := by simpa using e8
      have g9 := hg 9 f9 rfl
      rw [o9, t9, cells_str] at g9
      have g9' : DataW.trod enc Tryz.prog W base spare held n 9 [c9] = some y9 := g9
      obtain ⟨s9, e9, _, w9⟩ := DataW.trod_string Tryz.underlying9 g9'
      obtain rfl : c9 = .string s9 := by simpa using e9
      have g10 := hg 10 f10 rfl
      rw [o10, t10, cells_ns] at g10
      have g10' : DataW.trod enc Tryz.prog W base spare held n 22 [c10] = some y10 := g10
      obtain ⟨NL, hNL, hNl⟩ := open_members g10'
      have g11 := hg 11 f11 rfl
      rw [o11, t11, cells_nq] at g11
      have g11' : DataW.trod enc Tryz.prog W base spare held n 23 [c11] = some y11 := g11
      obtain ⟨QL, hQL, hQl⟩ := open_qids g11'
      have g12 := hg 12 f12 rfl
      rw [o12, t12, cells_qid] at g12
      have g12' : DataW.trod enc Tryz.prog W base spare held n 25 [c12, c13, c14] = some y12 := g12
      obtain ⟨n12, n13, n14, rfl, rfl, rfl, i12, i13, i14⟩ := open_qidC g12'
      have g13 := hg 13 f13 rfl
      rw [o13, t13, cells_int] at g13
      have g13' : DataW.trod enc Tryz.prog W base spare held n 3 [c15] = some y13 := g13
      obtain ⟨n15, e13, _, w15⟩ := DataW.trod_int Tryz.underlying3 g13'
      obtain rfl : c15 = .int .i64 n15 := by simpa using e13
      have g14 := hg 14 f14 rfl
      rw [o14, t14, cells_int] at g14
      have g14' : DataW.trod enc Tryz.prog W base spare held n 3 [c16] = some y14 := g14
      obtain ⟨n16, e14, _, w16⟩ := DataW.trod_int Tryz.underlying3 g14'
      obtain rfl : c16 = .int .i64 n16 := by simpa using e14
      have g15 := hg 15 f15 rfl
      rw [o15, t15, cells_int] at g15
      have g15' : DataW.trod enc Tryz.prog W base spare held n 3 [c17] = some y15 := g15
      obtain ⟨n17, e15, _, w17⟩ := DataW.trod_int Tryz.underlying3 g15'
      obtain rfl : c17 = .int .i64 n17 := by simpa using e15
      have g16 := hg 16 f16 rfl
      rw [o16, t16, cells_str] at g16
      have g16' : DataW.trod enc Tryz.prog W base spare held n 9 [c18] = some y16 := g16
      obtain ⟨s18, e16, _, w18⟩ := DataW.trod_string Tryz.underlying9 g16'
      obtain rfl : c18 = .string s18 := by simpa using e16
      have g17 := hg 17 f17 rfl
      rw [o17, t17, cells_int] at g17
      have g17' : DataW.trod enc Tryz.prog W base spare held n 3 [c19] = some y17 := g17
      obtain ⟨n19, e17, _, w19⟩ := DataW.trod_int Tryz.underlying3 g17'
      obtain rfl : c19 = .int .i64 n19 := by simpa using e17
      have g18 := hg 18 f18 rfl
      rw [o18, t18, cells_int] at g18
      have g18' : DataW.trod enc Tryz.prog W base spare held n 3 [c20] = some y18 := g18
      obtain ⟨n20, e18, _, w20⟩ := DataW.trod_int Tryz.underlying3 g18'
      obtain rfl : c20 = .int .i64 n20 := by simpa using e18
      have g19 := hg 19 f19 rfl
      rw [o19, t19, cells_str] at g19
      have g19' : DataW.trod enc Tryz.prog W base spare held n 9 [c21] = some y19 := g19
      obtain ⟨s21, e19, _, w21⟩ := DataW.trod_string Tryz.underlying9 g19'
      obtain rfl : c21 = .string s21 := by simpa using e19
      have g20 := hg 20 f20 rfl
      rw [o20, t20, cells_dir] at g20
      have g20' : DataW.trod enc Tryz.prog W base spare held n 27 [c22, c23, c24, c25, c26, c27, c28, c29, c30, c31, c32, c33, c34] = some y20 := g20
      obtain ⟨dd, hdd, hd1, hd2⟩ := open_dirC g20'
      simp only [cellsD, List.cons.injEq, and_true] at hdd
      obtain ⟨rfl, rfl, rfl, rfl, rfl, rfl, rfl, rfl, rfl, rfl, rfl, rfl, rfl⟩ := hdd
      have g21 := hg 21 f21 rfl
      rw [o21, t21, cells_err] at g21
      have g21' : DataW.trod enc Tryz.prog W base spare held n 28 [c35] = some y21 := g21
      obtain ⟨n35, e21, _, w35⟩ := DataW.trod_int Tryz.underlying28 g21'
      obtain rfl : c35 = .int .i64 n35 := by simpa using e21
      have g22 := hg 22 f22 rfl
      rw [o22, t22, cells_int] at g22
      have g22' : DataW.trod enc Tryz.prog W base spare held n 3 [c36] = some y22 := g22
      obtain ⟨n36, e22, _, w36⟩ := DataW.trod_int Tryz.underlying3 g22'
      obtain rfl : c36 = .int .i64 n36 := by simpa using e22
      have g23 := hg 23 f23 rfl
      rw [o23, t23, cells_int] at g23
      have g23' : DataW.trod enc Tryz.prog W base spare held n 3 [c37] = some y23 := g23
      obtain ⟨n37, e23, _, w37⟩ := DataW.trod_int Tryz.underlying3 g23'
      obtain rfl : c37 = .int .i64 n37 := by simpa using e23
      have g24 := hg 24 f24 rfl
      rw [o24, t24, cells_str] at g24
      have g24' : DataW.trod enc Tryz.prog W base spare held n 9 [c38] = some y24 := g24
      obtain ⟨s38, e24, _, w38⟩ := DataW.trod_string Tryz.underlying9 g24'
      obtain rfl : c38 = .string s38 := by simpa using e24
      refine ⟨⟨n0, n1, n2, n3, n4, n5, n6, s7.data.toList, s8.data.toList, s9.data.toList, c10, c11, ⟨n12, n13, n14⟩, n15, n16, n17, s18.data.toList, n19, n20, s21.data.toList, dd, n35, n36, n37, s38.data.toList, NL, QL⟩, ?_, ?_, ⟨hNL, hQL⟩⟩
      · simp [msgV, cellsB, cellsM, mk_of]
      · exact ⟨i12, hd1, hd2, hQl, hNl, w7, w8, w9, w18, w21, w38⟩
theorem format_fields : ∃ f0 f1 f2 : Field, Tryz.prog.underlying 140 = some (.struct #[f0, f1, f2]) ∧ f0.type = 3 ∧ f1.type = 3 ∧ f2.type = 4 ∧ f0.offset = 0 ∧ f1.offset = 1 ∧ f2.offset = 2 :=
  ⟨_, _, _, Tryz.underlying140, rfl, rfl, rfl, rfl, rfl, rfl⟩
theorem cells_format : Tryz.prog.cellsOf 140 = 3 := by kernel_rfl
set_option maxRecDepth 100000 in
theorem format_cells {fuel : Nat} {cs : List Value} {a b : Int} {c : Bool} {p : List MemPlace} (h : DataW.trod enc Tryz.prog W base spare held fuel 140 cs = some (.agg [.lit (.int .i64 a), .lit (.int .i64 b), .lit (.bool c)], p)) :
    cs = [.int .i64 a, .int .i64 b, .bool c] := by
  obtain ⟨f0, f1, f2, hu, t0, t1, t2, o0, o1, o2⟩ := format_fields
  obtain ⟨xs, n, _, hx, hlen, hxl, hf⟩ := DataW.trod_struct hu h
  rw [cells_format] at hlen
  match cs, hlen with
  | [c0, c1, c2], _ =>
    match xs, hxl with
    | [y0, y1, y2], _ =>
      have g0 := hf 0 f0 rfl
      have g1 := hf 1 f1 rfl
      have g2 := hf 2 f2 rfl
      rw [o0, t0, cells_int] at g0
      rw [o1, t1, cells_int] at g1
      rw [o2, t2, cells_bool] at g2
      have g0' : DataW.trod enc Tryz.prog W base spare held n 3 [c0] = some y0 := g0
      have g1' : DataW.trod enc Tryz.prog W base spare held n 3 [c1] = some y1 := g1
      have g2' : DataW.trod enc Tryz.prog W base spare held n 4 [c2] = some y2 := g2
      obtain ⟨n0, e0, x0, _⟩ := DataW.trod_int Tryz.underlying3 g0'
      obtain ⟨n1, e1, x1, _⟩ := DataW.trod_int Tryz.underlying3 g1'
      obtain ⟨n2, e2, x2⟩ := DataW.trod_bool Tryz.underlying4 g2'
      subst x0 x1 x2
      obtain rfl : c0 = .int .i64 n0 := by simpa using e0
      obtain rfl : c1 = .int .i64 n1 := by simpa using e1
      obtain rfl : c2 = .bool n2 := by simpa using e2
      simp at hx
      simp [hx]
end

set_option maxRecDepth 100000 in
theorem gsubjects : Tryz.prog.globalNamed "filespace/msg.subjects" = some 0 := by kernel_rfl
theorem gsubjects_t : (Tryz.prog.globals[0]?).map (·.type) = some 127 := by kernel_rfl
set_option maxRecDepth 100000 in
theorem subjects_at : (Rows.laid_filespace_msg_subjects (H := Unit)) = .agg ((List.range 16).map fun k => .lit (.string (subjN k))) := by
  kernel_rfl
set_option maxRecDepth 100000 in
theorem gformats : Tryz.prog.globalNamed "filespace/stat.formats" = some 1 := by kernel_rfl
theorem gformats_t : (Tryz.prog.globals[1]?).map (·.type) = some 141 := by kernel_rfl
set_option maxRecDepth 100000 in
theorem formats_at : (Rows.laid_filespace_stat_formats (H := Unit)) = .agg ((List.range 9).map fun k => .agg [.lit (.int .i64 (fW k : Int)), .lit (.int .i64 (fG k : Int)), .lit (.bool (fS k))]) := by
  kernel_rfl
set_option maxRecDepth 100000 in
theorem formats_get (k : Nat) (hk : k < 9) : formatsL[k * 3]? = some (.int .i64 (fW k : Int)) ∧ formatsL[k * 3 + 1]? = some (.int .i64 (fG k : Int)) ∧ formatsL[k * 3 + 2]? = some (.bool (fS k)) := by
  rcases k9 hk with rfl | rfl | rfl | rfl | rfl | rfl | rfl | rfl | rfl
  all_goals exact ⟨rfl, rfl, rfl⟩
set_option maxRecDepth 100000 in
theorem laidF {W : World} (h0 : laidMet Tryz.prog [("filespace/stat.formats", Rows.laid_filespace_stat_formats), ("filespace/msg.subjects", Rows.laid_filespace_msg_subjects)] W) : 1 < W.heap.size ∧ W.rangeAt 1 0 formatsL := by
  obtain ⟨g', t', cs, fuel, p, hg', ht', hvar, hd⟩ := Lib.laidMet.reads h0 (List.Mem.head _)
  obtain rfl := Option.some.inj (gformats.symm.trans hg')
  obtain rfl := Option.some.inj (gformats_t.symm.trans ht')
  have key : ∀ k, k < 9 → (cs.toList.drop (k * 3)).take 3 = [.int .i64 (fW k : Int), .int .i64 (fG k : Int), .bool (fS k)] := fun k hk => by
    rw [formats_at] at hd
    obtain ⟨f', d', q', hds, htr⟩ := Lib.array_elem Tryz.underlying141 hd k hk
    rw [cells_format] at htr
    have he : d' = .agg [.lit (.int .i64 (fW k : Int)), .lit (.int .i64 (fG k : Int)), .lit (.bool (fS k))] := by
      have := hds
      rw [List.getElem?_map, List.getElem?_range hk] at this
      simpa using this.symm
    rw [he] at htr
    exact format_cells htr
  have cell : ∀ j v, formatsL[j]? = some v → W.cell? ⟨1, 0 + j, none⟩ = some v := fun j v hv => by
    rw [Nat.zero_add, World.var?_cell gformats hvar j]
    have hj : j < 27 := (List.getElem?_eq_some_iff.1 hv).1
    have hk := key (j / 3) (by omega)
    have hm := formats_get (j / 3) (by omega)
    have e : ∀ i, i < 3 → cs[j / 3 * 3 + i]? = [Value.int .i64 (fW (j / 3) : Int), .int .i64 (fG (j / 3) : Int), .bool (fS (j / 3))][i]? := fun i hi => by
      rw [← hk, List.getElem?_take, if_pos hi, List.getElem?_drop]; simp
    have hr : j % 3 = 0 ∨ j % 3 = 1 ∨ j % 3 = 2 := by omega
    rcases hr with hr | hr | hr
    · have ej : j / 3 * 3 + 0 = j := by omega
      have e0 := e 0 (by omega)
      rw [ej] at e0
      rw [Nat.add_zero] at ej
      rw [ej] at hm
      rw [e0, ← hv, hm.1]; rfl
    · have ej : j / 3 * 3 + 1 = j := by omega
      have e0 := e 1 (by omega)
      rw [ej] at e0 hm
      rw [e0, ← hv, hm.2.1]; rfl
    · have ej : j / 3 * 3 + 2 = j := by omega
      have e0 := e 2 (by omega)
      rw [ej] at e0 hm
      rw [e0, ← hv, hm.2.2]; rfl
  refine ⟨?_, cell⟩
  rcases Nat.lt_or_ge 1 W.heap.size with h | h
  · exact h
  · exfalso
    have c0 := cell 0 _ rfl
    have : W.cell? ⟨1, 0 + 0, none⟩ = none := by simp [World.cell?, Array.getElem?_eq_none h]
    rw [this] at c0; cases c0
set_option maxRecDepth 100000 in
theorem laidS {W : World} (h0 : laidMet Tryz.prog [("filespace/stat.formats", Rows.laid_filespace_stat_formats), ("filespace/msg.subjects", Rows.laid_filespace_msg_subjects)] W) : 0 < W.heap.size ∧ W.rangeAt 0 0 subjL := by
  obtain ⟨g', t', cs, fuel, p, hg', ht', hvar, hd⟩ := Lib.laidMet.reads h0 (List.Mem.tail _ (List.Mem.head _))
  obtain rfl := Option.some.inj (gsubjects.symm.trans hg')
  obtain rfl := Option.some.inj (gsubjects_t.symm.trans ht')
  have key : ∀ k, k < 16 → cs[k]? = some (.string (mk (subjN k))) := fun k hk => by
    rw [subjects_at] at hd
    obtain ⟨f', d', q', hds, htr⟩ := Lib.array_elem Tryz.underlying127 hd k hk
    rw [cells_str] at htr
    have he : d' = .lit (.string (subjN k)) := by
      have := hds
      rw [List.getElem?_map, List.getElem?_range hk] at this
      simpa using this.symm
    rw [he] at htr
    obtain ⟨s, e, x, _⟩ := DataW.trod_string Tryz.underlying9 htr
    have hs : s.data.toList = subjN k := by
      have := congrArg Prod.fst x
      simpa using this.symm
    have h1 : cs[k]? = ((cs.toList.drop (k * 1)).take 1)[0]? := by rw [List.getElem?_take, if_pos (by omega), List.getElem?_drop]; simp
    rw [h1, e, ← hs, mk_of]
    rfl
  have cell : ∀ j v, subjL[j]? = some v → W.cell? ⟨0, 0 + j, none⟩ = some v := fun j v hv => by
    have hj : j < 16 := by
      have := (List.getElem?_eq_some_iff.1 hv).1
      simpa [subjL] using this
    rw [Nat.zero_add, World.var?_cell gsubjects hvar j, key j hj, ← hv]
    simp [subjL, List.getElem?_map, List.getElem?_range hj]
  refine ⟨?_, cell⟩
  rcases Nat.lt_or_ge 0 W.heap.size with h | h
  · exact h
  · exfalso
    have c0 := cell 0 _ rfl
    have : W.cell? ⟨0, 0 + 0, none⟩ = none := by simp [World.cell?, Array.getElem?_eq_none h]
    rw [this] at c0; cases c0
set_option maxRecDepth 100000 in
/-- From the row's list to what the walks ask. -/
theorem laidG {W : World} (h0 : laidMetH Tryz.prog [("filespace/stat.formats", Rows.laid_filespace_stat_formats), ("filespace/msg.subjects", Rows.laid_filespace_msg_subjects)] W) : G W := by
  rw [MakeChecks.laidMetH_plain _ _ _ (by kernel_rfl)] at h0
  exact ⟨laidF h0, laidS h0⟩
end Go.Proofs.YtlfdmbfbfadifaaGreatDoor
