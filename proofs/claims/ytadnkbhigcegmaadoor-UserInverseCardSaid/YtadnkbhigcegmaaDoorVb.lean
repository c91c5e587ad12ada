/-
  An argument that is a list of users, opened.
-/
import Derived.Test.YtadnkbhigcegmaaDoorVa
import Derived.Deep.Slices
import Derived.SliceStrings
import Derived.ChangeSame
import Derived.Carry
namespace Go.Proofs.YtadnkbhigcegmaaDoor
open Go.RowKit Go.ChangeShapes Go.WideShapes

theorem cells3 : Tryd.prog.cellsOf 32 = 3 := by kernel_rfl
theorem cells1 : Tryd.prog.cellsOf 9 = 1 := by kernel_rfl
theorem user_fields : ∃ f0 f1 f2 : Field, Tryd.prog.underlying 32 = some (.struct #[f0, f1, f2]) ∧ f0.type = 9 ∧ f1.type = 9 ∧ f2.type = 30 ∧ f0.offset = 0 ∧ f1.offset = 1 ∧ f2.offset = 2 ∧
    Tryd.prog.cellsOf f0.type = 1 ∧ Tryd.prog.cellsOf f1.type = 1 ∧ Tryd.prog.cellsOf f2.type = 1 :=
  ⟨_, _, _, Tryd.underlying32, rfl, rfl, rfl, rfl, rfl, rfl, by kernel_rfl, by kernel_rfl, by kernel_rfl⟩

section
variable {H : Type} {enc : TypeId × Value → H} {W : World} {base : Nat} {spare : Nat → Bool} {held : Bool}
theorem plain_addr {a : Addr} {v : Value} (h : W.cell? a = some v) : a = ⟨a.block, a.off, none⟩ := by
  have := World.cell?_spot h
  cases a
  simp only at this
  rw [this]
/-- The members. -/
theorem open_members {fuel : Nat} {v : Value} {x : DataW H × List MemPlace} (h : DataW.trod enc Tryd.prog W base spare held fuel 30 [v] = some x) : ∃ M, SRow W v M := by
  rcases open_strings Tryd.underlying30 Tryd.underlying9 cells1 h with ⟨hcs, _⟩ | ⟨a, len, cap, ss, hcs, _, hl, hm, hz, _, hcell, _⟩
  · obtain rfl : v = .slice none 0 0 := by simpa using hcs
    exact ⟨[], SRow.nil_ W⟩
  · obtain rfl : v = .slice (some a) len cap := by simpa using hcs
    have hsl : len ≤ ss.length := by rw [hz]; split <;> omega
    have hlen : ((ss.take len).map fun s => s.data.toList).length = len := by simp; omega
    refine ⟨(ss.take len).map fun s => s.data.toList, some a, cap, by rw [hlen], by rw [hlen]; exact hl, hm, fun hne => ?_⟩
    have hpos : 0 < len := by
      rcases Nat.eq_zero_or_pos len with h0 | h0
      · exfalso; apply hne; simp [h0]
      · exact h0
    have h0 := hcell 0 (by omega)
    have hp := plain_addr h0
    simp only [Addr.add, if_pos] at hp
    refine ⟨a.block, a.off, by rw [← hp], by have := World.block_lt_of_cell? _ _ h0; simpa [Addr.add] using this, fun j hj => ?_⟩
    rw [hlen] at hj
    have hc := hcell j (by omega)
    rw [hp, add_at] at hc
    rw [hc]
    have hjs : j < ss.length := by omega
    simp [sv, mk_of, hjs]
/-- One user. -/
theorem open_user {fuel : Nat} {cs : List Value} {x : DataW H × List MemPlace} (h : DataW.trod enc Tryd.prog W base spare held fuel 32 cs = some x) : ∃ (u : U) (mv : Value), cs = [.string (mk u.n), .string (mk u.l), mv] ∧ SRow W mv u.m := by
  obtain ⟨f0, f1, f2, hu, t0, t1, t2, o0, o1, o2, k0, k1, k2⟩ := user_fields
  obtain ⟨xs, n, _, _, hlen, hxl, hf⟩ := DataW.trod_struct hu h
  rw [cells3] at hlen
  match cs, hlen with
  | [c0, c1, c2], _ =>
    match xs, hxl with
    | [y0, y1, y2], _ =>
      have g0 := hf 0 f0 rfl
      have g1 := hf 1 f1 rfl
      have g2 := hf 2 f2 rfl
      rw [o0, k0, t0] at g0
      rw [o1, k1, t1] at g1
      rw [o2, k2, t2] at g2
      have g0' : DataW.trod enc Tryd.prog W base spare held n 9 [c0] = some y0 := g0
      have g1' : DataW.trod enc Tryd.prog W base spare held n 9 [c1] = some y1 := g1
      have g2' : DataW.trod enc Tryd.prog W base spare held n 30 [c2] = some y2 := g2
      obtain ⟨s0, e0, _, _⟩ := DataW.trod_string Tryd.underlying9 g0'
      obtain ⟨s1, e1, _, _⟩ := DataW.trod_string Tryd.underlying9 g1'
      obtain ⟨M, hM⟩ := open_members g2'
      obtain rfl : c0 = .string s0 := by simpa using e0
      obtain rfl : c1 = .string s1 := by simpa using e1
      exact ⟨⟨s0.data.toList, s1.data.toList, M⟩, c2, by simp [mk_of], hM⟩
/-- The list. -/
theorem open_users {p : Option Addr} {len cap : Nat} {d : DataW H} {ps : List MemPlace} (h : DataW.Trod enc Tryd.prog W base spare held 24 (.slice p len cap) d ps) : ∃ L, URow W (.slice p len cap) L := by
  obtain ⟨fuel, hf⟩ := h
  have hf' : DataW.trod enc Tryd.prog W base spare held fuel 24 [.slice p len cap] = some (d, ps) := hf
  rcases Go.Deep.open_slice Tryd.underlying24 hf' with ⟨hcs, _⟩ | ⟨a, len', cap', m, n, D, Pl, hcs, _, hl, hm, hmm, _, hi⟩
  · obtain ⟨rfl, rfl, rfl⟩ : p = none ∧ len = 0 ∧ cap = 0 := by simpa using hcs
    exact ⟨[], URow.nil_ W⟩
  · obtain ⟨rfl, rfl, rfl⟩ : p = some a ∧ len = len' ∧ cap = cap' := by simpa using hcs
    have hml : len ≤ m := by rw [hmm]; split <;> omega
    rw [cells3] at hi
    have key : ∀ i, ∃ u : U, i < len → ∃ mv, W.cell? (a.add (i * 3)) = some (.string (mk u.n)) ∧ W.cell? ((a.add (i * 3)).add 1) = some (.string (mk u.l)) ∧ W.cell? ((a.add (i * 3)).add 2) = some mv ∧ SRow W mv u.m := fun i => by
      by_cases hil : i < len
      · obtain ⟨cs', hc, ht⟩ := hi i (by omega)
        obtain ⟨u, mv, rfl, hs⟩ := open_user ht
        obtain ⟨_, _, hat⟩ := World.cells?_some hc
        refine ⟨u, fun _ => ⟨mv, ?_, ?_, ?_, hs⟩⟩
        · have := hat 0 (by omega); simpa [Addr.add] using this
        · exact hat 1 (by omega)
        · exact hat 2 (by omega)
      · exact ⟨U0, fun h => absurd h hil⟩
    refine ⟨(List.range len).map fun i => Classical.choose (key i), some a, cap, by simp, by simpa using hl, hm, fun hne => ?_⟩
    have hpos : 0 < len := by
      rcases Nat.eq_zero_or_pos len with h0 | h0
      · exfalso; apply hne; simp [h0]
      · exact h0
    obtain ⟨_, h0, _⟩ := Classical.choose_spec (key 0) hpos
    have hp := plain_addr h0
    simp only [Addr.add, Nat.zero_mul, if_pos] at hp
    refine ⟨a.block, a.off, by rw [← hp], by have := World.block_lt_of_cell? _ _ h0; simpa [Addr.add] using this, fun k hk => ?_⟩
    have hkl : k < len := by simpa using hk
    have hg : getL ((List.range len).map fun i => Classical.choose (key i)) k = Classical.choose (key k) := by
      rw [getL_get (by simpa using hkl)]; simp
    rw [hg]
    have hpk : a.add (k * 3) = ⟨a.block, a.off + k * 3, none⟩ := (congrArg (fun x : Addr => x.add (k * 3)) hp).trans (add_at a.block a.off (k * 3))
    have hpk1 : (a.add (k * 3)).add 1 = ⟨a.block, a.off + k * 3 + 1, none⟩ := (congrArg (fun x : Addr => x.add 1) hpk).trans (add_at a.block (a.off + k * 3) 1)
    have hpk2 : (a.add (k * 3)).add 2 = ⟨a.block, a.off + k * 3 + 2, none⟩ := (congrArg (fun x : Addr => x.add 2) hpk).trans (add_at a.block (a.off + k * 3) 2)
    obtain ⟨mv, c0, c1, c2, hs⟩ := Classical.choose_spec (key k) hkl
    exact ⟨mv, (congrArg W.cell? hpk).symm.trans c0, (congrArg W.cell? hpk1).symm.trans c1, (congrArg W.cell? hpk2).symm.trans c2, hs⟩
end
theorem inI_of_wf {n : Int} (h : (Lit.int .i64 n).wf = true) : -9223372036854775808 ≤ n ∧ n ≤ 9223372036854775807 := by
  simpa [Lit.wf, IntKind.min, IntKind.max, IntKind.signed, IntKind.bits] using h
end Go.Proofs.YtadnkbhigcegmaaDoor
