/-
  All walks; an argument that is a list of descriptions, opened.
-/
import Derived.Test.YtinjnbcikoejkaaDoorSu
import Derived.Test.YtinjnbcikoejkaaDoorSv
import Derived.Test.YtinjnbcikoejkaaDoorSx
import Derived.Test.YtinjnbcikoejkaaDoorSy
import Derived.Test.YtinjnbcikoejkaaDoorTa
import Derived.Test.YtinjnbcikoejkaaDoorTf
namespace Go.Proofs.YtinjnbcikoejkaaDoor
open Go.RowKit Go.ChangeShapes Go.WideShapes

section
variable {H : Type} {enc : TypeId × Value → H} {W : World} {base : Nat} {spare : Nat → Bool} {held : Bool}
theorem plain_addr {a : Addr} {v : Value} (h : W.cell? a = some v) : a = ⟨a.block, a.off, none⟩ := by
  have := World.cell?_spot h
  cases a
  simp only at this
  rw [this]
theorem add_add_at (b o i j : Nat) : ((⟨b, o, none⟩ : Addr).add i).add j = ⟨b, o + i + j, none⟩ := by rw [add_at, add_at]
/-- The list. -/
theorem open_dirs {p : Option Addr} {len cap : Nat} {d : DataW H} {ps : List MemPlace} (h : DataW.Trod enc Tryd.prog W base spare held 35 (.slice p len cap) d ps) :
    ∃ L, DRow W (.slice p len cap) L ∧ ∀ k, k < L.length → inD (atD L k) ∧ bigD (atD L k) := by
  obtain ⟨fuel, hf⟩ := h
  have hf' : DataW.trod enc Tryd.prog W base spare held fuel 35 [.slice p len cap] = some (d, ps) := hf
  rcases Go.Deep.open_slice Tryd.underlying35 hf' with ⟨hcs, _⟩ | ⟨a, len', cap', m, n, D, Pl, hcs, _, hl, hm, hmm, _, hi⟩
  · obtain ⟨rfl, rfl, rfl⟩ : p = none ∧ len = 0 ∧ cap = 0 := by simpa using hcs
    exact ⟨[], DRow.nil_ W, fun k hk => by simp at hk⟩
  · obtain ⟨rfl, rfl, rfl⟩ : p = some a ∧ len = len' ∧ cap = cap' := by simpa using hcs
    have hml : len ≤ m := by rw [hmm]; split <;> omega
    rw [cells_dir] at hi
    have key : ∀ i, ∃ u : DD, i < len → (∀ j v, (cellsD u)[j]? = some v → W.cell? ((a.add (i * 13)).add j) = some v) ∧ inD u ∧ bigD u := fun i => by
      by_cases hil : i < len
      · obtain ⟨cs', hc, ht⟩ := hi i (by omega)
        obtain ⟨u, rfl, h1, h2⟩ := open_dirC ht
        obtain ⟨_, _, hat⟩ := World.cells?_some hc
        refine ⟨u, fun _ => ⟨fun j v hv => ?_, h1, h2⟩⟩
        have hj : j < 13 := by
          have := (List.getElem?_eq_some_iff.1 hv).1
          rwa [cellsD_len] at this
        rw [hat j hj]; exact hv
      · exact ⟨noD, fun h => absurd h hil⟩
    have hg : ∀ k, k < len → atD ((List.range len).map fun i => Classical.choose (key i)) k = Classical.choose (key k) := fun k hk => by
      simp [atD, hk]
    refine ⟨(List.range len).map fun i => Classical.choose (key i), ⟨some a, cap, by simp, by simpa using hl, hm, fun hne => ?_⟩, fun k hk => ?_⟩
    · have hpos : 0 < len := by
        rcases Nat.eq_zero_or_pos len with h0 | h0
        · exfalso; apply hne; simp [h0]
        · exact h0
      have h0 := (Classical.choose_spec (key 0) hpos).1 0 _ rfl
      have hp := plain_addr h0
      simp only [Addr.add, Nat.zero_mul, if_pos] at hp
      refine ⟨a.block, a.off, by rw [← hp], by have := World.block_lt_of_cell? _ _ h0; simpa [Addr.add] using this, fun k hk j u hu => ?_⟩
      have hkl : k < len := by simpa using hk
      rw [hg k hkl] at hu
      have hpk : (a.add (k * 13)).add j = ⟨a.block, a.off + k * 13 + j, none⟩ := (congrArg (fun x : Addr => (x.add (k * 13)).add j) hp).trans (add_add_at a.block a.off (k * 13) j)
      exact (congrArg W.cell? hpk).symm.trans ((Classical.choose_spec (key k) hkl).1 j u hu)
    · have hkl : k < len := by simpa using hk
      rw [hg k hkl]
      exact (Classical.choose_spec (key k) hkl).2
end
end Go.Proofs.YtinjnbcikoejkaaDoor
