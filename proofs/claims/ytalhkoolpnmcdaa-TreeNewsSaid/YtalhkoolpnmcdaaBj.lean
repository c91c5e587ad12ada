/-
  Right.
-/
import Derived.Test.YtalhkoolpnmcdaaBi
import Derived.Test.YtalhkoolpnmcdaaAy
namespace Go.Proofs.Ytalhkoolpnmcdaa
open Go.RowKit

/-- The map of directories when k nodes were seen. -/
def DF (L : List ND) (k : Nat) (l : Lit) : Prop := ∃ j, j < k ∧ l = .int .i64 (getN L j).id ∧ dbit (getN L j).mo = true
/-- The map of names when k nodes were seen. -/
def EF (L : List ND) (k : Nat) (l : Lit) : Prop := ∃ j, 1 ≤ j ∧ j < k ∧ keyOf Try.prog 62 (entryV (getN L j).pa (getN L j).nm) = some l
def passP (L : List ND) (k : Nat) : Prop := (getN L (k - 1)).id < (getN L k).id ∧ (∃ j, j < k ∧ (getN L j).id = (getN L k).pa ∧ dbit (getN L j).mo = true) ∧ validL (getN L k).nm = true ∧
  (¬ ∃ j, 1 ≤ j ∧ j < k ∧ (getN L j).pa = (getN L k).pa ∧ (getN L j).nm = (getN L k).nm) ∧ fieldsB (getN L k) = true
def RightP (nx : Int) (L : List ND) : Prop := 0 < L.length ∧ L.length ≤ 1024 ∧ rootB (getN L 0) = true ∧ (∀ k, 1 ≤ k → k < L.length → passP L k) ∧ (getN L (L.length - 1)).id < nx ∧ nx ≤ 1048576
theorem BMap.iff {w : World} {k : TypeId} {b n : Nat} {f g : Lit → Prop} (h : BMap w k b n f) (hfg : ∀ l, f l ↔ g l) : BMap w k b n g := by
  obtain ⟨D, h1, h2⟩ := h
  exact ⟨D, h1, fun l => by obtain ⟨x, hx, hxf⟩ := h2 l; exact ⟨x, hx, hxf.trans (hfg l)⟩⟩
theorem BMap.drew {w : World} {k : TypeId} {b n : Nat} {f : Lit → Prop} (h : BMap w k b n f) : BMap w.drew k b n f := by
  obtain ⟨D, h1, h2⟩ := h
  exact ⟨D, h1.drew, h2⟩
theorem int_key {a : Int} (ha : inI a) : keyOf Try.prog 3 (.int .i64 a) = some (.int .i64 a) :=
  Maps.keyOf_int_mk Try.underlying3 (by simpa [Lit.wf, IntKind.min, IntKind.max, IntKind.signed, IntKind.bits, inI] using ha)
theorem grown_none {W W' : World} (h : Below W.heap.size W W') : W.grownBy W' none := ⟨h.os, h.tape, h.output, h.size, fun k hk _ => h.block k hk⟩
theorem rise_lt {L : List ND} {k : Nat} (h : ∀ j, 1 ≤ j → j ≤ k → (getN L (j - 1)).id < (getN L j).id) : ∀ j, j < k → (getN L j).id < (getN L k).id := by
  induction k with
  | zero => intro j hj; omega
  | succ k ih =>
    intro j hj
    have h1 := h (k + 1) (by omega) (by omega)
    rw [Nat.add_sub_cancel] at h1
    by_cases e : j = k
    · subst e; exact h1
    · have := ih (fun i a b => h i a (by omega)) j (by omega)
      omega

/-- The maps of Right when k nodes were seen. -/
structure MSt (w : World) (L : List ND) (b1 b2 k1 k2 : Nat) (W : World) : Prop where
  bel : Below w.heap.size w W
  m1 : BMap W 3 b1 k1 (DF L k1)
  m2 : BMap W 62 b2 k2 (EF L k2)
  lo1 : w.heap.size ≤ b1
  lo2 : w.heap.size ≤ b2
  ne : b1 ≠ b2
theorem MSt.go {w : World} {L : List ND} {b1 b2 k1 k2 : Nat} {W W' : World} (h : MSt w L b1 b2 k1 k2 W) (hB : Below W.heap.size W W') : MSt w L b1 b2 k1 k2 W' :=
  ⟨h.bel.trans (hB.mono h.bel.size), h.m1.kept (grown_none hB) (by simp), h.m2.kept (grown_none hB) (by simp), h.lo1, h.lo2, h.ne⟩
theorem MSt.drew {w : World} {L : List ND} {b1 b2 k1 k2 : Nat} {W : World} (h : MSt w L b1 b2 k1 k2 W) : MSt w L b1 b2 k1 k2 W.drew :=
  ⟨⟨h.bel.os, h.bel.tape, h.bel.output, h.bel.size, h.bel.block⟩, h.m1.drew, h.m2.drew, h.lo1, h.lo2, h.ne⟩
theorem MSt.put1 {w : World} {L : List ND} {b1 b2 k k2 : Nat} {W : World} (h : MSt w L b1 b2 k k2 W) (hk : k < maxLen) (hi : inI (getN L k).id) (hr : ∀ j, j < k → (getN L j).id < (getN L k).id) :
    ∃ W', (Instr.mapUpdate 59 (.map (some b1)) (.int .i64 (getN L k).id) (.bool (dbit (getN L k).mo))).run Try.prog W = .ok () W' ∧ MSt w L b1 b2 (k + 1) k2 W' ∧ W.grownBy W' (some b1) := by
  obtain ⟨W', hrun, hm, hg⟩ := h.m1.put intKeyed Try.underlying59 hk (int_key hi) (dbit (getN L k).mo)
  refine ⟨W', hrun, ⟨h.bel.grown hg h.bel.size (fun r e => by cases e; exact h.lo1), hm.iff fun l => ?_, h.m2.kept hg (fun e => h.ne (by cases e; rfl)), h.lo1, h.lo2, h.ne⟩, hg⟩
  constructor
  · rintro (⟨rfl, hx⟩ | ⟨hl, j, hj, rfl, hd⟩)
    · exact ⟨k, by omega, rfl, hx⟩
    · exact ⟨j, by omega, rfl, hd⟩
  · rintro ⟨j, hj, rfl, hd⟩
    by_cases e : j = k
    · subst e; exact .inl ⟨rfl, hd⟩
    · refine .inr ⟨fun e' => ?_, j, by omega, rfl, hd⟩
      have h1 := hr j (by omega)
      injection e' with _ e'
      omega
theorem MSt.put2 {w : World} {L : List ND} {b1 b2 k1 k : Nat} {W : World} (h : MSt w L b1 b2 k1 k W) (hk : k < maxLen) (h1 : 1 ≤ k) (hi : inI (getN L k).pa) (hx : (getN L k).nm.length ≤ maxLen) :
    ∃ W', (Instr.mapUpdate 60 (.map (some b2)) (entryV (getN L k).pa (getN L k).nm) (.bool true)).run Try.prog W = .ok () W' ∧ MSt w L b1 b2 k1 (k + 1) W' ∧ W.grownBy W' (some b2) := by
  obtain ⟨kl, hkl⟩ := entry_key (getN L k).pa (getN L k).nm hi hx
  obtain ⟨W', hrun, hm, hg⟩ := h.m2.put entryKeyed Try.underlying60 hk hkl true
  refine ⟨W', hrun, ⟨h.bel.grown hg h.bel.size (fun r e => by cases e; exact h.lo2), h.m1.kept hg (fun e => h.ne (by cases e; rfl)), hm.iff fun l => ?_, h.lo1, h.lo2, h.ne⟩, hg⟩
  constructor
  · rintro (⟨rfl, _⟩ | ⟨hl, j, hj, hjk, hd⟩)
    · exact ⟨k, h1, by omega, hkl⟩
    · exact ⟨j, hj, by omega, hd⟩
  · rintro ⟨j, hj, hjk, hd⟩
    by_cases e : l = kl
    · exact .inl ⟨e, rfl⟩
    · refine .inr ⟨e, j, hj, ?_, hd⟩
      by_cases e' : j = k
      · subst e'; rw [hkl] at hd; exact absurd (Option.some.inj hd).symm e
      · omega
theorem MSt.look1 {w : World} {L : List ND} {b1 b2 k1 k2 : Nat} {W : World} (h : MSt w L b1 b2 k1 k2 W) {p : Int} (hp : inI p) :
    ∃ x : Bool, (Instr.lookup 59 (.map (some b1)) (.int .i64 p) false).run Try.prog W = .ok (.bool x) W ∧ (x = true ↔ ∃ j, j < k1 ∧ (getN L j).id = p ∧ dbit (getN L j).mo = true) := by
  obtain ⟨x, hrun, hx⟩ := h.m1.look intKeyed Try.underlying59 (int_key hp)
  refine ⟨x, hrun, hx.trans ⟨?_, ?_⟩⟩
  · rintro ⟨j, hj, e, hd⟩; injection e with _ e; exact ⟨j, hj, e.symm, hd⟩
  · rintro ⟨j, hj, rfl, hd⟩; exact ⟨j, hj, rfl, hd⟩
theorem MSt.look2 {w : World} {L : List ND} {b1 b2 k1 k2 : Nat} {W : World} (h : MSt w L b1 b2 k1 k2 W) {p : Int} {x : List UInt8} (hp : inI p) (hx : x.length ≤ maxLen) :
    ∃ y : Bool, (Instr.lookup 60 (.map (some b2)) (entryV p x) false).run Try.prog W = .ok (.bool y) W ∧ (y = true ↔ ∃ j, 1 ≤ j ∧ j < k2 ∧ (getN L j).pa = p ∧ (getN L j).nm = x) := by
  obtain ⟨kl, hkl⟩ := entry_key p x hp hx
  obtain ⟨y, hrun, hy⟩ := h.m2.look entryKeyed Try.underlying60 hkl
  refine ⟨y, hrun, hy.trans ⟨?_, ?_⟩⟩
  · rintro ⟨j, h1, hj, e⟩
    have := entryKeyed.inj e hkl
    unfold entryV at this
    simp only [Value.agg.injEq, Array.mk.injEq, List.cons.injEq, Value.int.injEq, Value.string.injEq, true_and, and_true] at this
    exact ⟨j, h1, hj, this.1, mk_inj this.2⟩
  · rintro ⟨j, h1, hj, rfl, rfl⟩; exact ⟨j, h1, hj, hkl⟩
end Go.Proofs.Ytalhkoolpnmcdaa
