/-
  Maps with elements of type bool; the keys of Right's maps.
-/
import Derived.Test.YtalhkoolpnmcdaaAl
import Derived.Maps.Own
import Derived.Maps.OwnSet
import Derived.DeepKeys4
namespace Go.Proofs.Ytalhkoolpnmcdaa
open Go.RowKit

theorem intKeyed : Maps.Keyed Try.prog 3 := Maps.int_keyed Try.underlying3
set_option maxRecDepth 100000 in
theorem laidOutA : laidOutB Try.prog = true := by kernel_rfl
set_option maxRecDepth 100000 in
theorem rowE : (62 : TypeId) < Try.prog.types.size := of_decide_eq_true (by kernel_rfl)
set_option maxRecDepth 100000 in
theorem sizeP : 0 < Try.prog.types.size := of_decide_eq_true (by kernel_rfl)
set_option maxRecDepth 100000 in
theorem wideE : (match Try.prog.underlying 62 with | some (.array _ _) | some (.struct _) => true | _ => false) = true := by rw [Try.underlying62]
set_option maxRecDepth 100000 in
theorem entryKeyed : Maps.Keyed Try.prog 62 := Maps.Keyed.of_law (deep_law_laid laidOutA (m := 2) (by omega) rowE (by kernel_rfl) wideE)
/-- An entry's key. -/
def entryV (p : Int) (x : List UInt8) : Value := .agg #[.int .i64 p, .string (mk x)]
set_option maxRecDepth 100000 in
theorem keyTypeE : Try.prog.keyType 62 = true := by kernel_rfl
set_option maxRecDepth 100000 in
theorem cellsE : Try.prog.cellsOf 62 = 2 := by kernel_rfl
set_option maxRecDepth 100000 in
theorem cellsI : Try.prog.cellsOf 3 = 1 := by kernel_rfl
set_option maxRecDepth 100000 in
theorem cellsS : Try.prog.cellsOf 9 = 1 := by kernel_rfl
set_option maxRecDepth 100000 in
theorem entry_key (p : Int) (x : List UInt8) (hp : inI p) (hx : x.length ≤ maxLen) : ∃ l, keyOf Try.prog 62 (entryV p x) = some l := by
  obtain ⟨m, hm⟩ := Nat.exists_eq_succ_of_ne_zero (Nat.ne_of_gt sizeP)
  have hw : (Lit.int .i64 p).wf = true := by
    simpa [Lit.wf, IntKind.min, IntKind.max, IntKind.signed, IntKind.bits, inI] using hp
  have h1 : (entryV p x).formed Try.prog 62 = true := by simp [entryV, Value.formed, Try.underlying62, cellsE]
  have h2 : Try.prog.keyLits (Try.prog.types.size + 1) 62 (entryV p x).cells.toList = some [.int .i64 p, .string (mk x).data.toList] := by
    rw [hm]
    simp [entryV, Value.cells, Program.keyLits, Try.underlying62, Try.underlying3, Try.underlying9, cellsE, cellsI, cellsS, hw, mk_size, hx]
  unfold keyOf
  rw [Try.underlying62]
  simp only [keyTypeE, h1, h2]
  exact ⟨_, rfl⟩
/-- Block b is a map of at most n entries whose elements are true exactly where f says so. -/
def BMap (w : World) (k : TypeId) (b n : Nat) (f : Lit → Prop) : Prop :=
  ∃ D : DataW Unit, w.ownsMap Try.prog k (plainElem Try.prog 4) b n D ∧ ∀ l, ∃ x : Bool, D.atKey l (.lit (.bool false)) = .lit (.bool x) ∧ (x = true ↔ f l)
theorem BMap.made (w : World) (k : TypeId) : BMap (w.alloc (.map #[] 0)) k w.heap.size 0 (fun _ => False) := ⟨_, World.ownsMap_made w _ _ _, fun l => ⟨false, rfl, by simp⟩⟩
theorem BMap.kept {w w' : World} {k : TypeId} {b n : Nat} {f : Lit → Prop} {row : Option Nat} (h : BMap w k b n f) (hg : w.grownBy w' row) (hr : some b ≠ row) : BMap w' k b n f := by
  obtain ⟨D, h1, h2⟩ := h
  exact ⟨D, h1.kept hg hr, h2⟩
theorem BMap.lt {w : World} {k : TypeId} {b n : Nat} {f : Lit → Prop} (h : BMap w k b n f) : b < w.heap.size := by
  obtain ⟨D, h1, _⟩ := h
  exact h1.lt
theorem BMap.isMapAt {w : World} {k : TypeId} {b n : Nat} {f : Lit → Prop} (h : BMap w k b n f) : ∃ es clock, w.heap[b]? = some (.map es clock) := by
  obtain ⟨D, ⟨es, clock, hb, _⟩, _⟩ := h
  exact ⟨es, clock, hb⟩
set_option maxRecDepth 100000 in
theorem BMap.look {w : World} {k t : TypeId} {b n : Nat} {f : Lit → Prop} (h : BMap w k b n f) (K : Maps.Keyed Try.prog k) (ht : Try.prog.underlying t = some (.map k 4)) {key : Value} {kl : Lit} (hkey : keyOf Try.prog k key = some kl) :
    ∃ x : Bool, (Instr.lookup t (.map (some b)) key false).run Try.prog w = .ok (.bool x) w ∧ (x = true ↔ f kl) := by
  obtain ⟨D, h1, h2⟩ := h
  obtain ⟨v, ps, hrun, hv⟩ := h1.lookup K ht (z := .bool false) (by kernel_rfl) (plainElem_bool Try.underlying4 false) hkey
  obtain ⟨x, hx, hxf⟩ := h2 kl
  rw [hx] at hv
  unfold plainElem at hv
  rw [Try.underlying4] at hv
  cases v <;> simp at hv
  obtain ⟨rfl, rfl⟩ := hv
  exact ⟨_, hrun, hxf⟩
theorem BMap.put {w : World} {k t : TypeId} {b n : Nat} {f : Lit → Prop} (h : BMap w k b n f) (K : Maps.Keyed Try.prog k) (ht : Try.prog.underlying t = some (.map k 4)) (hn : n < maxLen) {key : Value} {kl : Lit} (hkey : keyOf Try.prog k key = some kl) (x : Bool) :
    ∃ w', (Instr.mapUpdate t (.map (some b)) key (.bool x)).run Try.prog w = .ok () w' ∧ BMap w' k b (n + 1) (fun l => (l = kl ∧ x = true) ∨ (l ≠ kl ∧ f l)) ∧ w.grownBy w' (some b) := by
  obtain ⟨D, h1, h2⟩ := h
  obtain ⟨w', hrun, h3, hg⟩ := h1.update K ht hn hkey (plainElem_bool Try.underlying4 x)
  refine ⟨w', hrun, ⟨_, h3, fun l => ?_⟩, hg⟩
  by_cases e : l = kl
  · subst e
    exact ⟨x, Maps.atKey_put_same h1.isMap (K.key hkey) _ _, by simp⟩
  · obtain ⟨y, hy, hyf⟩ := h2 l
    exact ⟨y, (Maps.atKey_put_other e _ _).trans hy, by simp [e, hyf]⟩
end Go.Proofs.Ytalhkoolpnmcdaa
