/-
  Walks: copied: a tree's nodes are copied into a row of the call's own.
-/
import Derived.Test.YtalhkoolpnmcdaaAm
import Derived.Laws.CopyOwn
import Derived.Lib.SlBuf
namespace Go.Proofs.Ytalhkoolpnmcdaa
open Go.RowKit

theorem run_copyN {w : World} (ty : TypeId) (b o n dCap : Nat) (a : Addr) (sCap : Nat) (cs : List Value) (hn : cs.length = n * 11)
    (hsrc : ∀ j v, cs[j]? = some v → w.cell? (a.add j) = some v) (hc : ∀ j, j < cs.length → (w.cell? ⟨b, o + j, none⟩).isSome = true) (hf : ∀ j, j < cs.length → w.frozen? ⟨b, o + j, none⟩ = false) (h1 : ∀ v ∈ cs, v.oneCell' = true) :
    (Builtin.copy_ #[24, 24] ty #[.slice (some ⟨b, o, none⟩) n dCap, .slice (some a) n sCap]).run Try.prog w = .ok (goInt n) (w.setCells b o cs) := by
  have hl := run_loadCells_list (P := Try.prog) w a cs hsrc
  have hst := run_storeCells_cells (P := Try.prog) b o cs 0 w (by simpa using hc) (by simpa using hf) h1
  obtain ⟨i0, hi, hz0, hz1, hz2⟩ := info_parts info_node
  have hmin : Nat.min n n = n := Nat.min_self n
  rw [hn] at hl
  simp [Builtin.copy_, run_underlying Try.underlying24, Builtin.lenOf, Builtin.firstCells, sizeOf, typeInfo, hi, hz1, hmin, hl, hst]

/-- Cells of a whole row replaced. -/
theorem setCells_row {w : World} {g : Nat} {t : TypeId} : ∀ (vs : List Value) (o : Nat) (cur : Array Value), w.heap[g]? = some (.cells cur t (0, 0)) → o + vs.length ≤ cur.size →
    ∃ cur', (w.setCells g o vs).heap[g]? = some (.cells cur' t (0, 0)) ∧ cur'.size = cur.size ∧ (∀ j, j < o → cur'[j]? = cur[j]?) ∧ (∀ j, j < vs.length → cur'[o + j]? = vs[j]?) ∧ (∀ j, o + vs.length ≤ j → cur'[j]? = cur[j]?) := by
  intro vs
  induction vs generalizing w with
  | nil => intro o cur h _; exact ⟨cur, h, rfl, fun _ _ => rfl, fun j hj => by simp at hj, fun _ _ => rfl⟩
  | cons v vs ih =>
    intro o cur h hle
    simp only [List.length_cons] at hle
    have h1 := heap_setCell_same w g o cur t v h
    obtain ⟨cur', a, b, c, d, e⟩ := ih (w := w.setCell ⟨g, o, none⟩ v) (o + 1) (cur.setIfInBounds o v) h1 (by simp; omega)
    refine ⟨cur', a, by rw [b]; simp, fun j hj => ?_, fun j hj => ?_, fun j hj => ?_⟩
    · rw [c j (by omega), Array.getElem?_setIfInBounds, if_neg (by omega)]
    · cases j with
      | zero =>
        rw [Nat.add_zero, c o (by omega), Array.getElem?_setIfInBounds, if_pos rfl, if_pos (by omega)]
        rfl
      | succ j =>
        have := d j (by simpa using hj)
        rw [show o + (j + 1) = o + 1 + j by omega, this]
        rfl
    · simp only [List.length_cons] at hj
      rw [e j (by omega), Array.getElem?_setIfInBounds, if_neg (by omega)]
theorem setCells_heap (g : Nat) : ∀ (vs : List Value) (o : Nat) (w : World) (k : Nat), k ≠ g → (w.setCells g o vs).heap[k]? = w.heap[k]? := by
  intro vs
  induction vs with
  | nil => intro o w k _; rfl
  | cons v vs ih => intro o w k hk; exact (ih (o + 1) _ k hk).trans (heap_setCell_other w ⟨g, o, none⟩ k v hk)
theorem setCells_rest (g : Nat) : ∀ (vs : List Value) (o : Nat) (w : World), (w.setCells g o vs).os = w.os ∧ (w.setCells g o vs).tape = w.tape ∧ (w.setCells g o vs).output = w.output ∧ (w.setCells g o vs).heap.size = w.heap.size := by
  intro vs
  induction vs with
  | nil => intro o w; exact ⟨rfl, rfl, rfl, rfl⟩
  | cons v vs ih =>
    intro o w
    obtain ⟨a, b, c, d⟩ := ih (o + 1) (w.setCell ⟨g, o, none⟩ v)
    exact ⟨a, b, c, d.trans (by simp [World.setCell])⟩
theorem below_setCells {B : Nat} {a w : World} (h : Below B a w) {g : Nat} (hg : B ≤ g) (o : Nat) (vs : List Value) : Below B a (w.setCells g o vs) := by
  obtain ⟨r1, r2, r3, r4⟩ := setCells_rest g vs o w
  exact ⟨r1.trans h.os, r2.trans h.tape, r3.trans h.output, by rw [r4]; exact h.size, fun k hk => (setCells_heap g vs o w k (by omega)).trans (h.block k hk)⟩
theorem only_setCells {a w : World} {g : Nat} (h : a.grownBy w (some g)) (o : Nat) (vs : List Value) : a.grownBy (w.setCells g o vs) (some g) := by
  obtain ⟨r1, r2, r3, r4⟩ := setCells_rest g vs o w
  exact ⟨r1.trans h.os, r2.trans h.tape, r3.trans h.output, by rw [r4]; exact h.size, fun k hk hne => (setCells_heap g vs o w k (fun e => hne (by rw [e]))).trans (h.block k hk hne)⟩

/-- A row that holds n nodes is filled. -/
theorem NOwn.filled {B : Nat} {w : World} {g cap : Nat} {xs : List Value} {L : List ND} (h : w.ownsRow B 31 11 (.slice (some ⟨g, 0, none⟩) L.length cap) L.length xs) : NOwn B (w.setCells g 0 (flatN L)) (.slice (some ⟨g, 0, none⟩) L.length cap) L := by
  obtain ⟨h1, h2⟩ := h
  rcases h2 with ⟨h2, hx⟩ | ⟨g', cap', cur, h2, hb, hg, hnc, hcm, hsz, htk⟩
  · cases h2
  · injection h2 with h2 h3 h4
    injection h2 with h2
    injection h2 with h2
    subst h2 h4
    have hle : L.length * 11 ≤ cap * 11 := Nat.mul_le_mul_right _ hnc
    obtain ⟨cur', a, b, c, d, e⟩ := setCells_row (flatN L) 0 cur hg (by rw [flatN_len, hsz]; omega)
    refine ⟨flatN_len L, .inr ⟨g, cap, cur', rfl, hb, a, hnc, hcm, by rw [b, hsz], ?_⟩⟩
    apply List.ext_getElem?
    intro j
    by_cases hj : j < L.length * 11
    · rw [List.getElem?_take_of_lt hj]
      have := d j (by rw [flatN_len]; exact hj)
      rw [Nat.zero_add] at this
      simpa using this
    · rw [List.getElem?_take_eq_none (by omega), List.getElem?_eq_none (by rw [flatN_len]; omega)]
/-- The cells of a list, one after the other. -/
theorem NRow.flat {w : World} {b o cap : Nat} {L : List ND} (h : ∀ k, k < L.length → w.rangeAt b (o + k * 11) (cellsN (getN L k))) : ∀ j v, (flatN L)[j]? = some v → w.cell? ((⟨b, o, none⟩ : Addr).add j) = some v := by
  intro j v hv
  have hj := (List.getElem?_eq_some_iff.1 hv).1
  rw [flatN_len] at hj
  have hk : j / 11 < L.length := by omega
  have e : j = j / 11 * 11 + j % 11 := by omega
  rw [e, flatN_get L (j / 11) (j % 11) hk (by omega)] at hv
  have := h (j / 11) hk (j % 11) v hv
  rw [add_at, e]
  rw [show o + (j / 11 * 11 + j % 11) = o + j / 11 * 11 + j % 11 by omega]
  exact this
theorem results_tree {fn : Func} {p b : Nat} {nx : Int} {v : Value} {w : World} {tmps : Array Value} (h : fn.results = #[.cell p 26]) (hp : tmps.getD p undef = .pointer (some ⟨b, 0, none⟩)) (hb : BlkT w b nx v) :
    (results fn tmps).run Try.prog w = .ok (treeV nx v) w :=
  results_cell_row h _ _ b 26 #[.int .i64 nx, v] (0, 0) _ hp hb Try.underlying26 rfl (by kernel_rfl)
end Go.Proofs.Ytalhkoolpnmcdaa
