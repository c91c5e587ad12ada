/-
  Walks: index, Node, directory, file, belowRoot.
-/
import Derived.Test.YtalhkoolpnmcdaaAh
import Derived.Lib.SmallJoins
namespace Go.Proofs.Ytalhkoolpnmcdaa
open Go.RowKit

/-- The block b is that of a tree: its next Id and its slice. -/
def BlkT (w : World) (b : Nat) (nx : Int) (v : Value) : Prop := w.heap[b]? = some (.cells #[.int .i64 nx, v] 26 (0, 0))
theorem BlkT.lt {w : World} {b : Nat} {nx : Int} {v : Value} (h : BlkT w b nx v) : b < w.heap.size := (Array.getElem?_eq_some_iff.1 h).1
theorem BlkT.new (w : World) (nx : Int) (v : Value) : BlkT (w.alloc (.cells #[.int .i64 nx, v] 26)) w.heap.size nx v := heap_alloc_new w _
theorem BlkT.alloc {w : World} {b : Nat} {nx : Int} {v : Value} (h : BlkT w b nx v) (o : Obj) : BlkT (w.alloc o) b nx v := (Below.heap_alloc w o b h.lt).trans h
theorem BlkT.below {w w' : World} {b B : Nat} {nx : Int} {v : Value} (h : BlkT w b nx v) (hB : Below B w w') (hb : b < B) : BlkT w' b nx v := (hB.block b hb).trans h
theorem BlkT.c0 {w : World} {b : Nat} {nx : Int} {v : Value} (h : BlkT w b nx v) : w.cell? ⟨b, 0, none⟩ = some (.int .i64 nx) := Joins.cell_of_block h 0
theorem BlkT.c1 {w : World} {b : Nat} {nx : Int} {v : Value} (h : BlkT w b nx v) : w.cell? ⟨b, 1, none⟩ = some v := Joins.cell_of_block h 1
theorem BlkT.setRow {w : World} {b g : Nat} {nx : Int} {v : Value} (h : BlkT w b nx v) (hg : b ≠ g) (cs : Array Value) : BlkT (w.setRow g cs) b nx v := (setRow_other w g b cs hg).trans h
theorem BlkN.other {w : World} {b g : Nat} {n : ND} (h : BlkN w b n) (hg : b ≠ g) (cs : Array Value) : BlkN (w.setRow g cs) b n := (setRow_other w g b cs hg).trans h

theorem load_node {w : World} {b : Nat} {n : ND} (h : BlkN w b n) : (loadVar 31 ⟨b, 0, none⟩).run Try.prog w = .ok (nodeV n) w :=
  run_loadVar_row w b 31 31 (cellsA n) (0, 0) _ h Try.underlying31 rfl (by kernel_rfl)
theorem results_node {fn : Func} {p u b : Nat} {n : ND} {w : World} {tmps : Array Value} (h : fn.results = #[.cell p 31, .tmp u]) (hp : tmps.getD p undef = .pointer (some ⟨b, 0, none⟩)) (hb : BlkN w b n) :
    (results fn tmps).run Try.prog w = .ok (.tuple #[nodeV n, tmps.getD u undef]) w := by
  have ha : (asAddr (.pointer (some ⟨b, 0, none⟩))).run Try.prog w = .ok ⟨b, 0, none⟩ w := rfl
  have hp' : tmps[p]?.getD undef = .pointer (some ⟨b, 0, none⟩) := by simpa using hp
  simp only [results, h]
  simp [Sem.run_bind, Result.andThen, hp', ha, load_node hb]

set_option maxRecDepth 100000 in
set_option maxHeartbeats 1600000 in
theorem index_any (nx : Int) (v : Value) (L : List ND) (t : Int) (w : World) (h : NRow w v L) (hr : Rise L) (hl : L.length ≤ 1000000) :
    Calls Try.prog 45 #[treeV nx v, .int .i64 t] w fun e w' => Found L t w e w' := by
  have hB0 : Below w.heap.size w (w.alloc (.cells #[.int .i64 nx, v] 26)) := (Below.refl _ w).alloc (Nat.le_refl _) _
  have hS := Lib.hid (Search_any v L t _ (h.below hB0) hr hl)
  have HB0 := Lib.hid hB0
  unfold treeV
  obtain ⟨q, cap, rfl, hc, hm, _⟩ := h
  clear hr hB0
  go_enter Try.func45, Try.ntmps45
  go_wp2_with fail
  refine hS.out.mono ?_
  rintro e w' ⟨⟨k, rfl, hk⟩, hB⟩
  have HB := Lib.hid (below1 hB)
  have HK := Lib.hid hk
  clear hk hB
  go_wp2
  go_ret2
  exact ⟨⟨k, rfl, HK.out⟩, HB.out⟩

theorem zeroN_eq (W : World) : W.alloc (.cells #[.int .i64 0, .int .i64 0, .int .i64 0, .string ⟨#[]⟩, .int .i64 0, .string ⟨#[]⟩, .string ⟨#[]⟩, .string ⟨#[]⟩, .int .i64 0, .int .i64 0, .string ⟨#[]⟩] 31) = W.alloc (.cells (cellsA noN) 31) := rfl
/-- A tree is boxed, a node is made. -/
theorem start_tn (w : World) (nx : Int) (v : Value) : ∃ W, (w.alloc (.cells #[.int .i64 nx, v] 26)).alloc (.cells (cellsA noN) 31) = W ∧ Below w.heap.size w W ∧ W.heap.size = w.heap.size + 2 ∧ BlkT W w.heap.size nx v ∧ BlkN W (w.heap.size + 1) noN := by
  refine ⟨_, rfl, ((Below.refl _ w).alloc (Nat.le_refl _) _).alloc (by simp) _, by simp, (BlkT.new w nx v).alloc _, ?_⟩
  have h := BlkN.new (w.alloc (.cells #[.int .i64 nx, v] 26)) noN
  rwa [show (w.alloc (.cells #[.int .i64 nx, v] 26)).heap.size = w.heap.size + 1 by simp] at h

set_option maxRecDepth 100000 in
set_option maxHeartbeats 3200000 in
theorem Node_any (nx : Int) (v : Value) (L : List ND) (t : Int) (w : World) (h : NRow w v L) (hr : Rise L) (hl : L.length ≤ 1000000) :
    Calls Try.prog 18 #[treeV nx v, .int .i64 t] w fun e w' => e = .returned (.tuple #[nodeV (nodeN L t), .bool (hasN L t)]) ∧ Below w.heap.size w w' := by
  have hz := Lib.hid zeroN_eq
  obtain ⟨W, hW, hB0, hs0, hT0, hN0⟩ := start_tn w nx v
  have hI := Lib.hid (index_any nx v L t W (h.below hB0) hr hl)
  have HU := Lib.hid h
  have hn1 := fun hh => nodeN_no (L := L) (id := t) hh
  have hn2 := fun hh => hasN_true (L := L) (id := t) hh
  have hn3 : Hid (nodeN L t = getN L (posN L t)) := rfl
  generalize nodeN L t = n at hn1 hn3 ⊢
  unfold treeV at hI ⊢
  replace hW := Lib.hid hW
  have HB0 := Lib.hid hB0
  have hs := Lib.hid hs0
  have HT := Lib.hid hT0
  have HN := Lib.hid hN0
  obtain ⟨q, cap, rfl, hc, hm, _⟩ := h
  unfold maxLen at hm
  clear hr hB0 hs0 hT0 hN0
  cases hh : hasN L t
  · have hnn := Lib.hid (hn1 hh)
    unfold Found at hI
    rw [hh] at hI
    replace hI := Lib.hid hI.out
    clear hn1 hn2 hn3 hh
    go_enter Try.func18, Try.ntmps18
    go_wp2_with fail
    simp only [hz.out, hW.out]
    refine hI.out.mono ?_
    rintro e w2 ⟨⟨k, rfl, _⟩, hB⟩
    have HB2 := Lib.hid (HB0.out.trans (hB.mono (by rw [hs.out]; omega)))
    have HN2 := Lib.hid (HN.out.below hB (by rw [hs.out]; omega))
    clear hB
    go_wp2_with (refine wpList_store_row rfl 31 _ _ rfl (w.heap.size + 1) (cellsA noN) rfl rfl 31 (cellsA noN) HN2.out (by kernel_rfl) rfl (cellsA_one noN) ?_)
    refine bodyPost_ret (results_node rfl rfl (HN2.out.setRow noN)) rfl ?_
    rw [hnn.out]
    exact ⟨rfl, below_setRow HB2.out (Nat.le_succ _) _⟩
  · have hlt := hn2 hh
    unfold Found at hI
    rw [hh] at hI
    replace hI := Lib.hid hI.out
    obtain ⟨b, o, cap', hv, hb, hcl, _, hrr⟩ := HU.out.form (by omega)
    obtain ⟨rfl, rfl⟩ : q = some ⟨b, o, none⟩ ∧ cap = cap' := by injection hv with h1 h2 h3; exact ⟨h1, h3⟩
    have hrg := fun W hB => hrr W hB (posN L t) hlt
    rw [← hn3.out] at hrg
    replace hrg := Lib.hid hrg
    have k0 : (0 : Int) ≤ (posN L t : Int) := by omega
    have k1 : (posN L t : Int) < (L.length : Int) := by omega
    clear hn1 hn2 hn3 hh hlt hv hb hrr
    go_enter Try.func18, Try.ntmps18
    go_wp2_with fail
    simp only [hz.out, hW.out]
    refine hI.out.mono ?_
    rintro e w2 ⟨⟨k, rfl, hk⟩, hB⟩
    obtain rfl := hk (by trivial)
    have HB2 := Lib.hid (HB0.out.trans (hB.mono (by rw [hs.out]; omega)))
    have HN2 := Lib.hid (HN.out.below hB (by rw [hs.out]; omega))
    have HT2 := HT.out.below hB (by rw [hs.out]; omega)
    have c1 := HT2.c1
    replace hrg := Lib.hid (hrg.out _ HB2.out)
    clear hB hk HT2
    go_wp2_with (first
      | (refine wpList_load_mid rfl 31 _ rfl b (o + posN L t * 11) rfl (cellsN n) _ hrg.out Try.underlying31 rfl (by kernel_rfl) ?_)
      | (refine wpList_store_row rfl 31 _ _ rfl (w.heap.size + 1) (cellsA n) rfl rfl 31 (cellsA noN) HN2.out (by kernel_rfl) rfl (cellsA_one n) ?_))
    refine bodyPost_ret (results_node rfl rfl (HN2.out.setRow n)) rfl ?_
    exact ⟨rfl, below_setRow HB2.out (Nat.le_succ _) _⟩
end Go.Proofs.Ytalhkoolpnmcdaa
