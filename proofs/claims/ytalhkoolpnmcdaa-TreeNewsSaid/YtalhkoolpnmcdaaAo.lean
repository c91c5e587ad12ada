/-
  Walks: copied.
-/
import Derived.Test.YtalhkoolpnmcdaaAn
namespace Go.Proofs.Ytalhkoolpnmcdaa
open Go.RowKit

theorem treeA_one (nx : Int) (p : Option Addr) (n c : Nat) : (#[.int .i64 nx, .slice p n c] : Array Value).all (·.oneCell') = true := by simp [Value.oneCell']
theorem zeroT_eq (W : World) : W.alloc (.cells #[.int .i64 0, .slice none 0 0] 26) = W.alloc (.cells #[.int .i64 0, .slice none 0 0] 26) := rfl
/-- A tree is boxed, a tree is made. -/
theorem start_tt (w : World) (nx : Int) (v : Value) : ∃ W, (w.alloc (.cells #[.int .i64 nx, v] 26)).alloc (.cells #[.int .i64 0, .slice none 0 0] 26) = W ∧ Below w.heap.size w W ∧ W.heap.size = w.heap.size + 2 ∧ BlkT W w.heap.size nx v ∧ BlkT W (w.heap.size + 1) 0 (.slice none 0 0) := by
  refine ⟨_, rfl, ((Below.refl _ w).alloc (Nat.le_refl _) _).alloc (by simp) _, by simp, (BlkT.new w nx v).alloc _, ?_⟩
  have h := BlkT.new (w.alloc (.cells #[.int .i64 nx, v] 26)) 0 (.slice none 0 0)
  rwa [show (w.alloc (.cells #[.int .i64 nx, v] 26)).heap.size = w.heap.size + 1 by simp] at h

/-- The result is a tree with a row of the call's own. -/
def GivesT (nx : Int) (L : List ND) (w : World) (e : Ending) (w' : World) : Prop := ∃ v', e = .returned (treeV nx v') ∧ NOwn w.heap.size w' v' L ∧ Below w.heap.size w w'

theorem own_setRow {w : World} {B : Nat} {v : Value} {acc : List ND} (h : NOwn B w v acc) {k : Nat} (hk : v.ownBlock ≠ some k) (cs : Array Value) : NOwn B (w.setRow k cs) v acc :=
  World.ownsRow.kept (row := some k) h ⟨rfl, rfl, rfl, by simp, fun i _ hi => setRow_other w k i cs (fun e => hi (by rw [e]))⟩ (.inr hk)

theorem below_none {w w' : World} (h : w.grownBy w' none) : Below w.heap.size w w' := ⟨h.os, h.tape, h.output, h.size, fun k hk => h.block k hk (by simp)⟩
/-- Behind make: what is known, and what copy will do. -/
theorem copied_mid {w W w1 : World} {nx : Int} {L : List ND} {b o cap : Nat} {xs : List Value} (hB0 : Below w.heap.size w W) (hs : W.heap.size = w.heap.size + 2) (hT : BlkT W w.heap.size nx (.slice (some ⟨b, o, none⟩) L.length cap)) (hU : BlkT W (w.heap.size + 1) 0 (.slice none 0 0))
    (hown : w1.ownsRow w.heap.size 31 11 (.slice (some ⟨W.heap.size, 0, none⟩) L.length L.length) L.length xs) (hg : W.grownBy w1 none) (hb : b < w.heap.size)
    (hr : ∀ wr, Below w.heap.size w wr → ∀ k, k < L.length → wr.rangeAt b (o + k * 11) (cellsN (getN L k))) :
    ∃ X, Hid (Below w.heap.size w X) ∧ Hid (BlkT X w.heap.size nx (.slice (some ⟨b, o, none⟩) L.length cap)) ∧ Hid (BlkT X (w.heap.size + 1) 0 (.slice none 0 0)) ∧
    (w1.cell? ⟨w.heap.size, 1, none⟩ = some (.slice (some ⟨b, o, none⟩) L.length cap) ∧ X.cell? ⟨w.heap.size, 0, none⟩ = some (.int .i64 nx)) ∧
    Hid (NOwn w.heap.size X (.slice (some ⟨W.heap.size, 0, none⟩) L.length L.length) L) ∧
    ∀ ty, (Builtin.copy_ #[24, 24] ty #[.slice (some ⟨W.heap.size, 0, none⟩) L.length L.length, .slice (some ⟨b, o, none⟩) L.length cap]).run Try.prog w1 = .ok (goInt L.length) X := by
  have hbn := below_none hg
  have hB1 : Below w.heap.size w w1 := hB0.trans (hbn.mono (by omega))
  have hT1 := hT.below hbn (by omega)
  have hU1 := hU.below hbn (by omega)
  have e1 : ∀ k, k ≠ W.heap.size → (w1.setCells W.heap.size 0 (flatN L)).heap[k]? = w1.heap[k]? := fun k hk => setCells_heap _ _ _ _ k hk
  have hT2 : BlkT (w1.setCells W.heap.size 0 (flatN L)) w.heap.size nx (.slice (some ⟨b, o, none⟩) L.length cap) := (e1 _ (by omega)).trans hT1
  refine ⟨_, below_setCells hB1 (by omega) _ _, hT2, (e1 _ (by omega)).trans hU1, ⟨hT1.c1, hT2.c0⟩, NOwn.filled hown, fun ty => ?_⟩
  refine run_copyN ty W.heap.size 0 L.length L.length ⟨b, o, none⟩ cap (flatN L) (flatN_len L) (NRow.flat (cap := cap) (hr w1 hB1)) ?_ ?_ (flatN_one L)
  · intro j hj
    rw [flatN_len] at hj
    rw [Nat.zero_add, hown.cellAt j hj, List.getElem?_eq_getElem (by rw [hown.1]; exact hj)]
    rfl
  · intro j hj
    exact hown.frozenAt _

set_option maxRecDepth 100000 in
set_option maxHeartbeats 6400000 in
theorem copied_any (nx : Int) (v : Value) (L : List ND) (w : World) (h : NRow w v L) (h0 : 0 < L.length) (hl : L.length ≤ 1000000) :
    Calls Try.prog 66 #[treeV nx v] w fun e w' => GivesT nx L w e w' := by
  obtain ⟨i0, hi, hz0, hz1, hz2⟩ := info_parts info_node
  obtain ⟨W, hW, hB0, hs0, hT0, hU0⟩ := start_tt w nx v
  obtain ⟨b, o, cap, rfl, hb, hcl, hcm, hr⟩ := h.form h0
  replace hW := Lib.hid hW
  have HB0 := Lib.hid hB0
  have hs := Lib.hid hs0
  have HT := Lib.hid hT0
  have HUt := Lib.hid hU0
  have c1 := hT0.c1
  have HR := Lib.hid hr
  unfold treeV
  clear hB0 hs0 hT0 hU0 hr h
  go_enter Try.func66, Try.ntmps66
  go_wp2_with (first
    | (at_make; simp only [hW.out]; refine wpList_make_full _ rfl (.tmp 6) (.tmp 6) 24 rfl w.heap.size 31 i0 _ 11 Try.underlying24 hi hz0 hz1 _ _ _ _ L.length rfl rfl rfl rfl (by rw [hz2]; omega) (by unfold maxLen; omega) HB0.out.size ?_; intro w1 hown1 hgrow1; obtain ⟨X, HB1, HT1, HU1, ⟨c1', c2'⟩, HO1, hrun⟩ := copied_mid HB0.out hs.out HT.out HUt.out hown1 hgrow1 hb HR.out; clear hown1 hgrow1)
    | (refine Lib.wpList_copy_run _ rfl (.tmp 8) (.tmp 10) 24 24 rfl _ _ rfl rfl (hrun _) ?_)
    | (refine wpList_store_row rfl 26 _ _ rfl (w.heap.size + 1) #[.int .i64 nx, .slice (some ⟨W.heap.size, 0, none⟩) L.length L.length] rfl rfl 26 #[.int .i64 0, .slice none 0 0] HU1.out (by kernel_rfl) rfl (treeA_one _ _ _ _) ?_))
  refine bodyPost_ret (results_tree (b := w.heap.size + 1) (nx := nx) (v := .slice (some ⟨W.heap.size, 0, none⟩) L.length L.length) rfl rfl (setRow_heap _ _ _ _ _ _ HU1.out)) rfl ?_
  exact ⟨_, rfl, own_setRow (k := w.heap.size + 1) HO1.out (by rw [hs.out]; simp [Value.ownBlock]) _, below_setRow (g := w.heap.size + 1) HB1.out (Nat.le_succ _) _⟩
end Go.Proofs.Ytalhkoolpnmcdaa
