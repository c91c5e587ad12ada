/-
  Walks: child, Find.
-/
import Derived.Test.YtalhkoolpnmcdaaAk
namespace Go.Proofs.Ytalhkoolpnmcdaa
open Go.RowKit

theorem size3 (w : World) (a b c : Obj) : (((w.alloc a).alloc b).alloc c).heap.size = w.heap.size + 3 := by simp
/-- A tree, an int and a string are boxed. -/
theorem start_tis (w : World) (nx : Int) (v : Value) (d : Int) (x : List UInt8) : ∃ W, ((w.alloc (.cells #[.int .i64 nx, v] 26)).alloc (.cells #[.int .i64 d] 3)).alloc (.cells #[.string (mk x)] 9) = W ∧
    Below w.heap.size w W ∧ W.heap.size = w.heap.size + 3 ∧ BlkT W w.heap.size nx v ∧ BlkI W (w.heap.size + 1) d ∧ BlkS W (w.heap.size + 2) x := by
  refine ⟨_, rfl, (((Below.refl _ w).alloc (Nat.le_refl _) _).alloc (by simp) _).alloc (by simp; omega) _, size3 _ _ _ _, ((BlkT.new w nx v).alloc _).alloc _, ?_, ?_⟩
  · have h : BlkI ((w.alloc (.cells #[.int .i64 nx, v] 26)).alloc (.cells #[.int .i64 d] 3)) (w.heap.size + 1) d := by
      have h := heap_alloc_new (w.alloc (.cells #[.int .i64 nx, v] 26)) (.cells #[.int .i64 d] 3)
      rw [show (w.alloc (.cells #[.int .i64 nx, v] 26)).heap.size = w.heap.size + 1 by simp] at h
      exact ⟨Joins.cell_of_block h 0, by simp⟩
    exact h.below ((Below.refl _ _).alloc (Nat.le_refl _) _)
  · have h := heap_alloc_new ((w.alloc (.cells #[.int .i64 nx, v] 26)).alloc (.cells #[.int .i64 d] 3)) (.cells #[.string (mk x)] 9)
    rw [show ((w.alloc (.cells #[.int .i64 nx, v] 26)).alloc (.cells #[.int .i64 d] 3)).heap.size = w.heap.size + 2 by simp] at h
    exact ⟨Joins.cell_of_block h 0, by simp⟩

def childT (L : List ND) (d : Int) (x : List UInt8) : Int := if hasC L d x = true then (getN L (posC L d x)).id else 0

set_option maxRecDepth 100000 in
set_option maxHeartbeats 3200000 in
theorem child_any (nx : Int) (v : Value) (L : List ND) (d : Int) (x : List UInt8) (w : World) (h : NRow w v L) (hl : L.length ≤ 1000000) :
    Calls Try.prog 48 #[treeV nx v, .int .i64 d, .string (mk x)] w fun e w' => e = .returned (.tuple #[.int .i64 (childT L d x), .bool (hasC L d x)]) ∧ Below w.heap.size w w' := by
  obtain ⟨W, hW, hB0, hs0, hT0, hI0, hS0⟩ := start_tis w nx v d x
  have eg : ∀ args w, (callFunc 81 args).run Try.prog w = .ok (.enter 81 args) w := enters_of Try.func81 (by kernel_rfl) rfl
  have hA : Asks 81 #[.pointer (some ⟨w.heap.size + 2, 0, none⟩), .pointer (some ⟨w.heap.size + 1, 0, none⟩)] (namedB d x) W :=
    fun W' n hB => child1_any n x d _ _ W' (hS0.below hB) (hI0.below hB)
  have hF := Lib.hid (IndexFunc_any _ _ _ eg v L W (h.below hB0) hA)
  have HU := Lib.hid h
  have hfx : idxI L (namedB d x) = if posC L d x < L.length then (posC L d x : Int) else -1 := rfl
  have hres : childT L d x = if hasC L d x = true then (getN L (posC L d x)).id else 0 := rfl
  have hhc : hasC L d x = decide (posC L d x < L.length) := rfl
  generalize childT L d x = r at hres ⊢
  replace hW := Lib.hid hW
  have HB0 := Lib.hid hB0
  have hs := Lib.hid hs0
  have HT := Lib.hid hT0
  unfold treeV
  obtain ⟨q, cap, rfl, hc, hm, _⟩ := h
  unfold maxLen at hm
  clear eg hA hB0 hs0 hT0 hI0 hS0
  generalize posC L d x = k at *
  generalize hasC L d x = hb at *
  by_cases hlt : k < L.length
  · rw [decide_eq_true hlt] at hhc
    subst hhc
    rw [if_pos rfl] at hres
    rw [if_pos hlt] at hfx
    rw [hfx] at hF
    obtain ⟨b, o, cap', hv, hb, hcl, _, hrr⟩ := HU.out.form (by omega)
    obtain ⟨rfl, rfl⟩ : q = some ⟨b, o, none⟩ ∧ cap = cap' := by injection hv with h1 h2 h3; exact ⟨h1, h3⟩
    have hrg := Lib.hid (fun W hB => (cells11 (hrr W hB k hlt)).1)
    have k0 : (0 : Int) ≤ (k : Int) := by omega
    have k1 : (k : Int) < (L.length : Int) := by omega
    replace hres := Lib.hid hres
    replace hF := Lib.hid hF.out
    clear hv hb hrr hfx hlt
    go_enter Try.func48, Try.ntmps48
    go_wp2_with fail
    simp only [hW.out]
    refine hF.out.mono ?_
    rintro e w2 ⟨rfl, hB⟩
    have HB2 := Lib.hid (HB0.out.trans (hB.mono (by rw [hs.out]; omega)))
    have c1 := (HT.out.below hB (by rw [hs.out]; omega)).c1
    have c2 := hrg.out _ HB2.out
    clear hB
    go_wp2
    go_ret2
    rw [hres.out]
    exact ⟨rfl, HB2.out⟩
  · rw [decide_eq_false hlt] at hhc
    subst hhc
    rw [if_neg (by simp)] at hres
    rw [if_neg hlt] at hfx
    rw [hfx] at hF
    replace hres := Lib.hid hres
    replace hF := Lib.hid hF.out
    clear hfx hlt
    go_enter Try.func48, Try.ntmps48
    go_wp2_with fail
    simp only [hW.out]
    refine hF.out.mono ?_
    rintro e w2 ⟨rfl, hB⟩
    have HB2 := Lib.hid (HB0.out.trans (hB.mono (by rw [hs.out]; omega)))
    clear hB
    go_wp2
    go_ret2
    rw [hres.out]
    exact ⟨rfl, HB2.out⟩
end Go.Proofs.Ytalhkoolpnmcdaa
