/-
  Walks: directory, file, belowRoot.
-/
import Derived.Test.YtalhkoolpnmcdaaAi
import Derived.Deep.WholeRow
namespace Go.Proofs.Ytalhkoolpnmcdaa
open Go.RowKit

def dirT (L : List ND) (t : Int) : ND × Int := if hasN L t = false then (noN, 8) else if dirB (nodeN L t).mo = false then (noN, 9) else (nodeN L t, 0)
def fileT (L : List ND) (t : Int) : ND × Int := if hasN L t = false then (noN, 8) else if dirB (nodeN L t).mo = true then (noN, 10) else (nodeN L t, 0)
def lowT (L : List ND) (t : Int) : ND × Int := if hasN L t = false then (noN, 8) else if t = 1 then (noN, 1) else (nodeN L t, 0)
theorem Vld.dbit {nx : Int} {L : List ND} (h : Vld nx L) {n : ND} (hn : n ∈ L) : dbit n.mo = dirB n.mo := dbit_dir (fieldsB_iff.1 (h.fld n hn)).1

/-- Behind the call of Node: the node found is laid into a block. -/
theorem lay_node {w w2 : World} {n : ND} (hB : Below w.heap.size w w2) (hs : w.heap.size + 2 ≤ w2.heap.size) (hN : BlkN w2 (w.heap.size + 1) noN) :
    ∃ W3, w2.alloc (.cells (cellsA n) 31) = W3 ∧ Below w.heap.size w W3 ∧ BlkN W3 (w.heap.size + 1) noN ∧ BlkN W3 w2.heap.size n :=
  ⟨_, rfl, hB.alloc (by omega) _, hN.alloc _, BlkN.new w2 n⟩

set_option maxRecDepth 100000 in
set_option maxHeartbeats 6400000 in
theorem directory_any (nx : Int) (v : Value) (L : List ND) (t : Int) (w : World) (h : NRow w v L) (hV : Vld nx L) :
    Calls Try.prog 47 #[treeV nx v, .int .i64 t] w fun e w' => e = .returned (.tuple #[nodeV (dirT L t).1, .int .i64 (dirT L t).2]) ∧ Below w.heap.size w w' := by
  have hz := Lib.hid zeroN_eq
  obtain ⟨W, hW, hB0, hs0, hT0, hN0⟩ := start_tn w nx v
  have hI := Lib.hid (Node_any nx v L t W (h.below hB0) hV.rise (by have := hV.len; omega))
  have hD := Lib.hid (fun W => isDir_any (nodeN L t).mo W)
  have hdb := fun hh => hV.dbit (nodeN_mem (L := L) (id := t) hh)
  have hres : (dirT L t) = if hasN L t = false then (noN, 8) else if dirB (nodeN L t).mo = false then (noN, 9) else (nodeN L t, 0) := rfl
  generalize dirT L t = res at hres ⊢
  generalize nodeN L t = n at *
  replace hW := Lib.hid hW
  have HB0 := Lib.hid hB0
  have hs := Lib.hid hs0
  have HT := Lib.hid hT0
  have HN := Lib.hid hN0
  obtain ⟨q, cap, rfl, hc, hm, _⟩ := h
  unfold treeV nodeV at hI
  unfold treeV
  clear hV hB0 hs0 hT0 hN0 hc hm
  cases hh : hasN L t
  · rw [hh, if_pos rfl] at hres
    rw [hh] at hI
    subst hres
    clear hh hdb hD
    go_enter Try.func47, Try.ntmps47
    go_wp2_with ((first | simp only [hz.out, hW.out] | skip); refine wpList_load_row rfl 26 _ rfl w.heap.size rfl 26 #[.int .i64 nx, .slice q L.length cap] (0, 0) _ HT.out Try.underlying26 rfl (by kernel_rfl) ?_)
    refine hI.out.mono ?_
    rintro e w2 ⟨rfl, hB⟩
    have HB2 := Lib.hid (HB0.out.trans (hB.mono (by rw [hs.out]; omega)))
    have HN2 := Lib.hid (HN.out.below hB (by rw [hs.out]; omega))
    obtain ⟨W3, hW3, hB3, hN3, hM3⟩ := lay_node (n := n) HB2.out (by have := hB.size; rw [hs.out] at this; exact this) HN2.out
    replace hW3 := Lib.hid hW3
    replace hB3 := Lib.hid hB3
    replace hN3 := Lib.hid hN3
    clear hB hM3
    go_wp2_with (first
      | (refine wpList_store_row rfl 31 _ _ rfl w2.heap.size (cellsA n) rfl rfl 31 (cellsA noN) (heap_alloc_new w2 _) (by kernel_rfl) rfl (cellsA_one n) ?_; rw [World.setRow_alloc_new, hW3.out])
      | (refine wpList_store_row rfl 31 _ _ rfl (w.heap.size + 1) (cellsA noN) rfl rfl 31 (cellsA noN) hN3.out (by kernel_rfl) rfl (cellsA_one noN) ?_))
    refine bodyPost_ret (results_node rfl rfl (hN3.out.setRow noN)) rfl ?_
    exact ⟨rfl, below_setRow hB3.out (Nat.le_succ _) _⟩
  · rw [hh, if_neg (by simp)] at hres
    rw [hh] at hI
    have hdd := hdb hh
    rw [← hdd] at hres
    clear hh hdb hdd
    generalize dbit n.mo = bd at hres hD
    go_enter Try.func47, Try.ntmps47
    go_wp2_with ((first | simp only [hz.out, hW.out] | skip); refine wpList_load_row rfl 26 _ rfl w.heap.size rfl 26 #[.int .i64 nx, .slice q L.length cap] (0, 0) _ HT.out Try.underlying26 rfl (by kernel_rfl) ?_)
    refine hI.out.mono ?_
    rintro e w2 ⟨rfl, hB⟩
    have HB2 := Lib.hid (HB0.out.trans (hB.mono (by rw [hs.out]; omega)))
    have HN2 := Lib.hid (HN.out.below hB (by rw [hs.out]; omega))
    obtain ⟨W3, hW3, hB3, hN3, hM3⟩ := lay_node (n := n) HB2.out (by have := hB.size; rw [hs.out] at this; exact this) HN2.out
    have c4 : W3.cell? ⟨w2.heap.size, 4, none⟩ = some (.int .i64 n.mo) := hM3.cell 4
    replace hW3 := Lib.hid hW3
    replace hB3 := Lib.hid hB3
    replace hN3 := Lib.hid hN3
    replace hM3 := Lib.hid hM3
    clear hB
    cases bd
    all_goals
      replace hres := Lib.hid hres
      go_wp2_with (first
        | (refine wpList_store_row rfl 31 _ _ rfl w2.heap.size (cellsA n) rfl rfl 31 (cellsA noN) (heap_alloc_new w2 _) (by kernel_rfl) rfl (cellsA_one n) ?_; rw [World.setRow_alloc_new, hW3.out])
        | (refine wpList_store_row rfl 31 _ _ rfl (w.heap.size + 1) (cellsA noN) rfl rfl 31 (cellsA noN) hN3.out (by kernel_rfl) rfl (cellsA_one noN) ?_)
        | (refine wpList_store_row rfl 31 _ _ rfl (w.heap.size + 1) (cellsA n) rfl rfl 31 (cellsA noN) hN3.out (by kernel_rfl) rfl (cellsA_one n) ?_)
        | (refine wpList_load_row rfl 31 _ rfl w2.heap.size rfl 31 (cellsA n) (0, 0) _ hM3.out Try.underlying31 rfl (by kernel_rfl) ?_)
        | (go_at_call 41; refine (hD.out _).mono ?_; rintro e w' ⟨rfl, rfl⟩))
      first
        | (refine bodyPost_ret (results_node rfl rfl (hN3.out.setRow noN)) rfl ?_
           rw [hres.out]
           exact ⟨rfl, below_setRow hB3.out (Nat.le_succ _) _⟩)
        | (refine bodyPost_ret (results_node rfl rfl (hN3.out.setRow n)) rfl ?_
           rw [hres.out]
           exact ⟨rfl, below_setRow hB3.out (Nat.le_succ _) _⟩)
set_option maxRecDepth 100000 in
set_option maxHeartbeats 6400000 in
theorem file_any (nx : Int) (v : Value) (L : List ND) (t : Int) (w : World) (h : NRow w v L) (hV : Vld nx L) :
    Calls Try.prog 63 #[treeV nx v, .int .i64 t] w fun e w' => e = .returned (.tuple #[nodeV (fileT L t).1, .int .i64 (fileT L t).2]) ∧ Below w.heap.size w w' := by
  have hz := Lib.hid zeroN_eq
  obtain ⟨W, hW, hB0, hs0, hT0, hN0⟩ := start_tn w nx v
  have hI := Lib.hid (Node_any nx v L t W (h.below hB0) hV.rise (by have := hV.len; omega))
  have hD := Lib.hid (fun W => isDir_any (nodeN L t).mo W)
  have hdb := fun hh => hV.dbit (nodeN_mem (L := L) (id := t) hh)
  have hres : (fileT L t) = if hasN L t = false then (noN, 8) else if dirB (nodeN L t).mo = true then (noN, 10) else (nodeN L t, 0) := rfl
  generalize fileT L t = res at hres ⊢
  generalize nodeN L t = n at *
  replace hW := Lib.hid hW
  have HB0 := Lib.hid hB0
  have hs := Lib.hid hs0
  have HT := Lib.hid hT0
  have HN := Lib.hid hN0
  obtain ⟨q, cap, rfl, hc, hm, _⟩ := h
  unfold treeV nodeV at hI
  unfold treeV
  clear hV hB0 hs0 hT0 hN0 hc hm
  cases hh : hasN L t
  · rw [hh, if_pos rfl] at hres
    rw [hh] at hI
    subst hres
    clear hh hdb hD
    go_enter Try.func63, Try.ntmps63
    go_wp2_with ((first | simp only [hz.out, hW.out] | skip); refine wpList_load_row rfl 26 _ rfl w.heap.size rfl 26 #[.int .i64 nx, .slice q L.length cap] (0, 0) _ HT.out Try.underlying26 rfl (by kernel_rfl) ?_)
    refine hI.out.mono ?_
    rintro e w2 ⟨rfl, hB⟩
    have HB2 := Lib.hid (HB0.out.trans (hB.mono (by rw [hs.out]; omega)))
    have HN2 := Lib.hid (HN.out.below hB (by rw [hs.out]; omega))
    obtain ⟨W3, hW3, hB3, hN3, hM3⟩ := lay_node (n := n) HB2.out (by have := hB.size; rw [hs.out] at this; exact this) HN2.out
    replace hW3 := Lib.hid hW3
    replace hB3 := Lib.hid hB3
    replace hN3 := Lib.hid hN3
    clear hB hM3
    go_wp2_with (first
      | (refine wpList_store_row rfl 31 _ _ rfl w2.heap.size (cellsA n) rfl rfl 31 (cellsA noN) (heap_alloc_new w2 _) (by kernel_rfl) rfl (cellsA_one n) ?_; rw [World.setRow_alloc_new, hW3.out])
      | (refine wpList_store_row rfl 31 _ _ rfl (w.heap.size + 1) (cellsA noN) rfl rfl 31 (cellsA noN) hN3.out (by kernel_rfl) rfl (cellsA_one noN) ?_))
    refine bodyPost_ret (results_node rfl rfl (hN3.out.setRow noN)) rfl ?_
    exact ⟨rfl, below_setRow hB3.out (Nat.le_succ _) _⟩
  · rw [hh, if_neg (by simp)] at hres
    rw [hh] at hI
    have hdd := hdb hh
    rw [← hdd] at hres
    clear hh hdb hdd
    generalize dbit n.mo = bd at hres hD
    go_enter Try.func63, Try.ntmps63
    go_wp2_with ((first | simp only [hz.out, hW.out] | skip); refine wpList_load_row rfl 26 _ rfl w.heap.size rfl 26 #[.int .i64 nx, .slice q L.length cap] (0, 0) _ HT.out Try.underlying26 rfl (by kernel_rfl) ?_)
    refine hI.out.mono ?_
    rintro e w2 ⟨rfl, hB⟩
    have HB2 := Lib.hid (HB0.out.trans (hB.mono (by rw [hs.out]; omega)))
    have HN2 := Lib.hid (HN.out.below hB (by rw [hs.out]; omega))
    obtain ⟨W3, hW3, hB3, hN3, hM3⟩ := lay_node (n := n) HB2.out (by have := hB.size; rw [hs.out] at this; exact this) HN2.out
    have c4 : W3.cell? ⟨w2.heap.size, 4, none⟩ = some (.int .i64 n.mo) := hM3.cell 4
    replace hW3 := Lib.hid hW3
    replace hB3 := Lib.hid hB3
    replace hN3 := Lib.hid hN3
    replace hM3 := Lib.hid hM3
    clear hB
    cases bd
    all_goals
      replace hres := Lib.hid hres
      go_wp2_with (first
        | (refine wpList_store_row rfl 31 _ _ rfl w2.heap.size (cellsA n) rfl rfl 31 (cellsA noN) (heap_alloc_new w2 _) (by kernel_rfl) rfl (cellsA_one n) ?_; rw [World.setRow_alloc_new, hW3.out])
        | (refine wpList_store_row rfl 31 _ _ rfl (w.heap.size + 1) (cellsA noN) rfl rfl 31 (cellsA noN) hN3.out (by kernel_rfl) rfl (cellsA_one noN) ?_)
        | (refine wpList_store_row rfl 31 _ _ rfl (w.heap.size + 1) (cellsA n) rfl rfl 31 (cellsA noN) hN3.out (by kernel_rfl) rfl (cellsA_one n) ?_)
        | (refine wpList_load_row rfl 31 _ rfl w2.heap.size rfl 31 (cellsA n) (0, 0) _ hM3.out Try.underlying31 rfl (by kernel_rfl) ?_)
        | (go_at_call 41; refine (hD.out _).mono ?_; rintro e w' ⟨rfl, rfl⟩))
      first
        | (refine bodyPost_ret (results_node rfl rfl (hN3.out.setRow noN)) rfl ?_
           rw [hres.out]
           exact ⟨rfl, below_setRow hB3.out (Nat.le_succ _) _⟩)
        | (refine bodyPost_ret (results_node rfl rfl (hN3.out.setRow n)) rfl ?_
           rw [hres.out]
           exact ⟨rfl, below_setRow hB3.out (Nat.le_succ _) _⟩)
set_option maxRecDepth 100000 in
set_option maxHeartbeats 6400000 in
theorem belowRoot_any (nx : Int) (v : Value) (L : List ND) (t : Int) (w : World) (h : NRow w v L) (hV : Vld nx L) :
    Calls Try.prog 86 #[treeV nx v, .int .i64 t] w fun e w' => e = .returned (.tuple #[nodeV (lowT L t).1, .int .i64 (lowT L t).2]) ∧ Below w.heap.size w w' := by
  have hz := Lib.hid zeroN_eq
  obtain ⟨W, hW, hB0, hs0, hT0, hN0⟩ := start_tn w nx v
  have hI := Lib.hid (Node_any nx v L t W (h.below hB0) hV.rise (by have := hV.len; omega))
  have hres : (lowT L t) = if hasN L t = false then (noN, 8) else if t = 1 then (noN, 1) else (nodeN L t, 0) := rfl
  generalize lowT L t = res at hres ⊢
  generalize nodeN L t = n at *
  replace hW := Lib.hid hW
  have HB0 := Lib.hid hB0
  have hs := Lib.hid hs0
  have HT := Lib.hid hT0
  have HN := Lib.hid hN0
  obtain ⟨q, cap, rfl, hc, hm, _⟩ := h
  unfold treeV nodeV at hI
  unfold treeV
  clear hV hB0 hs0 hT0 hN0 hc hm
  cases hh : hasN L t
  · rw [hh, if_pos rfl] at hres
    rw [hh] at hI
    subst hres
    clear hh
    go_enter Try.func86, Try.ntmps86
    go_wp2_with ((first | simp only [hz.out, hW.out] | skip); refine wpList_load_row rfl 26 _ rfl w.heap.size rfl 26 #[.int .i64 nx, .slice q L.length cap] (0, 0) _ HT.out Try.underlying26 rfl (by kernel_rfl) ?_)
    refine hI.out.mono ?_
    rintro e w2 ⟨rfl, hB⟩
    have HB2 := Lib.hid (HB0.out.trans (hB.mono (by rw [hs.out]; omega)))
    have HN2 := Lib.hid (HN.out.below hB (by rw [hs.out]; omega))
    obtain ⟨W3, hW3, hB3, hN3, hM3⟩ := lay_node (n := n) HB2.out (by have := hB.size; rw [hs.out] at this; exact this) HN2.out
    replace hW3 := Lib.hid hW3
    replace hB3 := Lib.hid hB3
    replace hN3 := Lib.hid hN3
    clear hB hM3
    go_wp2_with (first
      | (refine wpList_store_row rfl 31 _ _ rfl w2.heap.size (cellsA n) rfl rfl 31 (cellsA noN) (heap_alloc_new w2 _) (by kernel_rfl) rfl (cellsA_one n) ?_; rw [World.setRow_alloc_new, hW3.out])
      | (refine wpList_store_row rfl 31 _ _ rfl (w.heap.size + 1) (cellsA noN) rfl rfl 31 (cellsA noN) hN3.out (by kernel_rfl) rfl (cellsA_one noN) ?_))
    refine bodyPost_ret (results_node rfl rfl (hN3.out.setRow noN)) rfl ?_
    exact ⟨rfl, below_setRow hB3.out (Nat.le_succ _) _⟩
  · rw [hh, if_neg (by simp)] at hres
    rw [hh] at hI
    clear hh
    by_cases ht : t = 1
    all_goals
      first
        | rw [if_pos ht] at hres
        | rw [if_neg ht] at hres
      have ht' : (t == 1) = decide (t = 1) := by rw [Bool.eq_iff_iff]; simp
      first
        | rw [decide_eq_true ht] at ht'
        | rw [decide_eq_false ht] at ht'
      clear ht
      go_enter Try.func86, Try.ntmps86
      go_wp2_with ((first | simp only [hz.out, hW.out] | skip); refine wpList_load_row rfl 26 _ rfl w.heap.size rfl 26 #[.int .i64 nx, .slice q L.length cap] (0, 0) _ HT.out Try.underlying26 rfl (by kernel_rfl) ?_)
      refine hI.out.mono ?_
      rintro e w2 ⟨rfl, hB⟩
      have HB2 := Lib.hid (HB0.out.trans (hB.mono (by rw [hs.out]; omega)))
      have HN2 := Lib.hid (HN.out.below hB (by rw [hs.out]; omega))
      obtain ⟨W3, hW3, hB3, hN3, hM3⟩ := lay_node (n := n) HB2.out (by have := hB.size; rw [hs.out] at this; exact this) HN2.out
      replace hW3 := Lib.hid hW3
      replace hB3 := Lib.hid hB3
      replace hN3 := Lib.hid hN3
      replace hM3 := Lib.hid hM3
      clear hB
      replace hres := Lib.hid hres
      go_wp2_with (first
          | (refine wpList_store_row rfl 31 _ _ rfl w2.heap.size (cellsA n) rfl rfl 31 (cellsA noN) (heap_alloc_new w2 _) (by kernel_rfl) rfl (cellsA_one n) ?_; rw [World.setRow_alloc_new, hW3.out])
          | (refine wpList_store_row rfl 31 _ _ rfl (w.heap.size + 1) (cellsA noN) rfl rfl 31 (cellsA noN) hN3.out (by kernel_rfl) rfl (cellsA_one noN) ?_)
          | (refine wpList_store_row rfl 31 _ _ rfl (w.heap.size + 1) (cellsA n) rfl rfl 31 (cellsA noN) hN3.out (by kernel_rfl) rfl (cellsA_one n) ?_)
          | (refine wpList_load_row rfl 31 _ rfl w2.heap.size rfl 31 (cellsA n) (0, 0) _ hM3.out Try.underlying31 rfl (by kernel_rfl) ?_))
      first
          | (refine bodyPost_ret (results_node rfl rfl (hN3.out.setRow noN)) rfl ?_
             rw [hres.out]
             exact ⟨rfl, below_setRow hB3.out (Nat.le_succ _) _⟩)
          | (refine bodyPost_ret (results_node rfl rfl (hN3.out.setRow n)) rfl ?_
             rw [hres.out]
             exact ⟨rfl, below_setRow hB3.out (Nat.le_succ _) _⟩)
end Go.Proofs.Ytalhkoolpnmcdaa
