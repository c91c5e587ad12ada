/-
  Walks: Find.
-/
import Derived.Test.YtalhkoolpnmcdaaAl
namespace Go.Proofs.Ytalhkoolpnmcdaa
open Go.RowKit

/-- A tree is boxed. -/
theorem start_t (w : World) (nx : Int) (v : Value) : ∃ W, w.alloc (.cells #[.int .i64 nx, v] 26) = W ∧ Below w.heap.size w W ∧ W.heap.size = w.heap.size + 1 ∧ BlkT W w.heap.size nx v :=
  ⟨_, rfl, (Below.refl _ w).alloc (Nat.le_refl _) _, by simp, BlkT.new w nx v⟩
/-- A node is laid into a new block. -/
theorem lay1 {B : Nat} {w w2 : World} {n : ND} (hB : Below B w w2) (hs : B ≤ w2.heap.size) : ∃ W3, w2.alloc (.cells (cellsA n) 31) = W3 ∧ Below B w W3 ∧ Below w2.heap.size w2 W3 ∧ BlkN W3 w2.heap.size n ∧ W3.heap.size = w2.heap.size + 1 :=
  ⟨_, rfl, hB.alloc hs _, (Below.refl _ w2).alloc (Nat.le_refl _) _, BlkN.new w2 n, by simp⟩

theorem find_dir {L : List ND} {d : Int} {x : List UInt8} {n : ND} {e : Int} (h : dirT L d = (n, e)) : findT L d x = if e ≠ 0 then (0, e) else if x = [46, 46] then (n.pa, 0) else if hasC L d x = true then (childT L d x, 0) else (0, 8) := by
  unfold dirT at h
  unfold findT childT
  split at h
  · rename_i h1
    injection h with h2 h3
    subst h2 h3
    rw [if_pos h1, if_pos (by decide)]
  · rename_i h1
    rw [if_neg h1]
    split at h
    · rename_i h4
      injection h with h2 h3
      subst h2 h3
      rw [if_pos h4, if_pos (by decide)]
    · rename_i h4
      injection h with h2 h3
      subst h2 h3
      rw [if_neg h4, if_neg (show ¬ (0 : Int) ≠ 0 by decide)]
      by_cases hx : x = [46, 46]
      · rw [if_pos hx, if_pos hx]
      · rw [if_neg hx, if_neg hx]
        split <;> rfl

set_option maxRecDepth 100000 in
set_option maxHeartbeats 6400000 in
theorem Find_any (nx : Int) (v : Value) (L : List ND) (d : Int) (x : List UInt8) (w : World) (h : NRow w v L) (hV : Vld nx L) :
    Calls Try.prog 20 #[treeV nx v, .int .i64 d, .string (mk x)] w fun e w' => e = .returned (.tuple #[.int .i64 (findT L d x).1, .int .i64 (findT L d x).2]) ∧ Below w.heap.size w w' := by
  have hz := Lib.hid zeroN_eq
  obtain ⟨W, hW, hB0, hs0, hT0⟩ := start_t w nx v
  have hl : L.length ≤ 1000000 := by have := hV.len; omega
  have hD := Lib.hid (directory_any nx v L d W (h.below hB0) hV)
  have hC := Lib.hid (fun W' (hB : Below w.heap.size w W') => child_any nx v L d x W' (h.below hB) hl)
  have hfd := fun n e h => find_dir (L := L) (d := d) (x := x) (n := n) (e := e) h
  generalize findT L d x = res at hfd ⊢
  generalize childT L d x = ch at *
  generalize hasC L d x = hb at *
  generalize hd : dirT L d = dd at *
  obtain ⟨n, e⟩ := dd
  have hres := hfd n e rfl
  have hxx : ((mk x).toList == [46, 46]) = decide (x = [46, 46]) := by rw [mk_toList, Bool.eq_iff_iff]; simp
  replace hW := Lib.hid hW
  have HB0 := Lib.hid hB0
  have hs := Lib.hid hs0
  have HT := Lib.hid hT0
  obtain ⟨q, cap, rfl, hc, hm, _⟩ := h
  unfold treeV nodeV at hD
  unfold treeV at hC ⊢
  clear hB0 hs0 hT0 hfd hd hV hc hm
  dsimp only at hD
  by_cases he : e = 0
  · subst he
    rw [if_neg (by simp)] at hres
    by_cases hx : x = [46, 46]
    · rw [if_pos hx] at hres
      rw [decide_eq_true hx] at hxx
      replace hres := Lib.hid hres
      clear hx hC
      go_enter Try.func20, Try.ntmps20
      go_wp2_with ((first | simp only [hW.out] | skip); refine wpList_load_row rfl 26 _ rfl w.heap.size rfl 26 #[.int .i64 nx, .slice q L.length cap] (0, 0) _ HT.out Try.underlying26 rfl (by kernel_rfl) ?_)
      refine hD.out.mono ?_
      rintro e w2 ⟨rfl, hB⟩
      have HB2 := HB0.out.trans (hB.mono (by rw [hs.out]; omega))
      obtain ⟨W3, hW3, hB3, hb3, hM3, hs3⟩ := lay1 (n := n) HB2 HB2.size
      have c1 : W3.cell? ⟨w2.heap.size, 1, none⟩ = some (.int .i64 n.pa) := hM3.cell 1
      replace hW3 := Lib.hid hW3
      replace hB3 := Lib.hid hB3
      clear hB hM3 HB2 hb3 hs3
      go_wp2_with (refine wpList_store_row rfl 31 _ _ rfl w2.heap.size (cellsA n) rfl rfl 31 (cellsA noN) (heap_alloc_new w2 _) (by kernel_rfl) rfl (cellsA_one n) ?_; rw [World.setRow_alloc_new, hW3.out])
      go_ret2
      rw [hres.out]
      exact ⟨rfl, hB3.out⟩
    · rw [if_neg hx] at hres
      rw [decide_eq_false hx] at hxx
      clear hx
      cases hb
      all_goals
        replace hres := Lib.hid hres
        go_enter Try.func20, Try.ntmps20
        go_wp2_with ((first | simp only [hW.out] | skip); refine wpList_load_row rfl 26 _ rfl w.heap.size rfl 26 #[.int .i64 nx, .slice q L.length cap] (0, 0) _ HT.out Try.underlying26 rfl (by kernel_rfl) ?_)
        refine hD.out.mono ?_
        rintro e w2 ⟨rfl, hB⟩
        have HB2 := HB0.out.trans (hB.mono (by rw [hs.out]; omega))
        obtain ⟨W3, hW3, hB3, hb3, hM3, hs3⟩ := lay1 (n := n) HB2 HB2.size
        have HT3 := Lib.hid ((HT.out.below hB (by rw [hs.out]; omega)).below hb3 (by have := hB.size; rw [hs.out] at this; omega))
        replace hC := Lib.hid (hC.out W3 hB3)
        replace hW3 := Lib.hid hW3
        replace hB3 := Lib.hid hB3
        clear hB hM3 HB2 hb3 hs3
        go_wp2_with (first
          | (refine wpList_store_row rfl 31 _ _ rfl w2.heap.size (cellsA n) rfl rfl 31 (cellsA noN) (heap_alloc_new w2 _) (by kernel_rfl) rfl (cellsA_one n) ?_; rw [World.setRow_alloc_new, hW3.out])
          | (refine wpList_load_row rfl 26 _ rfl w.heap.size rfl 26 #[.int .i64 nx, .slice q L.length cap] (0, 0) _ HT3.out Try.underlying26 rfl (by kernel_rfl) ?_))
        refine hC.out.mono ?_
        rintro e w4 ⟨rfl, hB4⟩
        have HB4 := Lib.hid (hB3.out.trans (hB4.mono hB3.out.size))
        clear hB4
        go_wp2
        go_ret2
        rw [hres.out]
        exact ⟨rfl, HB4.out⟩
  · rw [if_pos he] at hres
    have he2 : (e != 0) = true := by simpa using he
    replace hres := Lib.hid hres
    clear he hC
    go_enter Try.func20, Try.ntmps20
    go_wp2_with ((first | simp only [hW.out] | skip); refine wpList_load_row rfl 26 _ rfl w.heap.size rfl 26 #[.int .i64 nx, .slice q L.length cap] (0, 0) _ HT.out Try.underlying26 rfl (by kernel_rfl) ?_)
    refine hD.out.mono ?_
    rintro e w2 ⟨rfl, hB⟩
    have HB2 := HB0.out.trans (hB.mono (by rw [hs.out]; omega))
    obtain ⟨W3, hW3, hB3, hb3, hM3, hs3⟩ := lay1 (n := n) HB2 HB2.size
    replace hW3 := Lib.hid hW3
    replace hB3 := Lib.hid hB3
    clear hB hM3 HB2 hb3 hs3
    go_wp2_with (refine wpList_store_row rfl 31 _ _ rfl w2.heap.size (cellsA n) rfl rfl 31 (cellsA noN) (heap_alloc_new w2 _) (by kernel_rfl) rfl (cellsA_one n) ?_; rw [World.setRow_alloc_new, hW3.out])
    go_ret2
    rw [hres.out]
    exact ⟨rfl, hB3.out⟩
end Go.Proofs.Ytalhkoolpnmcdaa
