/-
  Walks: New, the program's and the reference's.
-/
import Derived.Test.YtalhkoolpnmcdaaAs
namespace Go.Proofs.Ytalhkoolpnmcdaa
open Go.RowKit

theorem fill_one (n : ND) (i0 : TypeInfo) (h : i0.size = 11) : Instr.fill (fun i => some (i * i0.size, i0.size)) ((Array.range (1 * i0.size)).map ((Value.agg (cellsA noN)).cells[· % (Value.agg (cellsA noN)).cells.size]!)) [(0, .agg (cellsA n))] = some (cellsA n) := by
  rw [h]
  show _ = _
  kernel_rfl
theorem wpList_build_one {ops : Array Oper} {rest : List Oper} {o : Oper} {a : Act} {w : World} {Q : Exit → Act → World → Prop} (hg : o.guard = none) (x : Operand) (ho : o.op = .buildSlice 24 1 #[(0, x)]) (n : ND) (hx : a.eval x = .agg (cellsA n))
    (h : wpList Try.prog ops Q rest (a.put o.dst (.slice (some ⟨w.heap.size, 0, none⟩) 1 1)) (w.alloc (.cells (cellsA n) 31))) : wpList Try.prog ops Q (o :: rest) a w := by
  obtain ⟨i0, hi, hz0, hz1, hz2⟩ := info_parts info_node
  refine wpList_buildSlice hg _ _ 1 _ ho (cellsA n) i0 (.agg (cellsA noN)) Try.underlying24 hi hz0 (by rw [hz1]; decide) (by rw [hz1]; decide) ?_ h
  simp only [List.map_toArray, List.map_cons, List.map_nil, hx]
  exact fill_one n i0 hz1
theorem own_lit {w : World} {B : Nat} (n : ND) (hB : B ≤ w.heap.size) : NOwn B (w.alloc (.cells (cellsA n) 31)) (.slice (some ⟨w.heap.size, 0, none⟩) 1 1) [n] := by
  have := World.ownsRow_lit (base := B) (e := 31) (size := 11) w (cellsA n) 1 hB (by unfold maxLen; decide) rfl
  unfold NOwn flatN
  simpa [cellsA] using this
/-- The blocks of New. -/
theorem new_blocks (w : World) (n : ND) : ∃ W1 W2 W3, w.alloc (.cells #[.int .i64 0, .slice none 0 0] 26) = W1 ∧ W1.alloc (.cells (cellsA n) 31) = W2 ∧ W2.alloc (.cells (cellsA n) 31) = W3 ∧ BlkN W2 W1.heap.size n ∧ BlkT W3 w.heap.size 0 (.slice none 0 0) ∧
    NOwn w.heap.size W3 (.slice (some ⟨W2.heap.size, 0, none⟩) 1 1) [n] ∧ Below w.heap.size w W3 ∧ W1.heap.size = w.heap.size + 1 ∧ W2.heap.size = w.heap.size + 2 := by
  refine ⟨_, _, _, rfl, rfl, rfl, BlkN.new _ n, ((BlkT.new w _ _).alloc _).alloc _, own_lit n (by simp; omega), (((Below.refl _ w).alloc (Nat.le_refl _) _).alloc (by simp) _).alloc (by simp; omega) _, by simp, by simp⟩

set_option maxRecDepth 100000 in
set_option maxHeartbeats 6400000 in
theorem New_any (uid : List UInt8) (perm now : Int) (w : World) :
    Calls Try.prog 13 #[.string (mk uid), .int .i64 perm, .int .i64 now] w fun e w' => GivesT 2 [rootN uid perm now] w e w' := by
  obtain ⟨W1, W2, W3, h1, h2, h3, hN, hT, hO, hB, s1, s2⟩ := new_blocks w (rootN uid perm now)
  have hU := Lib.hid (fun W => nameOf_any uid W)
  have hTm := Lib.hid (fun W => timeOf_any now W)
  have hA := low_and perm
  have hOr := dir_or (x := perm % 512) (by omega) (by omega)
  have hz := Lib.hid zeroN_eq
  replace h1 := Lib.hid h1
  replace h2 := Lib.hid h2
  replace h3 := Lib.hid h3
  replace hN := Lib.hid hN
  replace hT := Lib.hid hT
  replace hO := Lib.hid hO
  replace hB := Lib.hid hB
  replace s1 := Lib.hid s1
  replace s2 := Lib.hid s2
  go_enter Try.func13, Try.ntmps13
  go_wp2_with (first
    | (go_at_call 34; simp only [h1.out]; refine (hU.out _).mono ?_; rintro e w' ⟨rfl, rfl⟩)
    | (go_at_call 35; refine (hTm.out _).mono ?_; rintro e w' ⟨rfl, rfl⟩)
    | (refine wpList_store_row rfl 31 _ _ rfl W1.heap.size (cellsA (rootN uid perm now)) rfl rfl 31 (cellsA noN) (heap_alloc_new W1 _) (by kernel_rfl) rfl (cellsA_one _) ?_; rw [World.setRow_alloc_new, h2.out])
    | (refine wpList_load_row rfl 31 _ rfl W1.heap.size rfl 31 (cellsA (rootN uid perm now)) (0, 0) _ hN.out Try.underlying31 rfl (by kernel_rfl) ?_)
    | (refine wpList_build_one rfl (.tmp 23) rfl (rootN uid perm now) rfl ?_; rw [h3.out])
    | (refine wpList_store_row rfl 26 _ _ rfl w.heap.size #[.int .i64 2, .slice (some ⟨W2.heap.size, 0, none⟩) 1 1] rfl rfl 26 #[.int .i64 0, .slice none 0 0] hT.out (by kernel_rfl) rfl (treeA_one _ _ _ _) ?_))
  refine bodyPost_ret (results_tree (b := w.heap.size) (nx := 2) (v := .slice (some ⟨W2.heap.size, 0, none⟩) 1 1) rfl rfl (setRow_heap _ _ _ _ _ _ hT.out)) rfl ?_
  exact ⟨.slice (some ⟨W2.heap.size, 0, none⟩) 1 1, rfl, own_setRow (k := w.heap.size) hO.out (by rw [s2.out]; simp [Value.ownBlock]) _, below_setRow (g := w.heap.size) hB.out (Nat.le_refl _) _⟩

set_option maxRecDepth 100000 in
set_option maxHeartbeats 6400000 in
theorem RNew_any (uid : List UInt8) (perm now : Int) (w : World) :
    Calls Try.prog 14 #[.string (mk uid), .int .i64 perm, .int .i64 now] w fun e w' => GivesT 2 [rootN uid perm now] w e w' := by
  obtain ⟨W1, W2, W3, h1, h2, h3, hN, hT, hO, hB, s1, s2⟩ := new_blocks w (rootN uid perm now)
  have hU := Lib.hid (fun W => RShort_any uid W)
  have hTm := Lib.hid (fun W => RTime_any now W)
  have hA := low_and perm
  have b0 : 0 ≤ perm % 512 := by omega
  have b1 : perm % 512 < 512 := by omega
  have hz := Lib.hid zeroN_eq
  replace h1 := Lib.hid h1
  replace h2 := Lib.hid h2
  replace h3 := Lib.hid h3
  replace hN := Lib.hid hN
  replace hT := Lib.hid hT
  replace hO := Lib.hid hO
  replace hB := Lib.hid hB
  replace s1 := Lib.hid s1
  replace s2 := Lib.hid s2
  go_enter Try.func14, Try.ntmps14
  go_wp2_with (first
    | (go_at_call 36; (first | simp only [h1.out] | skip); refine (hU.out _).mono ?_; rintro e w' ⟨rfl, rfl⟩)
    | (go_at_call 37; refine (hTm.out _).mono ?_; rintro e w' ⟨rfl, rfl⟩)
    | (refine wpList_store_row rfl 31 _ _ rfl W1.heap.size (cellsA (rootN uid perm now)) rfl rfl 31 (cellsA noN) (heap_alloc_new W1 _) (by kernel_rfl) rfl (cellsA_one _) ?_; rw [World.setRow_alloc_new, h2.out])
    | (refine wpList_load_row rfl 31 _ rfl W1.heap.size rfl 31 (cellsA (rootN uid perm now)) (0, 0) _ hN.out Try.underlying31 rfl (by kernel_rfl) ?_)
    | (refine wpList_build_one rfl (.tmp 22) rfl (rootN uid perm now) rfl ?_; rw [h3.out])
    | (refine wpList_store_row rfl 26 _ _ rfl w.heap.size #[.int .i64 2, .slice (some ⟨W2.heap.size, 0, none⟩) 1 1] rfl rfl 26 #[.int .i64 0, .slice none 0 0] hT.out (by kernel_rfl) rfl (treeA_one _ _ _ _) ?_))
  refine bodyPost_ret (results_tree (b := w.heap.size) (nx := 2) (v := .slice (some ⟨W2.heap.size, 0, none⟩) 1 1) rfl rfl (setRow_heap _ _ _ _ _ _ hT.out)) rfl ?_
  exact ⟨.slice (some ⟨W2.heap.size, 0, none⟩) 1 1, rfl, own_setRow (k := w.heap.size) hO.out (by rw [s2.out]; simp [Value.ownBlock]) _, below_setRow (g := w.heap.size) hB.out (Nat.le_refl _) _⟩
end Go.Proofs.Ytalhkoolpnmcdaa
