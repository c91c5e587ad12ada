/-
  Walks: put.
-/
import Derived.Test.YtlfdmbfbfadifaaDoorWz
import Derived.Deep.CutRange
namespace Go.Proofs.YtlfdmbfbfadifaaDoor
open Go.RowKit

theorem slice_one {v : Value} {p : Option Addr} {n c : Nat} (h : v = .slice p n c) : v.oneCell' = true := by rw [h]; rfl
theorem RowM.one {w : World} {m : MM} (h : RowM w m) : m.nv.oneCell' = true ∧ m.qv.oneCell' = true := by
  obtain ⟨⟨p, c, e, _⟩, ⟨p', c', e', _⟩⟩ := h
  exact ⟨slice_one e, slice_one e'⟩
theorem setRow_other (w : World) (g b : Nat) (cs : Array Value) (h : b ≠ g) : (w.setRow g cs).heap[b]? = w.heap[b]? := by
  simp only [World.setRow, Array.getElem?_modify]
  rw [if_neg (by omega)]
theorem srow_one {w : World} {b : Nat} {t : TypeId} (h : w.heap[b]? = some (.cells #[.string ⟨#[120]⟩] t (0, 0))) : SRow w (.slice (some ⟨b, 0, none⟩) 1 1) [[120]] := by
  refine ⟨_, 1, rfl, Nat.le_refl _, by decide, fun _ => ⟨b, 0, rfl, (Array.getElem?_eq_some_iff.1 h).1, fun j hj => ?_⟩⟩
  obtain rfl : j = 0 := by simp at hj; omega
  exact Joins.cell_of_block h 0
theorem qrow_one {w : World} {b : Nat} {t : TypeId} (h : w.heap[b]? = some (.cells #[.int .i64 0, .int .i64 0, .int .i64 1] t (0, 0))) : QRow w (.slice (some ⟨b, 0, none⟩) 1 1) [⟨0, 0, 1⟩] := by
  refine ⟨_, 1, rfl, Nat.le_refl _, by decide, fun _ => ⟨b, 0, rfl, (Array.getElem?_eq_some_iff.1 h).1, fun k hk => ?_⟩⟩
  obtain rfl : k = 0 := by simp at hk; omega
  exact ⟨Joins.cell_of_block h 0, Joins.cell_of_block h 1, Joins.cell_of_block h 2⟩

set_option maxRecDepth 100000 in
set_option maxHeartbeats 3200000 in
theorem put_0 (m : MM) (w : World) (hr : RowM w m) :
    Calls Tryd.prog 24 #[msgV m, .int .u8 102] w fun e w' => e = .returned (msgV (putM m (.slice none 0 0) (.slice none 0 0) 0)) ∧ Below w.heap.size w w' := by
  have hz : Hid (∀ W : World, W.alloc (.cells #[.int .i64 0, .int .i64 0, .int .i64 0, .int .i64 0, .int .i64 0, .int .i64 0, .int .i64 0, .string ⟨#[]⟩, .string ⟨#[]⟩, .string ⟨#[]⟩, .slice none 0 0, .slice none 0 0, .int .i64 0, .int .i64 0, .int .i64 0, .int .i64 0, .int .i64 0, .int .i64 0, .string ⟨#[]⟩, .int .i64 0, .int .i64 0, .string ⟨#[]⟩, .int .i64 0, .int .i64 0, .int .i64 0, .int .i64 0, .int .i64 0, .int .i64 0, .int .i64 0, .int .i64 0, .int .i64 0, .string ⟨#[]⟩, .string ⟨#[]⟩, .string ⟨#[]⟩, .string ⟨#[]⟩, .int .i64 0, .int .i64 0, .int .i64 0, .string ⟨#[]⟩] 35) = W.alloc (.cells (cellsB noM) 35)) := fun _ => rfl
  obtain ⟨W, hW, hB, hK, hX⟩ := two_blocks w m
  have ho := hr.one
  have hc : W.cell? ⟨w.heap.size, 2, none⟩ = (cellsM m)[2]? := hK.cell 2
  simp only [cellsM, List.getElem?_cons_zero, List.getElem?_cons_succ] at hc
  have hf := hK.frozen 2
  have hK2 := hK.set (m' := putM m (.slice none 0 0) (.slice none 0 0) 0) 2 (.int .i64 1) rfl
  have hX2 := hX.apart (a := ⟨w.heap.size, 2, none⟩) (by show w.heap.size + 1 ≠ w.heap.size; omega) (.int .i64 1)
  have hB2 := hB.setCell (p := ⟨w.heap.size, 2, none⟩) (Nat.le_refl _) (.int .i64 1)
  have hone := Lib.hid (cellsB_one (putM m (.slice none 0 0) (.slice none 0 0) 0) ho.1 ho.2)
  have HX := Lib.hid (hX2.setRow (putM m (.slice none 0 0) (.slice none 0 0) 0))
  have hsz : Hid ((cellsB (putM m (.slice none 0 0) (.slice none 0 0) 0)).size = 39) := rfl
  unfold BlkM at HX hK2
  unfold msgV
  generalize cellsB (putM m (.slice none 0 0) (.slice none 0 0) 0) = cp at *
  have hi : (Tryd.prog.info? 35).map (·.size) = some cp.size := by rw [hsz.out]; exact info_msg
  have hs2 : (cellsB noM).size = cp.size := by rw [hsz.out]; rfl
  replace hi := Lib.hid hi
  replace hs2 := Lib.hid hs2
  replace hW := Lib.hid hW
  replace hB2 := Lib.hid hB2
  replace hK2 := Lib.hid hK2
  replace hX2 := Lib.hid hX2
  clear hB hK hX ho hr
  go_enter Tryd.func24, Tryd.ntmps24
  go_upto_region 1 with fail
  simp only [hz.out, hW.out]
  go_wp2_with (first
    | (refine wpList_load_row rfl 35 _ rfl w.heap.size rfl 35 cp (0, 0) _ hK2.out Tryd.underlying35 rfl hi.out ?_)
    | (refine wpList_store_row rfl 35 _ _ rfl (w.heap.size + 1) cp rfl rfl 35 (cellsB noM) hX2.out hi.out hs2.out hone.out ?_))
  refine bodyPost_ret (results_cell_row rfl _ _ (w.heap.size + 1) 35 cp (0, 0) _ rfl HX.out Tryd.underlying35 rfl hi.out) rfl ?_
  exact ⟨rfl, below_setRow hB2.out (Nat.le_succ _) _⟩

set_option maxRecDepth 100000 in
set_option maxHeartbeats 3200000 in
theorem put_1 (m : MM) (w : World) (hr : RowM w m) :
    Calls Tryd.prog 24 #[msgV m, .int .u8 110] w fun e w' => e = .returned (msgV (putM m (.slice none 0 0) (.slice none 0 0) 1)) ∧ Below w.heap.size w w' := by
  have hz : Hid (∀ W : World, W.alloc (.cells #[.int .i64 0, .int .i64 0, .int .i64 0, .int .i64 0, .int .i64 0, .int .i64 0, .int .i64 0, .string ⟨#[]⟩, .string ⟨#[]⟩, .string ⟨#[]⟩, .slice none 0 0, .slice none 0 0, .int .i64 0, .int .i64 0, .int .i64 0, .int .i64 0, .int .i64 0, .int .i64 0, .string ⟨#[]⟩, .int .i64 0, .int .i64 0, .string ⟨#[]⟩, .int .i64 0, .int .i64 0, .int .i64 0, .int .i64 0, .int .i64 0, .int .i64 0, .int .i64 0, .int .i64 0, .int .i64 0, .string ⟨#[]⟩, .string ⟨#[]⟩, .string ⟨#[]⟩, .string ⟨#[]⟩, .int .i64 0, .int .i64 0, .int .i64 0, .string ⟨#[]⟩] 35) = W.alloc (.cells (cellsB noM) 35)) := fun _ => rfl
  obtain ⟨W, hW, hB, hK, hX⟩ := two_blocks w m
  have ho := hr.one
  have hc : W.cell? ⟨w.heap.size, 3, none⟩ = (cellsM m)[3]? := hK.cell 3
  simp only [cellsM, List.getElem?_cons_zero, List.getElem?_cons_succ] at hc
  have hf := hK.frozen 3
  have hK2 := hK.set (m' := putM m (.slice none 0 0) (.slice none 0 0) 1) 3 (.int .i64 1) rfl
  have hX2 := hX.apart (a := ⟨w.heap.size, 3, none⟩) (by show w.heap.size + 1 ≠ w.heap.size; omega) (.int .i64 1)
  have hB2 := hB.setCell (p := ⟨w.heap.size, 3, none⟩) (Nat.le_refl _) (.int .i64 1)
  have hone := Lib.hid (cellsB_one (putM m (.slice none 0 0) (.slice none 0 0) 1) ho.1 ho.2)
  have HX := Lib.hid (hX2.setRow (putM m (.slice none 0 0) (.slice none 0 0) 1))
  have hsz : Hid ((cellsB (putM m (.slice none 0 0) (.slice none 0 0) 1)).size = 39) := rfl
  unfold BlkM at HX hK2
  unfold msgV
  generalize cellsB (putM m (.slice none 0 0) (.slice none 0 0) 1) = cp at *
  have hi : (Tryd.prog.info? 35).map (·.size) = some cp.size := by rw [hsz.out]; exact info_msg
  have hs2 : (cellsB noM).size = cp.size := by rw [hsz.out]; rfl
  replace hi := Lib.hid hi
  replace hs2 := Lib.hid hs2
  replace hW := Lib.hid hW
  replace hB2 := Lib.hid hB2
  replace hK2 := Lib.hid hK2
  replace hX2 := Lib.hid hX2
  clear hB hK hX ho hr
  go_enter Tryd.func24, Tryd.ntmps24
  go_upto_region 1 with fail
  simp only [hz.out, hW.out]
  go_wp2_with (first
    | (refine wpList_load_row rfl 35 _ rfl w.heap.size rfl 35 cp (0, 0) _ hK2.out Tryd.underlying35 rfl hi.out ?_)
    | (refine wpList_store_row rfl 35 _ _ rfl (w.heap.size + 1) cp rfl rfl 35 (cellsB noM) hX2.out hi.out hs2.out hone.out ?_))
  refine bodyPost_ret (results_cell_row rfl _ _ (w.heap.size + 1) 35 cp (0, 0) _ rfl HX.out Tryd.underlying35 rfl hi.out) rfl ?_
  exact ⟨rfl, below_setRow hB2.out (Nat.le_succ _) _⟩

set_option maxRecDepth 100000 in
set_option maxHeartbeats 3200000 in
theorem put_2 (m : MM) (w : World) (hr : RowM w m) :
    Calls Tryd.prog 24 #[msgV m, .int .u8 97] w fun e w' => e = .returned (msgV (putM m (.slice none 0 0) (.slice none 0 0) 2)) ∧ Below w.heap.size w w' := by
  have hz : Hid (∀ W : World, W.alloc (.cells #[.int .i64 0, .int .i64 0, .int .i64 0, .int .i64 0, .int .i64 0, .int .i64 0, .int .i64 0, .string ⟨#[]⟩, .string ⟨#[]⟩, .string ⟨#[]⟩, .slice none 0 0, .slice none 0 0, .int .i64 0, .int .i64 0, .int .i64 0, .int .i64 0, .int .i64 0, .int .i64 0, .string ⟨#[]⟩, .int .i64 0, .int .i64 0, .string ⟨#[]⟩, .int .i64 0, .int .i64 0, .int .i64 0, .int .i64 0, .int .i64 0, .int .i64 0, .int .i64 0, .int .i64 0, .int .i64 0, .string ⟨#[]⟩, .string ⟨#[]⟩, .string ⟨#[]⟩, .string ⟨#[]⟩, .int .i64 0, .int .i64 0, .int .i64 0, .string ⟨#[]⟩] 35) = W.alloc (.cells (cellsB noM) 35)) := fun _ => rfl
  obtain ⟨W, hW, hB, hK, hX⟩ := two_blocks w m
  have ho := hr.one
  have hc : W.cell? ⟨w.heap.size, 4, none⟩ = (cellsM m)[4]? := hK.cell 4
  simp only [cellsM, List.getElem?_cons_zero, List.getElem?_cons_succ] at hc
  have hf := hK.frozen 4
  have hK2 := hK.set (m' := putM m (.slice none 0 0) (.slice none 0 0) 2) 4 (.int .i64 1) rfl
  have hX2 := hX.apart (a := ⟨w.heap.size, 4, none⟩) (by show w.heap.size + 1 ≠ w.heap.size; omega) (.int .i64 1)
  have hB2 := hB.setCell (p := ⟨w.heap.size, 4, none⟩) (Nat.le_refl _) (.int .i64 1)
  have hone := Lib.hid (cellsB_one (putM m (.slice none 0 0) (.slice none 0 0) 2) ho.1 ho.2)
  have HX := Lib.hid (hX2.setRow (putM m (.slice none 0 0) (.slice none 0 0) 2))
  have hsz : Hid ((cellsB (putM m (.slice none 0 0) (.slice none 0 0) 2)).size = 39) := rfl
  unfold BlkM at HX hK2
  unfold msgV
  generalize cellsB (putM m (.slice none 0 0) (.slice none 0 0) 2) = cp at *
  have hi : (Tryd.prog.info? 35).map (·.size) = some cp.size := by rw [hsz.out]; exact info_msg
  have hs2 : (cellsB noM).size = cp.size := by rw [hsz.out]; rfl
  replace hi := Lib.hid hi
  replace hs2 := Lib.hid hs2
  replace hW := Lib.hid hW
  replace hB2 := Lib.hid hB2
  replace hK2 := Lib.hid hK2
  replace hX2 := Lib.hid hX2
  clear hB hK hX ho hr
  go_enter Tryd.func24, Tryd.ntmps24
  go_upto_region 1 with fail
  simp only [hz.out, hW.out]
  go_wp2_with (first
    | (refine wpList_load_row rfl 35 _ rfl w.heap.size rfl 35 cp (0, 0) _ hK2.out Tryd.underlying35 rfl hi.out ?_)
    | (refine wpList_store_row rfl 35 _ _ rfl (w.heap.size + 1) cp rfl rfl 35 (cellsB noM) hX2.out hi.out hs2.out hone.out ?_))
  refine bodyPost_ret (results_cell_row rfl _ _ (w.heap.size + 1) 35 cp (0, 0) _ rfl HX.out Tryd.underlying35 rfl hi.out) rfl ?_
  exact ⟨rfl, below_setRow hB2.out (Nat.le_succ _) _⟩

set_option maxRecDepth 100000 in
set_option maxHeartbeats 3200000 in
theorem put_3 (m : MM) (w : World) (hr : RowM w m) :
    Calls Tryd.prog 24 #[msgV m, .int .u8 111] w fun e w' => e = .returned (msgV (putM m (.slice none 0 0) (.slice none 0 0) 3)) ∧ Below w.heap.size w w' := by
  have hz : Hid (∀ W : World, W.alloc (.cells #[.int .i64 0, .int .i64 0, .int .i64 0, .int .i64 0, .int .i64 0, .int .i64 0, .int .i64 0, .string ⟨#[]⟩, .string ⟨#[]⟩, .string ⟨#[]⟩, .slice none 0 0, .slice none 0 0, .int .i64 0, .int .i64 0, .int .i64 0, .int .i64 0, .int .i64 0, .int .i64 0, .string ⟨#[]⟩, .int .i64 0, .int .i64 0, .string ⟨#[]⟩, .int .i64 0, .int .i64 0, .int .i64 0, .int .i64 0, .int .i64 0, .int .i64 0, .int .i64 0, .int .i64 0, .int .i64 0, .string ⟨#[]⟩, .string ⟨#[]⟩, .string ⟨#[]⟩, .string ⟨#[]⟩, .int .i64 0, .int .i64 0, .int .i64 0, .string ⟨#[]⟩] 35) = W.alloc (.cells (cellsB noM) 35)) := fun _ => rfl
  obtain ⟨W, hW, hB, hK, hX⟩ := two_blocks w m
  have ho := hr.one
  have hc : W.cell? ⟨w.heap.size, 5, none⟩ = (cellsM m)[5]? := hK.cell 5
  simp only [cellsM, List.getElem?_cons_zero, List.getElem?_cons_succ] at hc
  have hf := hK.frozen 5
  have hK2 := hK.set (m' := putM m (.slice none 0 0) (.slice none 0 0) 3) 5 (.int .i64 1) rfl
  have hX2 := hX.apart (a := ⟨w.heap.size, 5, none⟩) (by show w.heap.size + 1 ≠ w.heap.size; omega) (.int .i64 1)
  have hB2 := hB.setCell (p := ⟨w.heap.size, 5, none⟩) (Nat.le_refl _) (.int .i64 1)
  have hone := Lib.hid (cellsB_one (putM m (.slice none 0 0) (.slice none 0 0) 3) ho.1 ho.2)
  have HX := Lib.hid (hX2.setRow (putM m (.slice none 0 0) (.slice none 0 0) 3))
  have hsz : Hid ((cellsB (putM m (.slice none 0 0) (.slice none 0 0) 3)).size = 39) := rfl
  unfold BlkM at HX hK2
  unfold msgV
  generalize cellsB (putM m (.slice none 0 0) (.slice none 0 0) 3) = cp at *
  have hi : (Tryd.prog.info? 35).map (·.size) = some cp.size := by rw [hsz.out]; exact info_msg
  have hs2 : (cellsB noM).size = cp.size := by rw [hsz.out]; rfl
  replace hi := Lib.hid hi
  replace hs2 := Lib.hid hs2
  replace hW := Lib.hid hW
  replace hB2 := Lib.hid hB2
  replace hK2 := Lib.hid hK2
  replace hX2 := Lib.hid hX2
  clear hB hK hX ho hr
  go_enter Tryd.func24, Tryd.ntmps24
  go_upto_region 1 with fail
  simp only [hz.out, hW.out]
  go_wp2_with (first
    | (refine wpList_load_row rfl 35 _ rfl w.heap.size rfl 35 cp (0, 0) _ hK2.out Tryd.underlying35 rfl hi.out ?_)
    | (refine wpList_store_row rfl 35 _ _ rfl (w.heap.size + 1) cp rfl rfl 35 (cellsB noM) hX2.out hi.out hs2.out hone.out ?_))
  refine bodyPost_ret (results_cell_row rfl _ _ (w.heap.size + 1) 35 cp (0, 0) _ rfl HX.out Tryd.underlying35 rfl hi.out) rfl ?_
  exact ⟨rfl, below_setRow hB2.out (Nat.le_succ _) _⟩

set_option maxRecDepth 100000 in
set_option maxHeartbeats 3200000 in
theorem put_4 (m : MM) (w : World) (hr : RowM w m) :
    Calls Tryd.prog 24 #[msgV m, .int .u8 122] w fun e w' => e = .returned (msgV (putM m (.slice none 0 0) (.slice none 0 0) 4)) ∧ Below w.heap.size w w' := by
  have hz : Hid (∀ W : World, W.alloc (.cells #[.int .i64 0, .int .i64 0, .int .i64 0, .int .i64 0, .int .i64 0, .int .i64 0, .int .i64 0, .string ⟨#[]⟩, .string ⟨#[]⟩, .string ⟨#[]⟩, .slice none 0 0, .slice none 0 0, .int .i64 0, .int .i64 0, .int .i64 0, .int .i64 0, .int .i64 0, .int .i64 0, .string ⟨#[]⟩, .int .i64 0, .int .i64 0, .string ⟨#[]⟩, .int .i64 0, .int .i64 0, .int .i64 0, .int .i64 0, .int .i64 0, .int .i64 0, .int .i64 0, .int .i64 0, .int .i64 0, .string ⟨#[]⟩, .string ⟨#[]⟩, .string ⟨#[]⟩, .string ⟨#[]⟩, .int .i64 0, .int .i64 0, .int .i64 0, .string ⟨#[]⟩] 35) = W.alloc (.cells (cellsB noM) 35)) := fun _ => rfl
  obtain ⟨W, hW, hB, hK, hX⟩ := two_blocks w m
  have ho := hr.one
  have hc : W.cell? ⟨w.heap.size, 6, none⟩ = (cellsM m)[6]? := hK.cell 6
  simp only [cellsM, List.getElem?_cons_zero, List.getElem?_cons_succ] at hc
  have hf := hK.frozen 6
  have hK2 := hK.set (m' := putM m (.slice none 0 0) (.slice none 0 0) 4) 6 (.int .i64 1) rfl
  have hX2 := hX.apart (a := ⟨w.heap.size, 6, none⟩) (by show w.heap.size + 1 ≠ w.heap.size; omega) (.int .i64 1)
  have hB2 := hB.setCell (p := ⟨w.heap.size, 6, none⟩) (Nat.le_refl _) (.int .i64 1)
  have hone := Lib.hid (cellsB_one (putM m (.slice none 0 0) (.slice none 0 0) 4) ho.1 ho.2)
  have HX := Lib.hid (hX2.setRow (putM m (.slice none 0 0) (.slice none 0 0) 4))
  have hsz : Hid ((cellsB (putM m (.slice none 0 0) (.slice none 0 0) 4)).size = 39) := rfl
  unfold BlkM at HX hK2
  unfold msgV
  generalize cellsB (putM m (.slice none 0 0) (.slice none 0 0) 4) = cp at *
  have hi : (Tryd.prog.info? 35).map (·.size) = some cp.size := by rw [hsz.out]; exact info_msg
  have hs2 : (cellsB noM).size = cp.size := by rw [hsz.out]; rfl
  replace hi := Lib.hid hi
  replace hs2 := Lib.hid hs2
  replace hW := Lib.hid hW
  replace hB2 := Lib.hid hB2
  replace hK2 := Lib.hid hK2
  replace hX2 := Lib.hid hX2
  clear hB hK hX ho hr
  go_enter Tryd.func24, Tryd.ntmps24
  go_upto_region 1 with fail
  simp only [hz.out, hW.out]
  go_wp2_with (first
    | (refine wpList_load_row rfl 35 _ rfl w.heap.size rfl 35 cp (0, 0) _ hK2.out Tryd.underlying35 rfl hi.out ?_)
    | (refine wpList_store_row rfl 35 _ _ rfl (w.heap.size + 1) cp rfl rfl 35 (cellsB noM) hX2.out hi.out hs2.out hone.out ?_))
  refine bodyPost_ret (results_cell_row rfl _ _ (w.heap.size + 1) 35 cp (0, 0) _ rfl HX.out Tryd.underlying35 rfl hi.out) rfl ?_
  exact ⟨rfl, below_setRow hB2.out (Nat.le_succ _) _⟩

set_option maxRecDepth 100000 in
set_option maxHeartbeats 3200000 in
theorem put_5 (m : MM) (w : World) (hr : RowM w m) :
    Calls Tryd.prog 24 #[msgV m, .int .u8 118] w fun e w' => e = .returned (msgV (putM m (.slice none 0 0) (.slice none 0 0) 5)) ∧ Below w.heap.size w w' := by
  have hz : Hid (∀ W : World, W.alloc (.cells #[.int .i64 0, .int .i64 0, .int .i64 0, .int .i64 0, .int .i64 0, .int .i64 0, .int .i64 0, .string ⟨#[]⟩, .string ⟨#[]⟩, .string ⟨#[]⟩, .slice none 0 0, .slice none 0 0, .int .i64 0, .int .i64 0, .int .i64 0, .int .i64 0, .int .i64 0, .int .i64 0, .string ⟨#[]⟩, .int .i64 0, .int .i64 0, .string ⟨#[]⟩, .int .i64 0, .int .i64 0, .int .i64 0, .int .i64 0, .int .i64 0, .int .i64 0, .int .i64 0, .int .i64 0, .int .i64 0, .string ⟨#[]⟩, .string ⟨#[]⟩, .string ⟨#[]⟩, .string ⟨#[]⟩, .int .i64 0, .int .i64 0, .int .i64 0, .string ⟨#[]⟩] 35) = W.alloc (.cells (cellsB noM) 35)) := fun _ => rfl
  obtain ⟨W, hW, hB, hK, hX⟩ := two_blocks w m
  have ho := hr.one
  have hc : W.cell? ⟨w.heap.size, 7, none⟩ = (cellsM m)[7]? := hK.cell 7
  simp only [cellsM, List.getElem?_cons_zero, List.getElem?_cons_succ] at hc
  have hf := hK.frozen 7
  have hK2 := hK.set (m' := putM m (.slice none 0 0) (.slice none 0 0) 5) 7 (.string ⟨#[120]⟩) rfl
  have hX2 := hX.apart (a := ⟨w.heap.size, 7, none⟩) (by show w.heap.size + 1 ≠ w.heap.size; omega) (.string ⟨#[120]⟩)
  have hB2 := hB.setCell (p := ⟨w.heap.size, 7, none⟩) (Nat.le_refl _) (.string ⟨#[120]⟩)
  have hone := Lib.hid (cellsB_one (putM m (.slice none 0 0) (.slice none 0 0) 5) ho.1 ho.2)
  have HX := Lib.hid (hX2.setRow (putM m (.slice none 0 0) (.slice none 0 0) 5))
  have hsz : Hid ((cellsB (putM m (.slice none 0 0) (.slice none 0 0) 5)).size = 39) := rfl
  unfold BlkM at HX hK2
  unfold msgV
  generalize cellsB (putM m (.slice none 0 0) (.slice none 0 0) 5) = cp at *
  have hi : (Tryd.prog.info? 35).map (·.size) = some cp.size := by rw [hsz.out]; exact info_msg
  have hs2 : (cellsB noM).size = cp.size := by rw [hsz.out]; rfl
  replace hi := Lib.hid hi
  replace hs2 := Lib.hid hs2
  replace hW := Lib.hid hW
  replace hB2 := Lib.hid hB2
  replace hK2 := Lib.hid hK2
  replace hX2 := Lib.hid hX2
  clear hB hK hX ho hr
  go_enter Tryd.func24, Tryd.ntmps24
  go_upto_region 1 with fail
  simp only [hz.out, hW.out]
  go_wp2_with (first
    | (refine wpList_load_row rfl 35 _ rfl w.heap.size rfl 35 cp (0, 0) _ hK2.out Tryd.underlying35 rfl hi.out ?_)
    | (refine wpList_store_row rfl 35 _ _ rfl (w.heap.size + 1) cp rfl rfl 35 (cellsB noM) hX2.out hi.out hs2.out hone.out ?_))
  refine bodyPost_ret (results_cell_row rfl _ _ (w.heap.size + 1) 35 cp (0, 0) _ rfl HX.out Tryd.underlying35 rfl hi.out) rfl ?_
  exact ⟨rfl, below_setRow hB2.out (Nat.le_succ _) _⟩

set_option maxRecDepth 100000 in
set_option maxHeartbeats 3200000 in
theorem put_6 (m : MM) (w : World) (hr : RowM w m) :
    Calls Tryd.prog 24 #[msgV m, .int .u8 117] w fun e w' => e = .returned (msgV (putM m (.slice none 0 0) (.slice none 0 0) 6)) ∧ Below w.heap.size w w' := by
  have hz : Hid (∀ W : World, W.alloc (.cells #[.int .i64 0, .int .i64 0, .int .i64 0, .int .i64 0, .int .i64 0, .int .i64 0, .int .i64 0, .string ⟨#[]⟩, .string ⟨#[]⟩, .string ⟨#[]⟩, .slice none 0 0, .slice none 0 0, .int .i64 0, .int .i64 0, .int .i64 0, .int .i64 0, .int .i64 0, .int .i64 0, .string ⟨#[]⟩, .int .i64 0, .int .i64 0, .string ⟨#[]⟩, .int .i64 0, .int .i64 0, .int .i64 0, .int .i64 0, .int .i64 0, .int .i64 0, .int .i64 0, .int .i64 0, .int .i64 0, .string ⟨#[]⟩, .string ⟨#[]⟩, .string ⟨#[]⟩, .string ⟨#[]⟩, .int .i64 0, .int .i64 0, .int .i64 0, .string ⟨#[]⟩] 35) = W.alloc (.cells (cellsB noM) 35)) := fun _ => rfl
  obtain ⟨W, hW, hB, hK, hX⟩ := two_blocks w m
  have ho := hr.one
  have hc : W.cell? ⟨w.heap.size, 8, none⟩ = (cellsM m)[8]? := hK.cell 8
  simp only [cellsM, List.getElem?_cons_zero, List.getElem?_cons_succ] at hc
  have hf := hK.frozen 8
  have hK2 := hK.set (m' := putM m (.slice none 0 0) (.slice none 0 0) 6) 8 (.string ⟨#[120]⟩) rfl
  have hX2 := hX.apart (a := ⟨w.heap.size, 8, none⟩) (by show w.heap.size + 1 ≠ w.heap.size; omega) (.string ⟨#[120]⟩)
  have hB2 := hB.setCell (p := ⟨w.heap.size, 8, none⟩) (Nat.le_refl _) (.string ⟨#[120]⟩)
  have hone := Lib.hid (cellsB_one (putM m (.slice none 0 0) (.slice none 0 0) 6) ho.1 ho.2)
  have HX := Lib.hid (hX2.setRow (putM m (.slice none 0 0) (.slice none 0 0) 6))
  have hsz : Hid ((cellsB (putM m (.slice none 0 0) (.slice none 0 0) 6)).size = 39) := rfl
  unfold BlkM at HX hK2
  unfold msgV
  generalize cellsB (putM m (.slice none 0 0) (.slice none 0 0) 6) = cp at *
  have hi : (Tryd.prog.info? 35).map (·.size) = some cp.size := by rw [hsz.out]; exact info_msg
  have hs2 : (cellsB noM).size = cp.size := by rw [hsz.out]; rfl
  replace hi := Lib.hid hi
  replace hs2 := Lib.hid hs2
  replace hW := Lib.hid hW
  replace hB2 := Lib.hid hB2
  replace hK2 := Lib.hid hK2
  replace hX2 := Lib.hid hX2
  clear hB hK hX ho hr
  go_enter Tryd.func24, Tryd.ntmps24
  go_upto_region 1 with fail
  simp only [hz.out, hW.out]
  go_wp2_with (first
    | (refine wpList_load_row rfl 35 _ rfl w.heap.size rfl 35 cp (0, 0) _ hK2.out Tryd.underlying35 rfl hi.out ?_)
    | (refine wpList_store_row rfl 35 _ _ rfl (w.heap.size + 1) cp rfl rfl 35 (cellsB noM) hX2.out hi.out hs2.out hone.out ?_))
  refine bodyPost_ret (results_cell_row rfl _ _ (w.heap.size + 1) 35 cp (0, 0) _ rfl HX.out Tryd.underlying35 rfl hi.out) rfl ?_
  exact ⟨rfl, below_setRow hB2.out (Nat.le_succ _) _⟩

set_option maxRecDepth 100000 in
set_option maxHeartbeats 3200000 in
theorem put_7 (m : MM) (w : World) (hr : RowM w m) :
    Calls Tryd.prog 24 #[msgV m, .int .u8 116] w fun e w' => e = .returned (msgV (putM m (.slice none 0 0) (.slice none 0 0) 7)) ∧ Below w.heap.size w w' := by
  have hz : Hid (∀ W : World, W.alloc (.cells #[.int .i64 0, .int .i64 0, .int .i64 0, .int .i64 0, .int .i64 0, .int .i64 0, .int .i64 0, .string ⟨#[]⟩, .string ⟨#[]⟩, .string ⟨#[]⟩, .slice none 0 0, .slice none 0 0, .int .i64 0, .int .i64 0, .int .i64 0, .int .i64 0, .int .i64 0, .int .i64 0, .string ⟨#[]⟩, .int .i64 0, .int .i64 0, .string ⟨#[]⟩, .int .i64 0, .int .i64 0, .int .i64 0, .int .i64 0, .int .i64 0, .int .i64 0, .int .i64 0, .int .i64 0, .int .i64 0, .string ⟨#[]⟩, .string ⟨#[]⟩, .string ⟨#[]⟩, .string ⟨#[]⟩, .int .i64 0, .int .i64 0, .int .i64 0, .string ⟨#[]⟩] 35) = W.alloc (.cells (cellsB noM) 35)) := fun _ => rfl
  obtain ⟨W, hW, hB, hK, hX⟩ := two_blocks w m
  have ho := hr.one
  have hc : W.cell? ⟨w.heap.size, 9, none⟩ = (cellsM m)[9]? := hK.cell 9
  simp only [cellsM, List.getElem?_cons_zero, List.getElem?_cons_succ] at hc
  have hf := hK.frozen 9
  have hK2 := hK.set (m' := putM m (.slice none 0 0) (.slice none 0 0) 7) 9 (.string ⟨#[120]⟩) rfl
  have hX2 := hX.apart (a := ⟨w.heap.size, 9, none⟩) (by show w.heap.size + 1 ≠ w.heap.size; omega) (.string ⟨#[120]⟩)
  have hB2 := hB.setCell (p := ⟨w.heap.size, 9, none⟩) (Nat.le_refl _) (.string ⟨#[120]⟩)
  have hone := Lib.hid (cellsB_one (putM m (.slice none 0 0) (.slice none 0 0) 7) ho.1 ho.2)
  have HX := Lib.hid (hX2.setRow (putM m (.slice none 0 0) (.slice none 0 0) 7))
  have hsz : Hid ((cellsB (putM m (.slice none 0 0) (.slice none 0 0) 7)).size = 39) := rfl
  unfold BlkM at HX hK2
  unfold msgV
  generalize cellsB (putM m (.slice none 0 0) (.slice none 0 0) 7) = cp at *
  have hi : (Tryd.prog.info? 35).map (·.size) = some cp.size := by rw [hsz.out]; exact info_msg
  have hs2 : (cellsB noM).size = cp.size := by rw [hsz.out]; rfl
  replace hi := Lib.hid hi
  replace hs2 := Lib.hid hs2
  replace hW := Lib.hid hW
  replace hB2 := Lib.hid hB2
  replace hK2 := Lib.hid hK2
  replace hX2 := Lib.hid hX2
  clear hB hK hX ho hr
  go_enter Tryd.func24, Tryd.ntmps24
  go_upto_region 1 with fail
  simp only [hz.out, hW.out]
  go_wp2_with (first
    | (refine wpList_load_row rfl 35 _ rfl w.heap.size rfl 35 cp (0, 0) _ hK2.out Tryd.underlying35 rfl hi.out ?_)
    | (refine wpList_store_row rfl 35 _ _ rfl (w.heap.size + 1) cp rfl rfl 35 (cellsB noM) hX2.out hi.out hs2.out hone.out ?_))
  refine bodyPost_ret (results_cell_row rfl _ _ (w.heap.size + 1) 35 cp (0, 0) _ rfl HX.out Tryd.underlying35 rfl hi.out) rfl ?_
  exact ⟨rfl, below_setRow hB2.out (Nat.le_succ _) _⟩

set_option maxRecDepth 100000 in
set_option maxHeartbeats 3200000 in
theorem put_10 (m : MM) (w : World) (hr : RowM w m) :
    Calls Tryd.prog 24 #[msgV m, .int .u8 113] w fun e w' => e = .returned (msgV (putM m (.slice none 0 0) (.slice none 0 0) 10)) ∧ Below w.heap.size w w' := by
  have hz : Hid (∀ W : World, W.alloc (.cells #[.int .i64 0, .int .i64 0, .int .i64 0, .int .i64 0, .int .i64 0, .int .i64 0, .int .i64 0, .string ⟨#[]⟩, .string ⟨#[]⟩, .string ⟨#[]⟩, .slice none 0 0, .slice none 0 0, .int .i64 0, .int .i64 0, .int .i64 0, .int .i64 0, .int .i64 0, .int .i64 0, .string ⟨#[]⟩, .int .i64 0, .int .i64 0, .string ⟨#[]⟩, .int .i64 0, .int .i64 0, .int .i64 0, .int .i64 0, .int .i64 0, .int .i64 0, .int .i64 0, .int .i64 0, .int .i64 0, .string ⟨#[]⟩, .string ⟨#[]⟩, .string ⟨#[]⟩, .string ⟨#[]⟩, .int .i64 0, .int .i64 0, .int .i64 0, .string ⟨#[]⟩] 35) = W.alloc (.cells (cellsB noM) 35)) := fun _ => rfl
  obtain ⟨W, hW, hB, hK, hX⟩ := two_blocks w m
  have ho := hr.one
  have hc0 : W.cell? ⟨w.heap.size, 12, none⟩ = some (.int .i64 m.qd.t) := hK.cell 12
  have hc1 : W.cell? ⟨w.heap.size, 13, none⟩ = some (.int .i64 m.qd.v) := hK.cell 13
  have hc2 : W.cell? ⟨w.heap.size, 14, none⟩ = some (.int .i64 m.qd.p) := hK.cell 14
  have hf0 := hK.frozen 12
  have hf1 := hK.frozen 13
  have hf2 := hK.frozen 14
  have hK2 := ((hK.set (m' := { m with qd := ⟨0, m.qd.v, m.qd.p⟩ }) 12 (.int .i64 0) rfl).set (m' := { m with qd := ⟨0, 0, m.qd.p⟩ }) 13 (.int .i64 0) rfl).set (m' := putM m (.slice none 0 0) (.slice none 0 0) 10) 14 (.int .i64 1) rfl
  have hX2 := ((hX.apart (a := ⟨w.heap.size, 12, none⟩) (by show w.heap.size + 1 ≠ w.heap.size; omega) (.int .i64 0)).apart (a := ⟨w.heap.size, 13, none⟩) (by show w.heap.size + 1 ≠ w.heap.size; omega) (.int .i64 0)).apart (a := ⟨w.heap.size, 14, none⟩) (by show w.heap.size + 1 ≠ w.heap.size; omega) (.int .i64 1)
  have hB2 := ((hB.setCell (p := ⟨w.heap.size, 12, none⟩) (Nat.le_refl _) (.int .i64 0)).setCell (p := ⟨w.heap.size, 13, none⟩) (Nat.le_refl _) (.int .i64 0)).setCell (p := ⟨w.heap.size, 14, none⟩) (Nat.le_refl _) (.int .i64 1)
  have hone := Lib.hid (cellsB_one (putM m (.slice none 0 0) (.slice none 0 0) 10) ho.1 ho.2)
  have HX := Lib.hid (hX2.setRow (putM m (.slice none 0 0) (.slice none 0 0) 10))
  have hsz : Hid ((cellsB (putM m (.slice none 0 0) (.slice none 0 0) 10)).size = 39) := rfl
  unfold BlkM at HX hK2
  unfold msgV
  generalize cellsB (putM m (.slice none 0 0) (.slice none 0 0) 10) = cp at *
  have hi : (Tryd.prog.info? 35).map (·.size) = some cp.size := by rw [hsz.out]; exact info_msg
  have hs2 : (cellsB noM).size = cp.size := by rw [hsz.out]; rfl
  replace hi := Lib.hid hi
  replace hs2 := Lib.hid hs2
  replace hW := Lib.hid hW
  replace hB2 := Lib.hid hB2
  replace hK2 := Lib.hid hK2
  replace hX2 := Lib.hid hX2
  clear hB hK hX ho hr
  go_enter Tryd.func24, Tryd.ntmps24
  go_upto_region 1 with fail
  simp only [hz.out, hW.out]
  go_wp2_with (first
    | (refine wpList_load_row rfl 35 _ rfl w.heap.size rfl 35 cp (0, 0) _ hK2.out Tryd.underlying35 rfl hi.out ?_)
    | (refine wpList_store_row rfl 35 _ _ rfl (w.heap.size + 1) cp rfl rfl 35 (cellsB noM) hX2.out hi.out hs2.out hone.out ?_))
  refine bodyPost_ret (results_cell_row rfl _ _ (w.heap.size + 1) 35 cp (0, 0) _ rfl HX.out Tryd.underlying35 rfl hi.out) rfl ?_
  exact ⟨rfl, below_setRow hB2.out (Nat.le_succ _) _⟩

set_option maxRecDepth 100000 in
set_option maxHeartbeats 3200000 in
theorem put_11 (m : MM) (w : World) (hr : RowM w m) :
    Calls Tryd.prog 24 #[msgV m, .int .u8 105] w fun e w' => e = .returned (msgV (putM m (.slice none 0 0) (.slice none 0 0) 11)) ∧ Below w.heap.size w w' := by
  have hz : Hid (∀ W : World, W.alloc (.cells #[.int .i64 0, .int .i64 0, .int .i64 0, .int .i64 0, .int .i64 0, .int .i64 0, .int .i64 0, .string ⟨#[]⟩, .string ⟨#[]⟩, .string ⟨#[]⟩, .slice none 0 0, .slice none 0 0, .int .i64 0, .int .i64 0, .int .i64 0, .int .i64 0, .int .i64 0, .int .i64 0, .string ⟨#[]⟩, .int .i64 0, .int .i64 0, .string ⟨#[]⟩, .int .i64 0, .int .i64 0, .int .i64 0, .int .i64 0, .int .i64 0, .int .i64 0, .int .i64 0, .int .i64 0, .int .i64 0, .string ⟨#[]⟩, .string ⟨#[]⟩, .string ⟨#[]⟩, .string ⟨#[]⟩, .int .i64 0, .int .i64 0, .int .i64 0, .string ⟨#[]⟩] 35) = W.alloc (.cells (cellsB noM) 35)) := fun _ => rfl
  obtain ⟨W, hW, hB, hK, hX⟩ := two_blocks w m
  have ho := hr.one
  have hc : W.cell? ⟨w.heap.size, 15, none⟩ = (cellsM m)[15]? := hK.cell 15
  simp only [cellsM, List.getElem?_cons_zero, List.getElem?_cons_succ] at hc
  have hf := hK.frozen 15
  have hK2 := hK.set (m' := putM m (.slice none 0 0) (.slice none 0 0) 11) 15 (.int .i64 1) rfl
  have hX2 := hX.apart (a := ⟨w.heap.size, 15, none⟩) (by show w.heap.size + 1 ≠ w.heap.size; omega) (.int .i64 1)
  have hB2 := hB.setCell (p := ⟨w.heap.size, 15, none⟩) (Nat.le_refl _) (.int .i64 1)
  have hone := Lib.hid (cellsB_one (putM m (.slice none 0 0) (.slice none 0 0) 11) ho.1 ho.2)
  have HX := Lib.hid (hX2.setRow (putM m (.slice none 0 0) (.slice none 0 0) 11))
  have hsz : Hid ((cellsB (putM m (.slice none 0 0) (.slice none 0 0) 11)).size = 39) := rfl
  unfold BlkM at HX hK2
  unfold msgV
  generalize cellsB (putM m (.slice none 0 0) (.slice none 0 0) 11) = cp at *
  have hi : (Tryd.prog.info? 35).map (·.size) = some cp.size := by rw [hsz.out]; exact info_msg
  have hs2 : (cellsB noM).size = cp.size := by rw [hsz.out]; rfl
  replace hi := Lib.hid hi
  replace hs2 := Lib.hid hs2
  replace hW := Lib.hid hW
  replace hB2 := Lib.hid hB2
  replace hK2 := Lib.hid hK2
  replace hX2 := Lib.hid hX2
  clear hB hK hX ho hr
  go_enter Tryd.func24, Tryd.ntmps24
  go_upto_region 1 with fail
  simp only [hz.out, hW.out]
  go_wp2_with (first
    | (refine wpList_load_row rfl 35 _ rfl w.heap.size rfl 35 cp (0, 0) _ hK2.out Tryd.underlying35 rfl hi.out ?_)
    | (refine wpList_store_row rfl 35 _ _ rfl (w.heap.size + 1) cp rfl rfl 35 (cellsB noM) hX2.out hi.out hs2.out hone.out ?_))
  refine bodyPost_ret (results_cell_row rfl _ _ (w.heap.size + 1) 35 cp (0, 0) _ rfl HX.out Tryd.underlying35 rfl hi.out) rfl ?_
  exact ⟨rfl, below_setRow hB2.out (Nat.le_succ _) _⟩

set_option maxRecDepth 100000 in
set_option maxHeartbeats 3200000 in
theorem put_12 (m : MM) (w : World) (hr : RowM w m) :
    Calls Tryd.prog 24 #[msgV m, .int .u8 109] w fun e w' => e = .returned (msgV (putM m (.slice none 0 0) (.slice none 0 0) 12)) ∧ Below w.heap.size w w' := by
  have hz : Hid (∀ W : World, W.alloc (.cells #[.int .i64 0, .int .i64 0, .int .i64 0, .int .i64 0, .int .i64 0, .int .i64 0, .int .i64 0, .string ⟨#[]⟩, .string ⟨#[]⟩, .string ⟨#[]⟩, .slice none 0 0, .slice none 0 0, .int .i64 0, .int .i64 0, .int .i64 0, .int .i64 0, .int .i64 0, .int .i64 0, .string ⟨#[]⟩, .int .i64 0, .int .i64 0, .string ⟨#[]⟩, .int .i64 0, .int .i64 0, .int .i64 0, .int .i64 0, .int .i64 0, .int .i64 0, .int .i64 0, .int .i64 0, .int .i64 0, .string ⟨#[]⟩, .string ⟨#[]⟩, .string ⟨#[]⟩, .string ⟨#[]⟩, .int .i64 0, .int .i64 0, .int .i64 0, .string ⟨#[]⟩] 35) = W.alloc (.cells (cellsB noM) 35)) := fun _ => rfl
  obtain ⟨W, hW, hB, hK, hX⟩ := two_blocks w m
  have ho := hr.one
  have hc : W.cell? ⟨w.heap.size, 16, none⟩ = (cellsM m)[16]? := hK.cell 16
  simp only [cellsM, List.getElem?_cons_zero, List.getElem?_cons_succ] at hc
  have hf := hK.frozen 16
  have hK2 := hK.set (m' := putM m (.slice none 0 0) (.slice none 0 0) 12) 16 (.int .i64 1) rfl
  have hX2 := hX.apart (a := ⟨w.heap.size, 16, none⟩) (by show w.heap.size + 1 ≠ w.heap.size; omega) (.int .i64 1)
  have hB2 := hB.setCell (p := ⟨w.heap.size, 16, none⟩) (Nat.le_refl _) (.int .i64 1)
  have hone := Lib.hid (cellsB_one (putM m (.slice none 0 0) (.slice none 0 0) 12) ho.1 ho.2)
  have HX := Lib.hid (hX2.setRow (putM m (.slice none 0 0) (.slice none 0 0) 12))
  have hsz : Hid ((cellsB (putM m (.slice none 0 0) (.slice none 0 0) 12)).size = 39) := rfl
  unfold BlkM at HX hK2
  unfold msgV
  generalize cellsB (putM m (.slice none 0 0) (.slice none 0 0) 12) = cp at *
  have hi : (Tryd.prog.info? 35).map (·.size) = some cp.size := by rw [hsz.out]; exact info_msg
  have hs2 : (cellsB noM).size = cp.size := by rw [hsz.out]; rfl
  replace hi := Lib.hid hi
  replace hs2 := Lib.hid hs2
  replace hW := Lib.hid hW
  replace hB2 := Lib.hid hB2
  replace hK2 := Lib.hid hK2
  replace hX2 := Lib.hid hX2
  clear hB hK hX ho hr
  go_enter Tryd.func24, Tryd.ntmps24
  go_upto_region 1 with fail
  simp only [hz.out, hW.out]
  go_wp2_with (first
    | (refine wpList_load_row rfl 35 _ rfl w.heap.size rfl 35 cp (0, 0) _ hK2.out Tryd.underlying35 rfl hi.out ?_)
    | (refine wpList_store_row rfl 35 _ _ rfl (w.heap.size + 1) cp rfl rfl 35 (cellsB noM) hX2.out hi.out hs2.out hone.out ?_))
  refine bodyPost_ret (results_cell_row rfl _ _ (w.heap.size + 1) 35 cp (0, 0) _ rfl HX.out Tryd.underlying35 rfl hi.out) rfl ?_
  exact ⟨rfl, below_setRow hB2.out (Nat.le_succ _) _⟩

set_option maxRecDepth 100000 in
set_option maxHeartbeats 3200000 in
theorem put_13 (m : MM) (w : World) (hr : RowM w m) :
    Calls Tryd.prog 24 #[msgV m, .int .u8 112] w fun e w' => e = .returned (msgV (putM m (.slice none 0 0) (.slice none 0 0) 13)) ∧ Below w.heap.size w w' := by
  have hz : Hid (∀ W : World, W.alloc (.cells #[.int .i64 0, .int .i64 0, .int .i64 0, .int .i64 0, .int .i64 0, .int .i64 0, .int .i64 0, .string ⟨#[]⟩, .string ⟨#[]⟩, .string ⟨#[]⟩, .slice none 0 0, .slice none 0 0, .int .i64 0, .int .i64 0, .int .i64 0, .int .i64 0, .int .i64 0, .int .i64 0, .string ⟨#[]⟩, .int .i64 0, .int .i64 0, .string ⟨#[]⟩, .int .i64 0, .int .i64 0, .int .i64 0, .int .i64 0, .int .i64 0, .int .i64 0, .int .i64 0, .int .i64 0, .int .i64 0, .string ⟨#[]⟩, .string ⟨#[]⟩, .string ⟨#[]⟩, .string ⟨#[]⟩, .int .i64 0, .int .i64 0, .int .i64 0, .string ⟨#[]⟩] 35) = W.alloc (.cells (cellsB noM) 35)) := fun _ => rfl
  obtain ⟨W, hW, hB, hK, hX⟩ := two_blocks w m
  have ho := hr.one
  have hc : W.cell? ⟨w.heap.size, 17, none⟩ = (cellsM m)[17]? := hK.cell 17
  simp only [cellsM, List.getElem?_cons_zero, List.getElem?_cons_succ] at hc
  have hf := hK.frozen 17
  have hK2 := hK.set (m' := putM m (.slice none 0 0) (.slice none 0 0) 13) 17 (.int .i64 1) rfl
  have hX2 := hX.apart (a := ⟨w.heap.size, 17, none⟩) (by show w.heap.size + 1 ≠ w.heap.size; omega) (.int .i64 1)
  have hB2 := hB.setCell (p := ⟨w.heap.size, 17, none⟩) (Nat.le_refl _) (.int .i64 1)
  have hone := Lib.hid (cellsB_one (putM m (.slice none 0 0) (.slice none 0 0) 13) ho.1 ho.2)
  have HX := Lib.hid (hX2.setRow (putM m (.slice none 0 0) (.slice none 0 0) 13))
  have hsz : Hid ((cellsB (putM m (.slice none 0 0) (.slice none 0 0) 13)).size = 39) := rfl
  unfold BlkM at HX hK2
  unfold msgV
  generalize cellsB (putM m (.slice none 0 0) (.slice none 0 0) 13) = cp at *
  have hi : (Tryd.prog.info? 35).map (·.size) = some cp.size := by rw [hsz.out]; exact info_msg
  have hs2 : (cellsB noM).size = cp.size := by rw [hsz.out]; rfl
  replace hi := Lib.hid hi
  replace hs2 := Lib.hid hs2
  replace hW := Lib.hid hW
  replace hB2 := Lib.hid hB2
  replace hK2 := Lib.hid hK2
  replace hX2 := Lib.hid hX2
  clear hB hK hX ho hr
  go_enter Tryd.func24, Tryd.ntmps24
  go_upto_region 1 with fail
  simp only [hz.out, hW.out]
  go_wp2_with (first
    | (refine wpList_load_row rfl 35 _ rfl w.heap.size rfl 35 cp (0, 0) _ hK2.out Tryd.underlying35 rfl hi.out ?_)
    | (refine wpList_store_row rfl 35 _ _ rfl (w.heap.size + 1) cp rfl rfl 35 (cellsB noM) hX2.out hi.out hs2.out hone.out ?_))
  refine bodyPost_ret (results_cell_row rfl _ _ (w.heap.size + 1) 35 cp (0, 0) _ rfl HX.out Tryd.underlying35 rfl hi.out) rfl ?_
  exact ⟨rfl, below_setRow hB2.out (Nat.le_succ _) _⟩

set_option maxRecDepth 100000 in
set_option maxHeartbeats 3200000 in
theorem put_14 (m : MM) (w : World) (hr : RowM w m) :
    Calls Tryd.prog 24 #[msgV m, .int .u8 101] w fun e w' => e = .returned (msgV (putM m (.slice none 0 0) (.slice none 0 0) 14)) ∧ Below w.heap.size w w' := by
  have hz : Hid (∀ W : World, W.alloc (.cells #[.int .i64 0, .int .i64 0, .int .i64 0, .int .i64 0, .int .i64 0, .int .i64 0, .int .i64 0, .string ⟨#[]⟩, .string ⟨#[]⟩, .string ⟨#[]⟩, .slice none 0 0, .slice none 0 0, .int .i64 0, .int .i64 0, .int .i64 0, .int .i64 0, .int .i64 0, .int .i64 0, .string ⟨#[]⟩, .int .i64 0, .int .i64 0, .string ⟨#[]⟩, .int .i64 0, .int .i64 0, .int .i64 0, .int .i64 0, .int .i64 0, .int .i64 0, .int .i64 0, .int .i64 0, .int .i64 0, .string ⟨#[]⟩, .string ⟨#[]⟩, .string ⟨#[]⟩, .string ⟨#[]⟩, .int .i64 0, .int .i64 0, .int .i64 0, .string ⟨#[]⟩] 35) = W.alloc (.cells (cellsB noM) 35)) := fun _ => rfl
  obtain ⟨W, hW, hB, hK, hX⟩ := two_blocks w m
  have ho := hr.one
  have hc : W.cell? ⟨w.heap.size, 18, none⟩ = (cellsM m)[18]? := hK.cell 18
  simp only [cellsM, List.getElem?_cons_zero, List.getElem?_cons_succ] at hc
  have hf := hK.frozen 18
  have hK2 := hK.set (m' := putM m (.slice none 0 0) (.slice none 0 0) 14) 18 (.string ⟨#[120]⟩) rfl
  have hX2 := hX.apart (a := ⟨w.heap.size, 18, none⟩) (by show w.heap.size + 1 ≠ w.heap.size; omega) (.string ⟨#[120]⟩)
  have hB2 := hB.setCell (p := ⟨w.heap.size, 18, none⟩) (Nat.le_refl _) (.string ⟨#[120]⟩)
  have hone := Lib.hid (cellsB_one (putM m (.slice none 0 0) (.slice none 0 0) 14) ho.1 ho.2)
  have HX := Lib.hid (hX2.setRow (putM m (.slice none 0 0) (.slice none 0 0) 14))
  have hsz : Hid ((cellsB (putM m (.slice none 0 0) (.slice none 0 0) 14)).size = 39) := rfl
  unfold BlkM at HX hK2
  unfold msgV
  generalize cellsB (putM m (.slice none 0 0) (.slice none 0 0) 14) = cp at *
  have hi : (Tryd.prog.info? 35).map (·.size) = some cp.size := by rw [hsz.out]; exact info_msg
  have hs2 : (cellsB noM).size = cp.size := by rw [hsz.out]; rfl
  replace hi := Lib.hid hi
  replace hs2 := Lib.hid hs2
  replace hW := Lib.hid hW
  replace hB2 := Lib.hid hB2
  replace hK2 := Lib.hid hK2
  replace hX2 := Lib.hid hX2
  clear hB hK hX ho hr
  go_enter Tryd.func24, Tryd.ntmps24
  go_upto_region 1 with fail
  simp only [hz.out, hW.out]
  go_wp2_with (first
    | (refine wpList_load_row rfl 35 _ rfl w.heap.size rfl 35 cp (0, 0) _ hK2.out Tryd.underlying35 rfl hi.out ?_)
    | (refine wpList_store_row rfl 35 _ _ rfl (w.heap.size + 1) cp rfl rfl 35 (cellsB noM) hX2.out hi.out hs2.out hone.out ?_))
  refine bodyPost_ret (results_cell_row rfl _ _ (w.heap.size + 1) 35 cp (0, 0) _ rfl HX.out Tryd.underlying35 rfl hi.out) rfl ?_
  exact ⟨rfl, below_setRow hB2.out (Nat.le_succ _) _⟩

set_option maxRecDepth 100000 in
set_option maxHeartbeats 3200000 in
theorem put_15 (m : MM) (w : World) (hr : RowM w m) :
    Calls Tryd.prog 24 #[msgV m, .int .u8 79] w fun e w' => e = .returned (msgV (putM m (.slice none 0 0) (.slice none 0 0) 15)) ∧ Below w.heap.size w w' := by
  have hz : Hid (∀ W : World, W.alloc (.cells #[.int .i64 0, .int .i64 0, .int .i64 0, .int .i64 0, .int .i64 0, .int .i64 0, .int .i64 0, .string ⟨#[]⟩, .string ⟨#[]⟩, .string ⟨#[]⟩, .slice none 0 0, .slice none 0 0, .int .i64 0, .int .i64 0, .int .i64 0, .int .i64 0, .int .i64 0, .int .i64 0, .string ⟨#[]⟩, .int .i64 0, .int .i64 0, .string ⟨#[]⟩, .int .i64 0, .int .i64 0, .int .i64 0, .int .i64 0, .int .i64 0, .int .i64 0, .int .i64 0, .int .i64 0, .int .i64 0, .string ⟨#[]⟩, .string ⟨#[]⟩, .string ⟨#[]⟩, .string ⟨#[]⟩, .int .i64 0, .int .i64 0, .int .i64 0, .string ⟨#[]⟩] 35) = W.alloc (.cells (cellsB noM) 35)) := fun _ => rfl
  obtain ⟨W, hW, hB, hK, hX⟩ := two_blocks w m
  have ho := hr.one
  have hc : W.cell? ⟨w.heap.size, 19, none⟩ = (cellsM m)[19]? := hK.cell 19
  simp only [cellsM, List.getElem?_cons_zero, List.getElem?_cons_succ] at hc
  have hf := hK.frozen 19
  have hK2 := hK.set (m' := putM m (.slice none 0 0) (.slice none 0 0) 15) 19 (.int .i64 1) rfl
  have hX2 := hX.apart (a := ⟨w.heap.size, 19, none⟩) (by show w.heap.size + 1 ≠ w.heap.size; omega) (.int .i64 1)
  have hB2 := hB.setCell (p := ⟨w.heap.size, 19, none⟩) (Nat.le_refl _) (.int .i64 1)
  have hone := Lib.hid (cellsB_one (putM m (.slice none 0 0) (.slice none 0 0) 15) ho.1 ho.2)
  have HX := Lib.hid (hX2.setRow (putM m (.slice none 0 0) (.slice none 0 0) 15))
  have hsz : Hid ((cellsB (putM m (.slice none 0 0) (.slice none 0 0) 15)).size = 39) := rfl
  unfold BlkM at HX hK2
  unfold msgV
  generalize cellsB (putM m (.slice none 0 0) (.slice none 0 0) 15) = cp at *
  have hi : (Tryd.prog.info? 35).map (·.size) = some cp.size := by rw [hsz.out]; exact info_msg
  have hs2 : (cellsB noM).size = cp.size := by rw [hsz.out]; rfl
  replace hi := Lib.hid hi
  replace hs2 := Lib.hid hs2
  replace hW := Lib.hid hW
  replace hB2 := Lib.hid hB2
  replace hK2 := Lib.hid hK2
  replace hX2 := Lib.hid hX2
  clear hB hK hX ho hr
  go_enter Tryd.func24, Tryd.ntmps24
  go_upto_region 1 with fail
  simp only [hz.out, hW.out]
  go_wp2_with (first
    | (refine wpList_load_row rfl 35 _ rfl w.heap.size rfl 35 cp (0, 0) _ hK2.out Tryd.underlying35 rfl hi.out ?_)
    | (refine wpList_store_row rfl 35 _ _ rfl (w.heap.size + 1) cp rfl rfl 35 (cellsB noM) hX2.out hi.out hs2.out hone.out ?_))
  refine bodyPost_ret (results_cell_row rfl _ _ (w.heap.size + 1) 35 cp (0, 0) _ rfl HX.out Tryd.underlying35 rfl hi.out) rfl ?_
  exact ⟨rfl, below_setRow hB2.out (Nat.le_succ _) _⟩

set_option maxRecDepth 100000 in
set_option maxHeartbeats 3200000 in
theorem put_16 (m : MM) (w : World) (hr : RowM w m) :
    Calls Tryd.prog 24 #[msgV m, .int .u8 99] w fun e w' => e = .returned (msgV (putM m (.slice none 0 0) (.slice none 0 0) 16)) ∧ Below w.heap.size w w' := by
  have hz : Hid (∀ W : World, W.alloc (.cells #[.int .i64 0, .int .i64 0, .int .i64 0, .int .i64 0, .int .i64 0, .int .i64 0, .int .i64 0, .string ⟨#[]⟩, .string ⟨#[]⟩, .string ⟨#[]⟩, .slice none 0 0, .slice none 0 0, .int .i64 0, .int .i64 0, .int .i64 0, .int .i64 0, .int .i64 0, .int .i64 0, .string ⟨#[]⟩, .int .i64 0, .int .i64 0, .string ⟨#[]⟩, .int .i64 0, .int .i64 0, .int .i64 0, .int .i64 0, .int .i64 0, .int .i64 0, .int .i64 0, .int .i64 0, .int .i64 0, .string ⟨#[]⟩, .string ⟨#[]⟩, .string ⟨#[]⟩, .string ⟨#[]⟩, .int .i64 0, .int .i64 0, .int .i64 0, .string ⟨#[]⟩] 35) = W.alloc (.cells (cellsB noM) 35)) := fun _ => rfl
  obtain ⟨W, hW, hB, hK, hX⟩ := two_blocks w m
  have ho := hr.one
  have hc : W.cell? ⟨w.heap.size, 20, none⟩ = (cellsM m)[20]? := hK.cell 20
  simp only [cellsM, List.getElem?_cons_zero, List.getElem?_cons_succ] at hc
  have hf := hK.frozen 20
  have hK2 := hK.set (m' := putM m (.slice none 0 0) (.slice none 0 0) 16) 20 (.int .i64 1) rfl
  have hX2 := hX.apart (a := ⟨w.heap.size, 20, none⟩) (by show w.heap.size + 1 ≠ w.heap.size; omega) (.int .i64 1)
  have hB2 := hB.setCell (p := ⟨w.heap.size, 20, none⟩) (Nat.le_refl _) (.int .i64 1)
  have hone := Lib.hid (cellsB_one (putM m (.slice none 0 0) (.slice none 0 0) 16) ho.1 ho.2)
  have HX := Lib.hid (hX2.setRow (putM m (.slice none 0 0) (.slice none 0 0) 16))
  have hsz : Hid ((cellsB (putM m (.slice none 0 0) (.slice none 0 0) 16)).size = 39) := rfl
  unfold BlkM at HX hK2
  unfold msgV
  generalize cellsB (putM m (.slice none 0 0) (.slice none 0 0) 16) = cp at *
  have hi : (Tryd.prog.info? 35).map (·.size) = some cp.size := by rw [hsz.out]; exact info_msg
  have hs2 : (cellsB noM).size = cp.size := by rw [hsz.out]; rfl
  replace hi := Lib.hid hi
  replace hs2 := Lib.hid hs2
  replace hW := Lib.hid hW
  replace hB2 := Lib.hid hB2
  replace hK2 := Lib.hid hK2
  replace hX2 := Lib.hid hX2
  clear hB hK hX ho hr
  go_enter Tryd.func24, Tryd.ntmps24
  go_upto_region 1 with fail
  simp only [hz.out, hW.out]
  go_wp2_with (first
    | (refine wpList_load_row rfl 35 _ rfl w.heap.size rfl 35 cp (0, 0) _ hK2.out Tryd.underlying35 rfl hi.out ?_)
    | (refine wpList_store_row rfl 35 _ _ rfl (w.heap.size + 1) cp rfl rfl 35 (cellsB noM) hX2.out hi.out hs2.out hone.out ?_))
  refine bodyPost_ret (results_cell_row rfl _ _ (w.heap.size + 1) 35 cp (0, 0) _ rfl HX.out Tryd.underlying35 rfl hi.out) rfl ?_
  exact ⟨rfl, below_setRow hB2.out (Nat.le_succ _) _⟩

set_option maxRecDepth 100000 in
set_option maxHeartbeats 3200000 in
theorem put_17 (m : MM) (w : World) (hr : RowM w m) :
    Calls Tryd.prog 24 #[msgV m, .int .u8 100] w fun e w' => e = .returned (msgV (putM m (.slice none 0 0) (.slice none 0 0) 17)) ∧ Below w.heap.size w w' := by
  have hz : Hid (∀ W : World, W.alloc (.cells #[.int .i64 0, .int .i64 0, .int .i64 0, .int .i64 0, .int .i64 0, .int .i64 0, .int .i64 0, .string ⟨#[]⟩, .string ⟨#[]⟩, .string ⟨#[]⟩, .slice none 0 0, .slice none 0 0, .int .i64 0, .int .i64 0, .int .i64 0, .int .i64 0, .int .i64 0, .int .i64 0, .string ⟨#[]⟩, .int .i64 0, .int .i64 0, .string ⟨#[]⟩, .int .i64 0, .int .i64 0, .int .i64 0, .int .i64 0, .int .i64 0, .int .i64 0, .int .i64 0, .int .i64 0, .int .i64 0, .string ⟨#[]⟩, .string ⟨#[]⟩, .string ⟨#[]⟩, .string ⟨#[]⟩, .int .i64 0, .int .i64 0, .int .i64 0, .string ⟨#[]⟩] 35) = W.alloc (.cells (cellsB noM) 35)) := fun _ => rfl
  obtain ⟨W, hW, hB, hK, hX⟩ := two_blocks w m
  have ho := hr.one
  have hc : W.cell? ⟨w.heap.size, 21, none⟩ = (cellsM m)[21]? := hK.cell 21
  simp only [cellsM, List.getElem?_cons_zero, List.getElem?_cons_succ] at hc
  have hf := hK.frozen 21
  have hK2 := hK.set (m' := putM m (.slice none 0 0) (.slice none 0 0) 17) 21 (.string ⟨#[120]⟩) rfl
  have hX2 := hX.apart (a := ⟨w.heap.size, 21, none⟩) (by show w.heap.size + 1 ≠ w.heap.size; omega) (.string ⟨#[120]⟩)
  have hB2 := hB.setCell (p := ⟨w.heap.size, 21, none⟩) (Nat.le_refl _) (.string ⟨#[120]⟩)
  have hone := Lib.hid (cellsB_one (putM m (.slice none 0 0) (.slice none 0 0) 17) ho.1 ho.2)
  have HX := Lib.hid (hX2.setRow (putM m (.slice none 0 0) (.slice none 0 0) 17))
  have hsz : Hid ((cellsB (putM m (.slice none 0 0) (.slice none 0 0) 17)).size = 39) := rfl
  unfold BlkM at HX hK2
  unfold msgV
  generalize cellsB (putM m (.slice none 0 0) (.slice none 0 0) 17) = cp at *
  have hi : (Tryd.prog.info? 35).map (·.size) = some cp.size := by rw [hsz.out]; exact info_msg
  have hs2 : (cellsB noM).size = cp.size := by rw [hsz.out]; rfl
  replace hi := Lib.hid hi
  replace hs2 := Lib.hid hs2
  replace hW := Lib.hid hW
  replace hB2 := Lib.hid hB2
  replace hK2 := Lib.hid hK2
  replace hX2 := Lib.hid hX2
  clear hB hK hX ho hr
  go_enter Tryd.func24, Tryd.ntmps24
  go_upto_region 1 with fail
  simp only [hz.out, hW.out]
  go_wp2_with (first
    | (refine wpList_load_row rfl 35 _ rfl w.heap.size rfl 35 cp (0, 0) _ hK2.out Tryd.underlying35 rfl hi.out ?_)
    | (refine wpList_store_row rfl 35 _ _ rfl (w.heap.size + 1) cp rfl rfl 35 (cellsB noM) hX2.out hi.out hs2.out hone.out ?_))
  refine bodyPost_ret (results_cell_row rfl _ _ (w.heap.size + 1) 35 cp (0, 0) _ rfl HX.out Tryd.underlying35 rfl hi.out) rfl ?_
  exact ⟨rfl, below_setRow hB2.out (Nat.le_succ _) _⟩

set_option maxRecDepth 100000 in
set_option maxHeartbeats 3200000 in
theorem put_18 (m : MM) (w : World) (hr : RowM w m) :
    Calls Tryd.prog 24 #[msgV m, .int .u8 115] w fun e w' => e = .returned (msgV (putM m (.slice none 0 0) (.slice none 0 0) 18)) ∧ Below w.heap.size w w' := by
  have hz : Hid (∀ W : World, W.alloc (.cells #[.int .i64 0, .int .i64 0, .int .i64 0, .int .i64 0, .int .i64 0, .int .i64 0, .int .i64 0, .string ⟨#[]⟩, .string ⟨#[]⟩, .string ⟨#[]⟩, .slice none 0 0, .slice none 0 0, .int .i64 0, .int .i64 0, .int .i64 0, .int .i64 0, .int .i64 0, .int .i64 0, .string ⟨#[]⟩, .int .i64 0, .int .i64 0, .string ⟨#[]⟩, .int .i64 0, .int .i64 0, .int .i64 0, .int .i64 0, .int .i64 0, .int .i64 0, .int .i64 0, .int .i64 0, .int .i64 0, .string ⟨#[]⟩, .string ⟨#[]⟩, .string ⟨#[]⟩, .string ⟨#[]⟩, .int .i64 0, .int .i64 0, .int .i64 0, .string ⟨#[]⟩] 35) = W.alloc (.cells (cellsB noM) 35)) := fun _ => rfl
  obtain ⟨W, hW, hB, hK, hX⟩ := two_blocks w m
  have ho := hr.one
  have hc : W.cell? ⟨w.heap.size, 31, none⟩ = (cellsM m)[31]? := hK.cell 31
  simp only [cellsM, List.getElem?_cons_zero, List.getElem?_cons_succ] at hc
  have hf := hK.frozen 31
  have hK2 := hK.set (m' := putM m (.slice none 0 0) (.slice none 0 0) 18) 31 (.string ⟨#[120]⟩) rfl
  have hX2 := hX.apart (a := ⟨w.heap.size, 31, none⟩) (by show w.heap.size + 1 ≠ w.heap.size; omega) (.string ⟨#[120]⟩)
  have hB2 := hB.setCell (p := ⟨w.heap.size, 31, none⟩) (Nat.le_refl _) (.string ⟨#[120]⟩)
  have hone := Lib.hid (cellsB_one (putM m (.slice none 0 0) (.slice none 0 0) 18) ho.1 ho.2)
  have HX := Lib.hid (hX2.setRow (putM m (.slice none 0 0) (.slice none 0 0) 18))
  have hsz : Hid ((cellsB (putM m (.slice none 0 0) (.slice none 0 0) 18)).size = 39) := rfl
  unfold BlkM at HX hK2
  unfold msgV
  generalize cellsB (putM m (.slice none 0 0) (.slice none 0 0) 18) = cp at *
  have hi : (Tryd.prog.info? 35).map (·.size) = some cp.size := by rw [hsz.out]; exact info_msg
  have hs2 : (cellsB noM).size = cp.size := by rw [hsz.out]; rfl
  replace hi := Lib.hid hi
  replace hs2 := Lib.hid hs2
  replace hW := Lib.hid hW
  replace hB2 := Lib.hid hB2
  replace hK2 := Lib.hid hK2
  replace hX2 := Lib.hid hX2
  clear hB hK hX ho hr
  go_enter Tryd.func24, Tryd.ntmps24
  go_upto_region 1 with fail
  simp only [hz.out, hW.out]
  go_wp2_with (first
    | (refine wpList_load_row rfl 35 _ rfl w.heap.size rfl 35 cp (0, 0) _ hK2.out Tryd.underlying35 rfl hi.out ?_)
    | (refine wpList_store_row rfl 35 _ _ rfl (w.heap.size + 1) cp rfl rfl 35 (cellsB noM) hX2.out hi.out hs2.out hone.out ?_))
  refine bodyPost_ret (results_cell_row rfl _ _ (w.heap.size + 1) 35 cp (0, 0) _ rfl HX.out Tryd.underlying35 rfl hi.out) rfl ?_
  exact ⟨rfl, below_setRow hB2.out (Nat.le_succ _) _⟩

set_option maxRecDepth 100000 in
set_option maxHeartbeats 3200000 in
theorem put_19 (m : MM) (w : World) (hr : RowM w m) :
    Calls Tryd.prog 24 #[msgV m, .int .u8 69] w fun e w' => e = .returned (msgV (putM m (.slice none 0 0) (.slice none 0 0) 19)) ∧ Below w.heap.size w w' := by
  have hz : Hid (∀ W : World, W.alloc (.cells #[.int .i64 0, .int .i64 0, .int .i64 0, .int .i64 0, .int .i64 0, .int .i64 0, .int .i64 0, .string ⟨#[]⟩, .string ⟨#[]⟩, .string ⟨#[]⟩, .slice none 0 0, .slice none 0 0, .int .i64 0, .int .i64 0, .int .i64 0, .int .i64 0, .int .i64 0, .int .i64 0, .string ⟨#[]⟩, .int .i64 0, .int .i64 0, .string ⟨#[]⟩, .int .i64 0, .int .i64 0, .int .i64 0, .int .i64 0, .int .i64 0, .int .i64 0, .int .i64 0, .int .i64 0, .int .i64 0, .string ⟨#[]⟩, .string ⟨#[]⟩, .string ⟨#[]⟩, .string ⟨#[]⟩, .int .i64 0, .int .i64 0, .int .i64 0, .string ⟨#[]⟩] 35) = W.alloc (.cells (cellsB noM) 35)) := fun _ => rfl
  obtain ⟨W, hW, hB, hK, hX⟩ := two_blocks w m
  have ho := hr.one
  have hc : W.cell? ⟨w.heap.size, 35, none⟩ = (cellsM m)[35]? := hK.cell 35
  simp only [cellsM, List.getElem?_cons_zero, List.getElem?_cons_succ] at hc
  have hf := hK.frozen 35
  have hK2 := hK.set (m' := putM m (.slice none 0 0) (.slice none 0 0) 19) 35 (.int .i64 1) rfl
  have hX2 := hX.apart (a := ⟨w.heap.size, 35, none⟩) (by show w.heap.size + 1 ≠ w.heap.size; omega) (.int .i64 1)
  have hB2 := hB.setCell (p := ⟨w.heap.size, 35, none⟩) (Nat.le_refl _) (.int .i64 1)
  have hone := Lib.hid (cellsB_one (putM m (.slice none 0 0) (.slice none 0 0) 19) ho.1 ho.2)
  have HX := Lib.hid (hX2.setRow (putM m (.slice none 0 0) (.slice none 0 0) 19))
  have hsz : Hid ((cellsB (putM m (.slice none 0 0) (.slice none 0 0) 19)).size = 39) := rfl
  unfold BlkM at HX hK2
  unfold msgV
  generalize cellsB (putM m (.slice none 0 0) (.slice none 0 0) 19) = cp at *
  have hi : (Tryd.prog.info? 35).map (·.size) = some cp.size := by rw [hsz.out]; exact info_msg
  have hs2 : (cellsB noM).size = cp.size := by rw [hsz.out]; rfl
  replace hi := Lib.hid hi
  replace hs2 := Lib.hid hs2
  replace hW := Lib.hid hW
  replace hB2 := Lib.hid hB2
  replace hK2 := Lib.hid hK2
  replace hX2 := Lib.hid hX2
  clear hB hK hX ho hr
  go_enter Tryd.func24, Tryd.ntmps24
  go_upto_region 1 with fail
  simp only [hz.out, hW.out]
  go_wp2_with (first
    | (refine wpList_load_row rfl 35 _ rfl w.heap.size rfl 35 cp (0, 0) _ hK2.out Tryd.underlying35 rfl hi.out ?_)
    | (refine wpList_store_row rfl 35 _ _ rfl (w.heap.size + 1) cp rfl rfl 35 (cellsB noM) hX2.out hi.out hs2.out hone.out ?_))
  refine bodyPost_ret (results_cell_row rfl _ _ (w.heap.size + 1) 35 cp (0, 0) _ rfl HX.out Tryd.underlying35 rfl hi.out) rfl ?_
  exact ⟨rfl, below_setRow hB2.out (Nat.le_succ _) _⟩

set_option maxRecDepth 100000 in
set_option maxHeartbeats 3200000 in
theorem put_20 (m : MM) (w : World) (hr : RowM w m) :
    Calls Tryd.prog 24 #[msgV m, .int .u8 108] w fun e w' => e = .returned (msgV (putM m (.slice none 0 0) (.slice none 0 0) 20)) ∧ Below w.heap.size w w' := by
  have hz : Hid (∀ W : World, W.alloc (.cells #[.int .i64 0, .int .i64 0, .int .i64 0, .int .i64 0, .int .i64 0, .int .i64 0, .int .i64 0, .string ⟨#[]⟩, .string ⟨#[]⟩, .string ⟨#[]⟩, .slice none 0 0, .slice none 0 0, .int .i64 0, .int .i64 0, .int .i64 0, .int .i64 0, .int .i64 0, .int .i64 0, .string ⟨#[]⟩, .int .i64 0, .int .i64 0, .string ⟨#[]⟩, .int .i64 0, .int .i64 0, .int .i64 0, .int .i64 0, .int .i64 0, .int .i64 0, .int .i64 0, .int .i64 0, .int .i64 0, .string ⟨#[]⟩, .string ⟨#[]⟩, .string ⟨#[]⟩, .string ⟨#[]⟩, .int .i64 0, .int .i64 0, .int .i64 0, .string ⟨#[]⟩] 35) = W.alloc (.cells (cellsB noM) 35)) := fun _ => rfl
  obtain ⟨W, hW, hB, hK, hX⟩ := two_blocks w m
  have ho := hr.one
  have hc : W.cell? ⟨w.heap.size, 36, none⟩ = (cellsM m)[36]? := hK.cell 36
  simp only [cellsM, List.getElem?_cons_zero, List.getElem?_cons_succ] at hc
  have hf := hK.frozen 36
  have hK2 := hK.set (m' := putM m (.slice none 0 0) (.slice none 0 0) 20) 36 (.int .i64 1) rfl
  have hX2 := hX.apart (a := ⟨w.heap.size, 36, none⟩) (by show w.heap.size + 1 ≠ w.heap.size; omega) (.int .i64 1)
  have hB2 := hB.setCell (p := ⟨w.heap.size, 36, none⟩) (Nat.le_refl _) (.int .i64 1)
  have hone := Lib.hid (cellsB_one (putM m (.slice none 0 0) (.slice none 0 0) 20) ho.1 ho.2)
  have HX := Lib.hid (hX2.setRow (putM m (.slice none 0 0) (.slice none 0 0) 20))
  have hsz : Hid ((cellsB (putM m (.slice none 0 0) (.slice none 0 0) 20)).size = 39) := rfl
  unfold BlkM at HX hK2
  unfold msgV
  generalize cellsB (putM m (.slice none 0 0) (.slice none 0 0) 20) = cp at *
  have hi : (Tryd.prog.info? 35).map (·.size) = some cp.size := by rw [hsz.out]; exact info_msg
  have hs2 : (cellsB noM).size = cp.size := by rw [hsz.out]; rfl
  replace hi := Lib.hid hi
  replace hs2 := Lib.hid hs2
  replace hW := Lib.hid hW
  replace hB2 := Lib.hid hB2
  replace hK2 := Lib.hid hK2
  replace hX2 := Lib.hid hX2
  clear hB hK hX ho hr
  go_enter Tryd.func24, Tryd.ntmps24
  go_upto_region 1 with fail
  simp only [hz.out, hW.out]
  go_wp2_with (first
    | (refine wpList_load_row rfl 35 _ rfl w.heap.size rfl 35 cp (0, 0) _ hK2.out Tryd.underlying35 rfl hi.out ?_)
    | (refine wpList_store_row rfl 35 _ _ rfl (w.heap.size + 1) cp rfl rfl 35 (cellsB noM) hX2.out hi.out hs2.out hone.out ?_))
  refine bodyPost_ret (results_cell_row rfl _ _ (w.heap.size + 1) 35 cp (0, 0) _ rfl HX.out Tryd.underlying35 rfl hi.out) rfl ?_
  exact ⟨rfl, below_setRow hB2.out (Nat.le_succ _) _⟩

set_option maxRecDepth 100000 in
set_option maxHeartbeats 3200000 in
theorem put_21 (m : MM) (w : World) (hr : RowM w m) :
    Calls Tryd.prog 24 #[msgV m, .int .u8 84] w fun e w' => e = .returned (msgV (putM m (.slice none 0 0) (.slice none 0 0) 21)) ∧ Below w.heap.size w w' := by
  have hz : Hid (∀ W : World, W.alloc (.cells #[.int .i64 0, .int .i64 0, .int .i64 0, .int .i64 0, .int .i64 0, .int .i64 0, .int .i64 0, .string ⟨#[]⟩, .string ⟨#[]⟩, .string ⟨#[]⟩, .slice none 0 0, .slice none 0 0, .int .i64 0, .int .i64 0, .int .i64 0, .int .i64 0, .int .i64 0, .int .i64 0, .string ⟨#[]⟩, .int .i64 0, .int .i64 0, .string ⟨#[]⟩, .int .i64 0, .int .i64 0, .int .i64 0, .int .i64 0, .int .i64 0, .int .i64 0, .int .i64 0, .int .i64 0, .int .i64 0, .string ⟨#[]⟩, .string ⟨#[]⟩, .string ⟨#[]⟩, .string ⟨#[]⟩, .int .i64 0, .int .i64 0, .int .i64 0, .string ⟨#[]⟩] 35) = W.alloc (.cells (cellsB noM) 35)) := fun _ => rfl
  obtain ⟨W, hW, hB, hK, hX⟩ := two_blocks w m
  have ho := hr.one
  have hc : W.cell? ⟨w.heap.size, 37, none⟩ = (cellsM m)[37]? := hK.cell 37
  simp only [cellsM, List.getElem?_cons_zero, List.getElem?_cons_succ] at hc
  have hf := hK.frozen 37
  have hK2 := hK.set (m' := putM m (.slice none 0 0) (.slice none 0 0) 21) 37 (.int .i64 1) rfl
  have hX2 := hX.apart (a := ⟨w.heap.size, 37, none⟩) (by show w.heap.size + 1 ≠ w.heap.size; omega) (.int .i64 1)
  have hB2 := hB.setCell (p := ⟨w.heap.size, 37, none⟩) (Nat.le_refl _) (.int .i64 1)
  have hone := Lib.hid (cellsB_one (putM m (.slice none 0 0) (.slice none 0 0) 21) ho.1 ho.2)
  have HX := Lib.hid (hX2.setRow (putM m (.slice none 0 0) (.slice none 0 0) 21))
  have hsz : Hid ((cellsB (putM m (.slice none 0 0) (.slice none 0 0) 21)).size = 39) := rfl
  unfold BlkM at HX hK2
  unfold msgV
  generalize cellsB (putM m (.slice none 0 0) (.slice none 0 0) 21) = cp at *
  have hi : (Tryd.prog.info? 35).map (·.size) = some cp.size := by rw [hsz.out]; exact info_msg
  have hs2 : (cellsB noM).size = cp.size := by rw [hsz.out]; rfl
  replace hi := Lib.hid hi
  replace hs2 := Lib.hid hs2
  replace hW := Lib.hid hW
  replace hB2 := Lib.hid hB2
  replace hK2 := Lib.hid hK2
  replace hX2 := Lib.hid hX2
  clear hB hK hX ho hr
  go_enter Tryd.func24, Tryd.ntmps24
  go_upto_region 1 with fail
  simp only [hz.out, hW.out]
  go_wp2_with (first
    | (refine wpList_load_row rfl 35 _ rfl w.heap.size rfl 35 cp (0, 0) _ hK2.out Tryd.underlying35 rfl hi.out ?_)
    | (refine wpList_store_row rfl 35 _ _ rfl (w.heap.size + 1) cp rfl rfl 35 (cellsB noM) hX2.out hi.out hs2.out hone.out ?_))
  refine bodyPost_ret (results_cell_row rfl _ _ (w.heap.size + 1) 35 cp (0, 0) _ rfl HX.out Tryd.underlying35 rfl hi.out) rfl ?_
  exact ⟨rfl, below_setRow hB2.out (Nat.le_succ _) _⟩

set_option maxRecDepth 100000 in
set_option maxHeartbeats 3200000 in
theorem put_22 (m : MM) (w : World) (hr : RowM w m) :
    Calls Tryd.prog 24 #[msgV m, .int .u8 83] w fun e w' => e = .returned (msgV (putM m (.slice none 0 0) (.slice none 0 0) 22)) ∧ Below w.heap.size w w' := by
  have hz : Hid (∀ W : World, W.alloc (.cells #[.int .i64 0, .int .i64 0, .int .i64 0, .int .i64 0, .int .i64 0, .int .i64 0, .int .i64 0, .string ⟨#[]⟩, .string ⟨#[]⟩, .string ⟨#[]⟩, .slice none 0 0, .slice none 0 0, .int .i64 0, .int .i64 0, .int .i64 0, .int .i64 0, .int .i64 0, .int .i64 0, .string ⟨#[]⟩, .int .i64 0, .int .i64 0, .string ⟨#[]⟩, .int .i64 0, .int .i64 0, .int .i64 0, .int .i64 0, .int .i64 0, .int .i64 0, .int .i64 0, .int .i64 0, .int .i64 0, .string ⟨#[]⟩, .string ⟨#[]⟩, .string ⟨#[]⟩, .string ⟨#[]⟩, .int .i64 0, .int .i64 0, .int .i64 0, .string ⟨#[]⟩] 35) = W.alloc (.cells (cellsB noM) 35)) := fun _ => rfl
  obtain ⟨W, hW, hB, hK, hX⟩ := two_blocks w m
  have ho := hr.one
  have hc : W.cell? ⟨w.heap.size, 38, none⟩ = (cellsM m)[38]? := hK.cell 38
  simp only [cellsM, List.getElem?_cons_zero, List.getElem?_cons_succ] at hc
  have hf := hK.frozen 38
  have hK2 := hK.set (m' := putM m (.slice none 0 0) (.slice none 0 0) 22) 38 (.string ⟨#[120]⟩) rfl
  have hX2 := hX.apart (a := ⟨w.heap.size, 38, none⟩) (by show w.heap.size + 1 ≠ w.heap.size; omega) (.string ⟨#[120]⟩)
  have hB2 := hB.setCell (p := ⟨w.heap.size, 38, none⟩) (Nat.le_refl _) (.string ⟨#[120]⟩)
  have hone := Lib.hid (cellsB_one (putM m (.slice none 0 0) (.slice none 0 0) 22) ho.1 ho.2)
  have HX := Lib.hid (hX2.setRow (putM m (.slice none 0 0) (.slice none 0 0) 22))
  have hsz : Hid ((cellsB (putM m (.slice none 0 0) (.slice none 0 0) 22)).size = 39) := rfl
  unfold BlkM at HX hK2
  unfold msgV
  generalize cellsB (putM m (.slice none 0 0) (.slice none 0 0) 22) = cp at *
  have hi : (Tryd.prog.info? 35).map (·.size) = some cp.size := by rw [hsz.out]; exact info_msg
  have hs2 : (cellsB noM).size = cp.size := by rw [hsz.out]; rfl
  replace hi := Lib.hid hi
  replace hs2 := Lib.hid hs2
  replace hW := Lib.hid hW
  replace hB2 := Lib.hid hB2
  replace hK2 := Lib.hid hK2
  replace hX2 := Lib.hid hX2
  clear hB hK hX ho hr
  go_enter Tryd.func24, Tryd.ntmps24
  go_upto_region 1 with fail
  simp only [hz.out, hW.out]
  go_wp2_with (first
    | (refine wpList_load_row rfl 35 _ rfl w.heap.size rfl 35 cp (0, 0) _ hK2.out Tryd.underlying35 rfl hi.out ?_)
    | (refine wpList_store_row rfl 35 _ _ rfl (w.heap.size + 1) cp rfl rfl 35 (cellsB noM) hX2.out hi.out hs2.out hone.out ?_))
  refine bodyPost_ret (results_cell_row rfl _ _ (w.heap.size + 1) 35 cp (0, 0) _ rfl HX.out Tryd.underlying35 rfl hi.out) rfl ?_
  exact ⟨rfl, below_setRow hB2.out (Nat.le_succ _) _⟩

set_option maxRecDepth 100000 in
set_option maxHeartbeats 3200000 in
theorem put_8 (m : MM) (w : World) (hr : RowM w m) :
    Calls Tryd.prog 24 #[msgV m, .int .u8 78] w fun e w' => e = .returned (msgV (putM m (.slice (some ⟨w.heap.size + 2, 0, none⟩) 1 1) (.slice none 0 0) 8)) ∧ Below w.heap.size w w' ∧ SRow w' (.slice (some ⟨w.heap.size + 2, 0, none⟩) 1 1) [[120]] := by
  have hz : Hid (∀ W : World, W.alloc (.cells #[.int .i64 0, .int .i64 0, .int .i64 0, .int .i64 0, .int .i64 0, .int .i64 0, .int .i64 0, .string ⟨#[]⟩, .string ⟨#[]⟩, .string ⟨#[]⟩, .slice none 0 0, .slice none 0 0, .int .i64 0, .int .i64 0, .int .i64 0, .int .i64 0, .int .i64 0, .int .i64 0, .string ⟨#[]⟩, .int .i64 0, .int .i64 0, .string ⟨#[]⟩, .int .i64 0, .int .i64 0, .int .i64 0, .int .i64 0, .int .i64 0, .int .i64 0, .int .i64 0, .int .i64 0, .int .i64 0, .string ⟨#[]⟩, .string ⟨#[]⟩, .string ⟨#[]⟩, .string ⟨#[]⟩, .int .i64 0, .int .i64 0, .int .i64 0, .string ⟨#[]⟩] 35) = W.alloc (.cells (cellsB noM) 35)) := fun _ => rfl
  obtain ⟨W, hW, hB, hK, hX⟩ := two_blocks w m
  have hs : W.heap.size = w.heap.size + 2 := by rw [← hW]; simp
  have ho := hr.one
  have hKa := hK.alloc (.cells #[.string ⟨#[120]⟩] 9)
  have hc : (W.alloc (.cells #[.string ⟨#[120]⟩] 9)).cell? ⟨w.heap.size, 10, none⟩ = (cellsM m)[10]? := hKa.cell 10
  simp only [cellsM, List.getElem?_cons_zero, List.getElem?_cons_succ] at hc
  have hf := hKa.frozen 10
  have hK2 := (hK.set (m' := putM m (.slice (some ⟨w.heap.size + 2, 0, none⟩) 1 1) (.slice none 0 0) 8) 10 (.slice (some ⟨w.heap.size + 2, 0, none⟩) 1 1) rfl).alloc (.cells #[.string ⟨#[120]⟩] 9)
  have hX2 := (hX.apart (a := ⟨w.heap.size, 10, none⟩) (by show w.heap.size + 1 ≠ w.heap.size; omega) (.slice (some ⟨w.heap.size + 2, 0, none⟩) 1 1)).alloc (.cells #[.string ⟨#[120]⟩] 9)
  have hB2' := hB.setCell (p := ⟨w.heap.size, 10, none⟩) (Nat.le_refl _) (.slice (some ⟨w.heap.size + 2, 0, none⟩) 1 1)
  have hB2 := hB2'.alloc hB2'.size (.cells #[.string ⟨#[120]⟩] 9)
  have hN : ((W.setCell ⟨w.heap.size, 10, none⟩ (.slice (some ⟨w.heap.size + 2, 0, none⟩) 1 1)).alloc (.cells #[.string ⟨#[120]⟩] 9)).heap[w.heap.size + 2]? = some (.cells #[.string ⟨#[120]⟩] 9 (0, 0)) := by
    have h := heap_alloc_new (W.setCell ⟨w.heap.size, 10, none⟩ (.slice (some ⟨w.heap.size + 2, 0, none⟩) 1 1)) (.cells #[.string ⟨#[120]⟩] 9)
    rwa [show (W.setCell ⟨w.heap.size, 10, none⟩ (.slice (some ⟨w.heap.size + 2, 0, none⟩) 1 1)).heap.size = w.heap.size + 2 by simp [hs]] at h
  have hone := Lib.hid (cellsB_one (putM m (.slice (some ⟨w.heap.size + 2, 0, none⟩) 1 1) (.slice none 0 0) 8) rfl ho.2)
  have HX := Lib.hid (hX2.setRow (putM m (.slice (some ⟨w.heap.size + 2, 0, none⟩) 1 1) (.slice none 0 0) 8))
  clear hB hK hX ho hr hKa hB2'
  have hsz : Hid ((cellsB (putM m (.slice (some ⟨w.heap.size + 2, 0, none⟩) 1 1) (.slice none 0 0) 8)).size = 39) := rfl
  unfold BlkM at HX hK2
  unfold msgV
  generalize cellsB (putM m (.slice (some ⟨w.heap.size + 2, 0, none⟩) 1 1) (.slice none 0 0) 8) = cp at *
  have hi : (Tryd.prog.info? 35).map (·.size) = some cp.size := by rw [hsz.out]; exact info_msg
  have hs2 : (cellsB noM).size = cp.size := by rw [hsz.out]; rfl
  replace hi := Lib.hid hi
  replace hs2 := Lib.hid hs2
  replace hW := Lib.hid hW
  replace hB2 := Lib.hid hB2
  replace hK2 := Lib.hid hK2
  replace hX2 := Lib.hid hX2
  replace hN := Lib.hid hN
  go_enter Tryd.func24, Tryd.ntmps24
  go_upto_region 1 with fail
  simp only [hz.out, hW.out]
  go_wp2_with (first
    | (refine wpList_load_row rfl 35 _ rfl w.heap.size rfl 35 cp (0, 0) _ hK2.out Tryd.underlying35 rfl hi.out ?_)
    | (refine wpList_store_row rfl 35 _ _ rfl (w.heap.size + 1) cp rfl rfl 35 (cellsB noM) hX2.out hi.out hs2.out hone.out ?_))
  refine bodyPost_ret (results_cell_row rfl _ _ (w.heap.size + 1) 35 cp (0, 0) _ rfl HX.out Tryd.underlying35 rfl hi.out) rfl ?_
  exact ⟨rfl, below_setRow hB2.out (Nat.le_succ _) _, srow_one ((setRow_other _ _ _ _ (by omega)).trans hN.out)⟩

set_option maxRecDepth 100000 in
set_option maxHeartbeats 3200000 in
theorem put_9 (m : MM) (w : World) (hr : RowM w m) :
    Calls Tryd.prog 24 #[msgV m, .int .u8 81] w fun e w' => e = .returned (msgV (putM m (.slice none 0 0) (.slice (some ⟨w.heap.size + 2, 0, none⟩) 1 1) 9)) ∧ Below w.heap.size w w' ∧ QRow w' (.slice (some ⟨w.heap.size + 2, 0, none⟩) 1 1) [⟨0, 0, 1⟩] := by
  have hz : Hid (∀ W : World, W.alloc (.cells #[.int .i64 0, .int .i64 0, .int .i64 0, .int .i64 0, .int .i64 0, .int .i64 0, .int .i64 0, .string ⟨#[]⟩, .string ⟨#[]⟩, .string ⟨#[]⟩, .slice none 0 0, .slice none 0 0, .int .i64 0, .int .i64 0, .int .i64 0, .int .i64 0, .int .i64 0, .int .i64 0, .string ⟨#[]⟩, .int .i64 0, .int .i64 0, .string ⟨#[]⟩, .int .i64 0, .int .i64 0, .int .i64 0, .int .i64 0, .int .i64 0, .int .i64 0, .int .i64 0, .int .i64 0, .int .i64 0, .string ⟨#[]⟩, .string ⟨#[]⟩, .string ⟨#[]⟩, .string ⟨#[]⟩, .int .i64 0, .int .i64 0, .int .i64 0, .string ⟨#[]⟩] 35) = W.alloc (.cells (cellsB noM) 35)) := fun _ => rfl
  obtain ⟨W, hW, hB, hK, hX⟩ := two_blocks w m
  have hs : W.heap.size = w.heap.size + 2 := by rw [← hW]; simp
  have ho := hr.one
  have hKa := hK.alloc (.cells #[.int .i64 0, .int .i64 0, .int .i64 1] 30)
  have hc : (W.alloc (.cells #[.int .i64 0, .int .i64 0, .int .i64 1] 30)).cell? ⟨w.heap.size, 11, none⟩ = (cellsM m)[11]? := hKa.cell 11
  simp only [cellsM, List.getElem?_cons_zero, List.getElem?_cons_succ] at hc
  have hf := hKa.frozen 11
  have hK2 := (hK.set (m' := putM m (.slice none 0 0) (.slice (some ⟨w.heap.size + 2, 0, none⟩) 1 1) 9) 11 (.slice (some ⟨w.heap.size + 2, 0, none⟩) 1 1) rfl).alloc (.cells #[.int .i64 0, .int .i64 0, .int .i64 1] 30)
  have hX2 := (hX.apart (a := ⟨w.heap.size, 11, none⟩) (by show w.heap.size + 1 ≠ w.heap.size; omega) (.slice (some ⟨w.heap.size + 2, 0, none⟩) 1 1)).alloc (.cells #[.int .i64 0, .int .i64 0, .int .i64 1] 30)
  have hB2' := hB.setCell (p := ⟨w.heap.size, 11, none⟩) (Nat.le_refl _) (.slice (some ⟨w.heap.size + 2, 0, none⟩) 1 1)
  have hB2 := hB2'.alloc hB2'.size (.cells #[.int .i64 0, .int .i64 0, .int .i64 1] 30)
  have hN : ((W.setCell ⟨w.heap.size, 11, none⟩ (.slice (some ⟨w.heap.size + 2, 0, none⟩) 1 1)).alloc (.cells #[.int .i64 0, .int .i64 0, .int .i64 1] 30)).heap[w.heap.size + 2]? = some (.cells #[.int .i64 0, .int .i64 0, .int .i64 1] 30 (0, 0)) := by
    have h := heap_alloc_new (W.setCell ⟨w.heap.size, 11, none⟩ (.slice (some ⟨w.heap.size + 2, 0, none⟩) 1 1)) (.cells #[.int .i64 0, .int .i64 0, .int .i64 1] 30)
    rwa [show (W.setCell ⟨w.heap.size, 11, none⟩ (.slice (some ⟨w.heap.size + 2, 0, none⟩) 1 1)).heap.size = w.heap.size + 2 by simp [hs]] at h
  have hone := Lib.hid (cellsB_one (putM m (.slice none 0 0) (.slice (some ⟨w.heap.size + 2, 0, none⟩) 1 1) 9) ho.1 rfl)
  have HX := Lib.hid (hX2.setRow (putM m (.slice none 0 0) (.slice (some ⟨w.heap.size + 2, 0, none⟩) 1 1) 9))
  clear hB hK hX ho hr hKa hB2'
  have hsz : Hid ((cellsB (putM m (.slice none 0 0) (.slice (some ⟨w.heap.size + 2, 0, none⟩) 1 1) 9)).size = 39) := rfl
  unfold BlkM at HX hK2
  unfold msgV
  generalize cellsB (putM m (.slice none 0 0) (.slice (some ⟨w.heap.size + 2, 0, none⟩) 1 1) 9) = cp at *
  have hi : (Tryd.prog.info? 35).map (·.size) = some cp.size := by rw [hsz.out]; exact info_msg
  have hs2 : (cellsB noM).size = cp.size := by rw [hsz.out]; rfl
  replace hi := Lib.hid hi
  replace hs2 := Lib.hid hs2
  replace hW := Lib.hid hW
  replace hB2 := Lib.hid hB2
  replace hK2 := Lib.hid hK2
  replace hX2 := Lib.hid hX2
  replace hN := Lib.hid hN
  go_enter Tryd.func24, Tryd.ntmps24
  go_upto_region 1 with fail
  simp only [hz.out, hW.out]
  go_wp2_with (first
    | (refine wpList_load_row rfl 35 _ rfl w.heap.size rfl 35 cp (0, 0) _ hK2.out Tryd.underlying35 rfl hi.out ?_)
    | (refine wpList_store_row rfl 35 _ _ rfl (w.heap.size + 1) cp rfl rfl 35 (cellsB noM) hX2.out hi.out hs2.out hone.out ?_))
  refine bodyPost_ret (results_cell_row rfl _ _ (w.heap.size + 1) 35 cp (0, 0) _ rfl HX.out Tryd.underlying35 rfl hi.out) rfl ?_
  exact ⟨rfl, below_setRow hB2.out (Nat.le_succ _) _, qrow_one ((setRow_other _ _ _ _ (by omega)).trans hN.out)⟩
end Go.Proofs.YtlfdmbfbfadifaaDoor
