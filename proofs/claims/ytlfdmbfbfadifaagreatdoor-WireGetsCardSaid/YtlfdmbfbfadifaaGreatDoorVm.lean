/-
  The reference's reader: numbers.
  The reference's reader: numbers, a qid.
  The reference's reader: texts.
-/
import Derived.Test.YtlfdmbfbfadifaaGreatDoorVi
namespace Go.Proofs.YtlfdmbfbfadifaaGreatDoor
open Go.RowKit

set_option maxHeartbeats 4000000 in
set_option maxRecDepth 100000 in
theorem rd_0 (m : MM) (x : XS) (hs : x.S.length ≤ 1000000) (hv : m.nv.oneCell' = true ∧ m.qv.oneCell' = true) (w : World) :
    Calls Tryz.prog 30 #[inV x, msgV m, .int .i64 8] w fun e w' => e = .returned (.tuple #[inV (qF m x 0).2, msgV (qF m x 0).1]) ∧ Below w.heap.size w w' := by
  have HN := Lib.hid (fun W => Xnum x 4 4 rfl hs W)
  have hz := zero_in
  have hzm := zero_msgW
  obtain ⟨W0, hW0, hS0⟩ := RSt.new w x m
  have hq : Hid (qF m x 0 = ({ m with fi := (qN x 4).1 }, (qN x 4).2)) := Lib.hid rfl
  rw [hq.out]
  clear hq
  dsimp only
  generalize (qN x 4).2 = y at *
  generalize (qN x 4).1 = v at *
  replace hW0 := Lib.hid hW0
  replace hS0 := Lib.hid hS0
  have hone := Lib.hid (cellsB_one { m with fi := v } hv.1 hv.2)
  have hm' : Hid ((cellsB m).setIfInBounds 2 (.int .i64 v) = cellsB { m with fi := v }) := Lib.hid (setB_0 m v)
  have hc : (cellsB m)[2]? = some (.int .i64 m.fi) := rfl
  generalize ({ m with fi := v } : MM) = mm at *
  unfold inV msgV at *
  go_enter Tryz.func30, Tryz.ntmps30
  go_wp2_with (first
    | (simp only [hz.out, hzm.out, hW0.out])
    | (refine wpList_load_row rfl 66 _ rfl w.heap.size rfl 66 (cellsI x) (0, 0) _ hS0.out.inB Tryz.underlying66 rfl (info_inC x) ?_))
  refine (HN.out _).mono ?_
  rintro e W1 ⟨rfl, hB1⟩
  have hS1 := Lib.hid (hS0.out.go hB1)
  clear hB1
  have hs2 := hS1.out.setI y
  obtain ⟨W2, hW2⟩ : ∃ W2, W1.setRow w.heap.size (cellsI y) = W2 := ⟨_, rfl⟩
  rw [hW2] at hs2
  have hS2 := Lib.hid hs2
  replace hW2 := Lib.hid hW2
  have c1 := (hS2.out.msB.cell 2).trans hc
  have f1 := hS2.out.msB.frozen 2
  have hS3 := Lib.hid (hS2.out.setM hm'.out)
  clear hs2
  go_wp2_with (refine wpList_store_row rfl 66 _ _ rfl w.heap.size (cellsI y) rfl rfl 66 (cellsI x) hS1.out.inB (info_inC y) rfl (oneI y) ?_; rw [hW2.out])
  obtain ⟨W3, hW3⟩ : ∃ W3, W2.setCell ⟨w.heap.size + 1, 2, none⟩ (.int .i64 v) = W3 := ⟨_, rfl⟩
  rw [hW3] at hS3 ⊢
  clear hW3 c1 f1 hS2 hW2 hS1 hm' hc
  have hS4 := Lib.hid hS3.out.drew
  clear hS3
  refine wp_region_held_drew (S := fun W => RSx w W y mm) (by kernel_rfl) hS4.out.x (fun hHeld => ?_)
  refine takeD (i := 0) (oi := _) (d := some 159) (v := .agg (cellsI y)) rfl rfl (by kernel_rfl) (by kernel_rfl) (by kernel_rfl) (fun _ _ _ h => h) (yieldsIf_load_row (by rfl) 66 _ rfl w.heap.size rfl (cellsI y) (fun W h => load_In h.inB)) (by assumption) ?_
  try simp only [Act.put, List.setIfInBounds_toArray, List.set_cons_zero, List.set_cons_succ]
  refine takeD (i := 1) (oi := _) (d := some 160) (v := .agg (cellsB mm)) rfl rfl (by kernel_rfl) (by kernel_rfl) (by kernel_rfl) (fun _ _ _ h => h) (yieldsIf_load_row (by rfl) 30 _ rfl (w.heap.size + 1) rfl (cellsB mm) (fun W h => load_msg h.msB)) (by assumption) ?_
  try simp only [Act.put, List.setIfInBounds_toArray, List.set_cons_zero, List.set_cons_succ]
  obtain ⟨f1, f2, f3, f4, f5⟩ := hS4.out.fin
  refine wpAnyH_ready (rs := [2]) (by kernel_rfl) (by simp) ?_
  refine AllReadyH.cons (o := _) rfl (fun K hK => ?_) AllReadyH.nil
  rw [if_pos (by rfl)]
  refine wp_store_row 66 _ _ rfl (w.heap.size + 1 + 1) (cellsI y) rfl rfl 66 (cellsI zeroX) f1 (info_inC y) rfl (oneI y) ?_
  refine hK.out _ _ (RSx.set (by assumption) (by omega) _) (fun hHeld2 => ?_)
  clear hK K
  try simp only [Act.put, List.setIfInBounds_toArray]
  refine wpAnyH_ready (rs := [3]) (by kernel_rfl) (by simp) ?_
  refine AllReadyH.cons (o := _) rfl (fun K hK => ?_) AllReadyH.nil
  rw [if_pos (by rfl)]
  refine wp_store_row 30 _ _ rfl (w.heap.size + 1 + 1 + 1) (cellsB mm) rfl rfl 30 (cellsB noM) f2 (info_msgC mm) rfl hone.out ?_
  refine hK.out _ _ (RSx.set hHeld2 (by omega) _) (fun hHeld3 => ?_)
  clear hK K
  try simp only [Act.put]
  refine wpAnyH_done (by kernel_rfl) ?_ _
  go_wp2
  refine bodyPost_ret (results_IM rfl rfl rfl f3 f4) rfl ⟨rfl, f5⟩

set_option maxHeartbeats 4000000 in
set_option maxRecDepth 100000 in
theorem rd_1 (m : MM) (x : XS) (hs : x.S.length ≤ 1000000) (hv : m.nv.oneCell' = true ∧ m.qv.oneCell' = true) (w : World) :
    Calls Tryz.prog 30 #[inV x, msgV m, .int .i64 11] w fun e w' => e = .returned (.tuple #[inV (qF m x 1).2, msgV (qF m x 1).1]) ∧ Below w.heap.size w w' := by
  have HN := Lib.hid (fun W => Xnum x 4 4 rfl hs W)
  have hz := zero_in
  have hzm := zero_msgW
  obtain ⟨W0, hW0, hS0⟩ := RSt.new w x m
  have hq : Hid (qF m x 1 = ({ m with nf := (qN x 4).1 }, (qN x 4).2)) := Lib.hid rfl
  rw [hq.out]
  clear hq
  dsimp only
  generalize (qN x 4).2 = y at *
  generalize (qN x 4).1 = v at *
  replace hW0 := Lib.hid hW0
  replace hS0 := Lib.hid hS0
  have hone := Lib.hid (cellsB_one { m with nf := v } hv.1 hv.2)
  have hm' : Hid ((cellsB m).setIfInBounds 3 (.int .i64 v) = cellsB { m with nf := v }) := Lib.hid (setB_1 m v)
  have hc : (cellsB m)[3]? = some (.int .i64 m.nf) := rfl
  generalize ({ m with nf := v } : MM) = mm at *
  unfold inV msgV at *
  go_enter Tryz.func30, Tryz.ntmps30
  go_wp2_with (first
    | (simp only [hz.out, hzm.out, hW0.out])
    | (refine wpList_load_row rfl 66 _ rfl w.heap.size rfl 66 (cellsI x) (0, 0) _ hS0.out.inB Tryz.underlying66 rfl (info_inC x) ?_))
  refine (HN.out _).mono ?_
  rintro e W1 ⟨rfl, hB1⟩
  have hS1 := Lib.hid (hS0.out.go hB1)
  clear hB1
  have hs2 := hS1.out.setI y
  obtain ⟨W2, hW2⟩ : ∃ W2, W1.setRow w.heap.size (cellsI y) = W2 := ⟨_, rfl⟩
  rw [hW2] at hs2
  have hS2 := Lib.hid hs2
  replace hW2 := Lib.hid hW2
  have c1 := (hS2.out.msB.cell 3).trans hc
  have f1 := hS2.out.msB.frozen 3
  have hS3 := Lib.hid (hS2.out.setM hm'.out)
  clear hs2
  go_wp2_with (refine wpList_store_row rfl 66 _ _ rfl w.heap.size (cellsI y) rfl rfl 66 (cellsI x) hS1.out.inB (info_inC y) rfl (oneI y) ?_; rw [hW2.out])
  obtain ⟨W3, hW3⟩ : ∃ W3, W2.setCell ⟨w.heap.size + 1, 3, none⟩ (.int .i64 v) = W3 := ⟨_, rfl⟩
  rw [hW3] at hS3 ⊢
  clear hW3 c1 f1 hS2 hW2 hS1 hm' hc
  have hS4 := Lib.hid hS3.out.drew
  clear hS3
  refine wp_region_held_drew (S := fun W => RSx w W y mm) (by kernel_rfl) hS4.out.x (fun hHeld => ?_)
  refine takeD (i := 0) (oi := _) (d := some 159) (v := .agg (cellsI y)) rfl rfl (by kernel_rfl) (by kernel_rfl) (by kernel_rfl) (fun _ _ _ h => h) (yieldsIf_load_row (by rfl) 66 _ rfl w.heap.size rfl (cellsI y) (fun W h => load_In h.inB)) (by assumption) ?_
  try simp only [Act.put, List.setIfInBounds_toArray, List.set_cons_zero, List.set_cons_succ]
  refine takeD (i := 1) (oi := _) (d := some 160) (v := .agg (cellsB mm)) rfl rfl (by kernel_rfl) (by kernel_rfl) (by kernel_rfl) (fun _ _ _ h => h) (yieldsIf_load_row (by rfl) 30 _ rfl (w.heap.size + 1) rfl (cellsB mm) (fun W h => load_msg h.msB)) (by assumption) ?_
  try simp only [Act.put, List.setIfInBounds_toArray, List.set_cons_zero, List.set_cons_succ]
  obtain ⟨f1, f2, f3, f4, f5⟩ := hS4.out.fin
  refine wpAnyH_ready (rs := [2]) (by kernel_rfl) (by simp) ?_
  refine AllReadyH.cons (o := _) rfl (fun K hK => ?_) AllReadyH.nil
  rw [if_pos (by rfl)]
  refine wp_store_row 66 _ _ rfl (w.heap.size + 1 + 1) (cellsI y) rfl rfl 66 (cellsI zeroX) f1 (info_inC y) rfl (oneI y) ?_
  refine hK.out _ _ (RSx.set (by assumption) (by omega) _) (fun hHeld2 => ?_)
  clear hK K
  try simp only [Act.put, List.setIfInBounds_toArray]
  refine wpAnyH_ready (rs := [3]) (by kernel_rfl) (by simp) ?_
  refine AllReadyH.cons (o := _) rfl (fun K hK => ?_) AllReadyH.nil
  rw [if_pos (by rfl)]
  refine wp_store_row 30 _ _ rfl (w.heap.size + 1 + 1 + 1) (cellsB mm) rfl rfl 30 (cellsB noM) f2 (info_msgC mm) rfl hone.out ?_
  refine hK.out _ _ (RSx.set hHeld2 (by omega) _) (fun hHeld3 => ?_)
  clear hK K
  try simp only [Act.put]
  refine wpAnyH_done (by kernel_rfl) ?_ _
  go_wp2
  refine bodyPost_ret (results_IM rfl rfl rfl f3 f4) rfl ⟨rfl, f5⟩

set_option maxHeartbeats 4000000 in
set_option maxRecDepth 100000 in
theorem rd_2 (m : MM) (x : XS) (hs : x.S.length ≤ 1000000) (hv : m.nv.oneCell' = true ∧ m.qv.oneCell' = true) (w : World) :
    Calls Tryz.prog 30 #[inV x, msgV m, .int .i64 4] w fun e w' => e = .returned (.tuple #[inV (qF m x 2).2, msgV (qF m x 2).1]) ∧ Below w.heap.size w w' := by
  have HN := Lib.hid (fun W => Xnum x 4 4 rfl hs W)
  have hz := zero_in
  have hzm := zero_msgW
  obtain ⟨W0, hW0, hS0⟩ := RSt.new w x m
  have hq : Hid (qF m x 2 = ({ m with af := (qN x 4).1 }, (qN x 4).2)) := Lib.hid rfl
  rw [hq.out]
  clear hq
  dsimp only
  generalize (qN x 4).2 = y at *
  generalize (qN x 4).1 = v at *
  replace hW0 := Lib.hid hW0
  replace hS0 := Lib.hid hS0
  have hone := Lib.hid (cellsB_one { m with af := v } hv.1 hv.2)
  have hm' : Hid ((cellsB m).setIfInBounds 4 (.int .i64 v) = cellsB { m with af := v }) := Lib.hid (setB_2 m v)
  have hc : (cellsB m)[4]? = some (.int .i64 m.af) := rfl
  generalize ({ m with af := v } : MM) = mm at *
  unfold inV msgV at *
  go_enter Tryz.func30, Tryz.ntmps30
  go_wp2_with (first
    | (simp only [hz.out, hzm.out, hW0.out])
    | (refine wpList_load_row rfl 66 _ rfl w.heap.size rfl 66 (cellsI x) (0, 0) _ hS0.out.inB Tryz.underlying66 rfl (info_inC x) ?_))
  refine (HN.out _).mono ?_
  rintro e W1 ⟨rfl, hB1⟩
  have hS1 := Lib.hid (hS0.out.go hB1)
  clear hB1
  have hs2 := hS1.out.setI y
  obtain ⟨W2, hW2⟩ : ∃ W2, W1.setRow w.heap.size (cellsI y) = W2 := ⟨_, rfl⟩
  rw [hW2] at hs2
  have hS2 := Lib.hid hs2
  replace hW2 := Lib.hid hW2
  have c1 := (hS2.out.msB.cell 4).trans hc
  have f1 := hS2.out.msB.frozen 4
  have hS3 := Lib.hid (hS2.out.setM hm'.out)
  clear hs2
  go_wp2_with (refine wpList_store_row rfl 66 _ _ rfl w.heap.size (cellsI y) rfl rfl 66 (cellsI x) hS1.out.inB (info_inC y) rfl (oneI y) ?_; rw [hW2.out])
  obtain ⟨W3, hW3⟩ : ∃ W3, W2.setCell ⟨w.heap.size + 1, 4, none⟩ (.int .i64 v) = W3 := ⟨_, rfl⟩
  rw [hW3] at hS3 ⊢
  clear hW3 c1 f1 hS2 hW2 hS1 hm' hc
  have hS4 := Lib.hid hS3.out.drew
  clear hS3
  refine wp_region_held_drew (S := fun W => RSx w W y mm) (by kernel_rfl) hS4.out.x (fun hHeld => ?_)
  refine takeD (i := 0) (oi := _) (d := some 159) (v := .agg (cellsI y)) rfl rfl (by kernel_rfl) (by kernel_rfl) (by kernel_rfl) (fun _ _ _ h => h) (yieldsIf_load_row (by rfl) 66 _ rfl w.heap.size rfl (cellsI y) (fun W h => load_In h.inB)) (by assumption) ?_
  try simp only [Act.put, List.setIfInBounds_toArray, List.set_cons_zero, List.set_cons_succ]
  refine takeD (i := 1) (oi := _) (d := some 160) (v := .agg (cellsB mm)) rfl rfl (by kernel_rfl) (by kernel_rfl) (by kernel_rfl) (fun _ _ _ h => h) (yieldsIf_load_row (by rfl) 30 _ rfl (w.heap.size + 1) rfl (cellsB mm) (fun W h => load_msg h.msB)) (by assumption) ?_
  try simp only [Act.put, List.setIfInBounds_toArray, List.set_cons_zero, List.set_cons_succ]
  obtain ⟨f1, f2, f3, f4, f5⟩ := hS4.out.fin
  refine wpAnyH_ready (rs := [2]) (by kernel_rfl) (by simp) ?_
  refine AllReadyH.cons (o := _) rfl (fun K hK => ?_) AllReadyH.nil
  rw [if_pos (by rfl)]
  refine wp_store_row 66 _ _ rfl (w.heap.size + 1 + 1) (cellsI y) rfl rfl 66 (cellsI zeroX) f1 (info_inC y) rfl (oneI y) ?_
  refine hK.out _ _ (RSx.set (by assumption) (by omega) _) (fun hHeld2 => ?_)
  clear hK K
  try simp only [Act.put, List.setIfInBounds_toArray]
  refine wpAnyH_ready (rs := [3]) (by kernel_rfl) (by simp) ?_
  refine AllReadyH.cons (o := _) rfl (fun K hK => ?_) AllReadyH.nil
  rw [if_pos (by rfl)]
  refine wp_store_row 30 _ _ rfl (w.heap.size + 1 + 1 + 1) (cellsB mm) rfl rfl 30 (cellsB noM) f2 (info_msgC mm) rfl hone.out ?_
  refine hK.out _ _ (RSx.set hHeld2 (by omega) _) (fun hHeld3 => ?_)
  clear hK K
  try simp only [Act.put]
  refine wpAnyH_done (by kernel_rfl) ?_ _
  go_wp2
  refine bodyPost_ret (results_IM rfl rfl rfl f3 f4) rfl ⟨rfl, f5⟩

set_option maxHeartbeats 4000000 in
set_option maxRecDepth 100000 in
theorem rd_3 (m : MM) (x : XS) (hs : x.S.length ≤ 1000000) (hv : m.nv.oneCell' = true ∧ m.qv.oneCell' = true) (w : World) :
    Calls Tryz.prog 30 #[inV x, msgV m, .int .i64 10] w fun e w' => e = .returned (.tuple #[inV (qF m x 3).2, msgV (qF m x 3).1]) ∧ Below w.heap.size w w' := by
  have HN := Lib.hid (fun W => Xnum x 2 2 rfl hs W)
  have hz := zero_in
  have hzm := zero_msgW
  obtain ⟨W0, hW0, hS0⟩ := RSt.new w x m
  have hq : Hid (qF m x 3 = ({ m with ot := (qN x 2).1 }, (qN x 2).2)) := Lib.hid rfl
  rw [hq.out]
  clear hq
  dsimp only
  generalize (qN x 2).2 = y at *
  generalize (qN x 2).1 = v at *
  replace hW0 := Lib.hid hW0
  replace hS0 := Lib.hid hS0
  have hone := Lib.hid (cellsB_one { m with ot := v } hv.1 hv.2)
  have hm' : Hid ((cellsB m).setIfInBounds 5 (.int .i64 v) = cellsB { m with ot := v }) := Lib.hid (setB_3 m v)
  have hc : (cellsB m)[5]? = some (.int .i64 m.ot) := rfl
  generalize ({ m with ot := v } : MM) = mm at *
  unfold inV msgV at *
  go_enter Tryz.func30, Tryz.ntmps30
  go_wp2_with (first
    | (simp only [hz.out, hzm.out, hW0.out])
    | (refine wpList_load_row rfl 66 _ rfl w.heap.size rfl 66 (cellsI x) (0, 0) _ hS0.out.inB Tryz.underlying66 rfl (info_inC x) ?_))
  refine (HN.out _).mono ?_
  rintro e W1 ⟨rfl, hB1⟩
  have hS1 := Lib.hid (hS0.out.go hB1)
  clear hB1
  have hs2 := hS1.out.setI y
  obtain ⟨W2, hW2⟩ : ∃ W2, W1.setRow w.heap.size (cellsI y) = W2 := ⟨_, rfl⟩
  rw [hW2] at hs2
  have hS2 := Lib.hid hs2
  replace hW2 := Lib.hid hW2
  have c1 := (hS2.out.msB.cell 5).trans hc
  have f1 := hS2.out.msB.frozen 5
  have hS3 := Lib.hid (hS2.out.setM hm'.out)
  clear hs2
  go_wp2_with (refine wpList_store_row rfl 66 _ _ rfl w.heap.size (cellsI y) rfl rfl 66 (cellsI x) hS1.out.inB (info_inC y) rfl (oneI y) ?_; rw [hW2.out])
  obtain ⟨W3, hW3⟩ : ∃ W3, W2.setCell ⟨w.heap.size + 1, 5, none⟩ (.int .i64 v) = W3 := ⟨_, rfl⟩
  rw [hW3] at hS3 ⊢
  clear hW3 c1 f1 hS2 hW2 hS1 hm' hc
  have hS4 := Lib.hid hS3.out.drew
  clear hS3
  refine wp_region_held_drew (S := fun W => RSx w W y mm) (by kernel_rfl) hS4.out.x (fun hHeld => ?_)
  refine takeD (i := 0) (oi := _) (d := some 159) (v := .agg (cellsI y)) rfl rfl (by kernel_rfl) (by kernel_rfl) (by kernel_rfl) (fun _ _ _ h => h) (yieldsIf_load_row (by rfl) 66 _ rfl w.heap.size rfl (cellsI y) (fun W h => load_In h.inB)) (by assumption) ?_
  try simp only [Act.put, List.setIfInBounds_toArray, List.set_cons_zero, List.set_cons_succ]
  refine takeD (i := 1) (oi := _) (d := some 160) (v := .agg (cellsB mm)) rfl rfl (by kernel_rfl) (by kernel_rfl) (by kernel_rfl) (fun _ _ _ h => h) (yieldsIf_load_row (by rfl) 30 _ rfl (w.heap.size + 1) rfl (cellsB mm) (fun W h => load_msg h.msB)) (by assumption) ?_
  try simp only [Act.put, List.setIfInBounds_toArray, List.set_cons_zero, List.set_cons_succ]
  obtain ⟨f1, f2, f3, f4, f5⟩ := hS4.out.fin
  refine wpAnyH_ready (rs := [2]) (by kernel_rfl) (by simp) ?_
  refine AllReadyH.cons (o := _) rfl (fun K hK => ?_) AllReadyH.nil
  rw [if_pos (by rfl)]
  refine wp_store_row 66 _ _ rfl (w.heap.size + 1 + 1) (cellsI y) rfl rfl 66 (cellsI zeroX) f1 (info_inC y) rfl (oneI y) ?_
  refine hK.out _ _ (RSx.set (by assumption) (by omega) _) (fun hHeld2 => ?_)
  clear hK K
  try simp only [Act.put, List.setIfInBounds_toArray]
  refine wpAnyH_ready (rs := [3]) (by kernel_rfl) (by simp) ?_
  refine AllReadyH.cons (o := _) rfl (fun K hK => ?_) AllReadyH.nil
  rw [if_pos (by rfl)]
  refine wp_store_row 30 _ _ rfl (w.heap.size + 1 + 1 + 1) (cellsB mm) rfl rfl 30 (cellsB noM) f2 (info_msgC mm) rfl hone.out ?_
  refine hK.out _ _ (RSx.set hHeld2 (by omega) _) (fun hHeld3 => ?_)
  clear hK K
  try simp only [Act.put]
  refine wpAnyH_done (by kernel_rfl) ?_ _
  go_wp2
  refine bodyPost_ret (results_IM rfl rfl rfl f3 f4) rfl ⟨rfl, f5⟩

set_option maxHeartbeats 4000000 in
set_option maxRecDepth 100000 in
theorem rd_4 (m : MM) (x : XS) (hs : x.S.length ≤ 1000000) (hv : m.nv.oneCell' = true ∧ m.qv.oneCell' = true) (w : World) :
    Calls Tryz.prog 30 #[inV x, msgV m, .int .i64 1] w fun e w' => e = .returned (.tuple #[inV (qF m x 4).2, msgV (qF m x 4).1]) ∧ Below w.heap.size w w' := by
  have HN := Lib.hid (fun W => Xnum x 4 4 rfl hs W)
  have hz := zero_in
  have hzm := zero_msgW
  obtain ⟨W0, hW0, hS0⟩ := RSt.new w x m
  have hq : Hid (qF m x 4 = ({ m with ms := (qN x 4).1 }, (qN x 4).2)) := Lib.hid rfl
  rw [hq.out]
  clear hq
  dsimp only
  generalize (qN x 4).2 = y at *
  generalize (qN x 4).1 = v at *
  replace hW0 := Lib.hid hW0
  replace hS0 := Lib.hid hS0
  have hone := Lib.hid (cellsB_one { m with ms := v } hv.1 hv.2)
  have hm' : Hid ((cellsB m).setIfInBounds 6 (.int .i64 v) = cellsB { m with ms := v }) := Lib.hid (setB_4 m v)
  have hc : (cellsB m)[6]? = some (.int .i64 m.ms) := rfl
  generalize ({ m with ms := v } : MM) = mm at *
  unfold inV msgV at *
  go_enter Tryz.func30, Tryz.ntmps30
  go_wp2_with (first
    | (simp only [hz.out, hzm.out, hW0.out])
    | (refine wpList_load_row rfl 66 _ rfl w.heap.size rfl 66 (cellsI x) (0, 0) _ hS0.out.inB Tryz.underlying66 rfl (info_inC x) ?_))
  refine (HN.out _).mono ?_
  rintro e W1 ⟨rfl, hB1⟩
  have hS1 := Lib.hid (hS0.out.go hB1)
  clear hB1
  have hs2 := hS1.out.setI y
  obtain ⟨W2, hW2⟩ : ∃ W2, W1.setRow w.heap.size (cellsI y) = W2 := ⟨_, rfl⟩
  rw [hW2] at hs2
  have hS2 := Lib.hid hs2
  replace hW2 := Lib.hid hW2
  have c1 := (hS2.out.msB.cell 6).trans hc
  have f1 := hS2.out.msB.frozen 6
  have hS3 := Lib.hid (hS2.out.setM hm'.out)
  clear hs2
  go_wp2_with (refine wpList_store_row rfl 66 _ _ rfl w.heap.size (cellsI y) rfl rfl 66 (cellsI x) hS1.out.inB (info_inC y) rfl (oneI y) ?_; rw [hW2.out])
  obtain ⟨W3, hW3⟩ : ∃ W3, W2.setCell ⟨w.heap.size + 1, 6, none⟩ (.int .i64 v) = W3 := ⟨_, rfl⟩
  rw [hW3] at hS3 ⊢
  clear hW3 c1 f1 hS2 hW2 hS1 hm' hc
  have hS4 := Lib.hid hS3.out.drew
  clear hS3
  refine wp_region_held_drew (S := fun W => RSx w W y mm) (by kernel_rfl) hS4.out.x (fun hHeld => ?_)
  refine takeD (i := 0) (oi := _) (d := some 159) (v := .agg (cellsI y)) rfl rfl (by kernel_rfl) (by kernel_rfl) (by kernel_rfl) (fun _ _ _ h => h) (yieldsIf_load_row (by rfl) 66 _ rfl w.heap.size rfl (cellsI y) (fun W h => load_In h.inB)) (by assumption) ?_
  try simp only [Act.put, List.setIfInBounds_toArray, List.set_cons_zero, List.set_cons_succ]
  refine takeD (i := 1) (oi := _) (d := some 160) (v := .agg (cellsB mm)) rfl rfl (by kernel_rfl) (by kernel_rfl) (by kernel_rfl) (fun _ _ _ h => h) (yieldsIf_load_row (by rfl) 30 _ rfl (w.heap.size + 1) rfl (cellsB mm) (fun W h => load_msg h.msB)) (by assumption) ?_
  try simp only [Act.put, List.setIfInBounds_toArray, List.set_cons_zero, List.set_cons_succ]
  obtain ⟨f1, f2, f3, f4, f5⟩ := hS4.out.fin
  refine wpAnyH_ready (rs := [2]) (by kernel_rfl) (by simp) ?_
  refine AllReadyH.cons (o := _) rfl (fun K hK => ?_) AllReadyH.nil
  rw [if_pos (by rfl)]
  refine wp_store_row 66 _ _ rfl (w.heap.size + 1 + 1) (cellsI y) rfl rfl 66 (cellsI zeroX) f1 (info_inC y) rfl (oneI y) ?_
  refine hK.out _ _ (RSx.set (by assumption) (by omega) _) (fun hHeld2 => ?_)
  clear hK K
  try simp only [Act.put, List.setIfInBounds_toArray]
  refine wpAnyH_ready (rs := [3]) (by kernel_rfl) (by simp) ?_
  refine AllReadyH.cons (o := _) rfl (fun K hK => ?_) AllReadyH.nil
  rw [if_pos (by rfl)]
  refine wp_store_row 30 _ _ rfl (w.heap.size + 1 + 1 + 1) (cellsB mm) rfl rfl 30 (cellsB noM) f2 (info_msgC mm) rfl hone.out ?_
  refine hK.out _ _ (RSx.set hHeld2 (by omega) _) (fun hHeld3 => ?_)
  clear hK K
  try simp only [Act.put]
  refine wpAnyH_done (by kernel_rfl) ?_ _
  go_wp2
  refine bodyPost_ret (results_IM rfl rfl rfl f3 f4) rfl ⟨rfl, f5⟩

set_option maxHeartbeats 4000000 in
set_option maxRecDepth 100000 in
theorem rd_11 (m : MM) (x : XS) (hs : x.S.length ≤ 1000000) (hv : m.nv.oneCell' = true ∧ m.qv.oneCell' = true) (w : World) :
    Calls Tryz.prog 30 #[inV x, msgV m, .int .i64 15] w fun e w' => e = .returned (.tuple #[inV (qF m x 11).2, msgV (qF m x 11).1]) ∧ Below w.heap.size w w' := by
  have HN := Lib.hid (fun W => Xnum x 4 4 rfl hs W)
  have hz := zero_in
  have hzm := zero_msgW
  obtain ⟨W0, hW0, hS0⟩ := RSt.new w x m
  have hq : Hid (qF m x 11 = ({ m with io := (qN x 4).1 }, (qN x 4).2)) := Lib.hid rfl
  rw [hq.out]
  clear hq
  dsimp only
  generalize (qN x 4).2 = y at *
  generalize (qN x 4).1 = v at *
  replace hW0 := Lib.hid hW0
  replace hS0 := Lib.hid hS0
  have hone := Lib.hid (cellsB_one { m with io := v } hv.1 hv.2)
  have hm' : Hid ((cellsB m).setIfInBounds 15 (.int .i64 v) = cellsB { m with io := v }) := Lib.hid (setB_11 m v)
  have hc : (cellsB m)[15]? = some (.int .i64 m.io) := rfl
  generalize ({ m with io := v } : MM) = mm at *
  unfold inV msgV at *
  go_enter Tryz.func30, Tryz.ntmps30
  go_wp2_with (first
    | (simp only [hz.out, hzm.out, hW0.out])
    | (refine wpList_load_row rfl 66 _ rfl w.heap.size rfl 66 (cellsI x) (0, 0) _ hS0.out.inB Tryz.underlying66 rfl (info_inC x) ?_))
  refine (HN.out _).mono ?_
  rintro e W1 ⟨rfl, hB1⟩
  have hS1 := Lib.hid (hS0.out.go hB1)
  clear hB1
  have hs2 := hS1.out.setI y
  obtain ⟨W2, hW2⟩ : ∃ W2, W1.setRow w.heap.size (cellsI y) = W2 := ⟨_, rfl⟩
  rw [hW2] at hs2
  have hS2 := Lib.hid hs2
  replace hW2 := Lib.hid hW2
  have c1 := (hS2.out.msB.cell 15).trans hc
  have f1 := hS2.out.msB.frozen 15
  have hS3 := Lib.hid (hS2.out.setM hm'.out)
  clear hs2
  go_wp2_with (refine wpList_store_row rfl 66 _ _ rfl w.heap.size (cellsI y) rfl rfl 66 (cellsI x) hS1.out.inB (info_inC y) rfl (oneI y) ?_; rw [hW2.out])
  obtain ⟨W3, hW3⟩ : ∃ W3, W2.setCell ⟨w.heap.size + 1, 15, none⟩ (.int .i64 v) = W3 := ⟨_, rfl⟩
  rw [hW3] at hS3 ⊢
  clear hW3 c1 f1 hS2 hW2 hS1 hm' hc
  have hS4 := Lib.hid hS3.out.drew
  clear hS3
  refine wp_region_held_drew (S := fun W => RSx w W y mm) (by kernel_rfl) hS4.out.x (fun hHeld => ?_)
  refine takeD (i := 0) (oi := _) (d := some 159) (v := .agg (cellsI y)) rfl rfl (by kernel_rfl) (by kernel_rfl) (by kernel_rfl) (fun _ _ _ h => h) (yieldsIf_load_row (by rfl) 66 _ rfl w.heap.size rfl (cellsI y) (fun W h => load_In h.inB)) (by assumption) ?_
  try simp only [Act.put, List.setIfInBounds_toArray, List.set_cons_zero, List.set_cons_succ]
  refine takeD (i := 1) (oi := _) (d := some 160) (v := .agg (cellsB mm)) rfl rfl (by kernel_rfl) (by kernel_rfl) (by kernel_rfl) (fun _ _ _ h => h) (yieldsIf_load_row (by rfl) 30 _ rfl (w.heap.size + 1) rfl (cellsB mm) (fun W h => load_msg h.msB)) (by assumption) ?_
  try simp only [Act.put, List.setIfInBounds_toArray, List.set_cons_zero, List.set_cons_succ]
  obtain ⟨f1, f2, f3, f4, f5⟩ := hS4.out.fin
  refine wpAnyH_ready (rs := [2]) (by kernel_rfl) (by simp) ?_
  refine AllReadyH.cons (o := _) rfl (fun K hK => ?_) AllReadyH.nil
  rw [if_pos (by rfl)]
  refine wp_store_row 66 _ _ rfl (w.heap.size + 1 + 1) (cellsI y) rfl rfl 66 (cellsI zeroX) f1 (info_inC y) rfl (oneI y) ?_
  refine hK.out _ _ (RSx.set (by assumption) (by omega) _) (fun hHeld2 => ?_)
  clear hK K
  try simp only [Act.put, List.setIfInBounds_toArray]
  refine wpAnyH_ready (rs := [3]) (by kernel_rfl) (by simp) ?_
  refine AllReadyH.cons (o := _) rfl (fun K hK => ?_) AllReadyH.nil
  rw [if_pos (by rfl)]
  refine wp_store_row 30 _ _ rfl (w.heap.size + 1 + 1 + 1) (cellsB mm) rfl rfl 30 (cellsB noM) f2 (info_msgC mm) rfl hone.out ?_
  refine hK.out _ _ (RSx.set hHeld2 (by omega) _) (fun hHeld3 => ?_)
  clear hK K
  try simp only [Act.put]
  refine wpAnyH_done (by kernel_rfl) ?_ _
  go_wp2
  refine bodyPost_ret (results_IM rfl rfl rfl f3 f4) rfl ⟨rfl, f5⟩
end Go.Proofs.YtlfdmbfbfadifaaGreatDoor

namespace Go.Proofs.YtlfdmbfbfadifaaGreatDoor
open Go.RowKit

theorem RSt.setQ {w W : World} {x : XS} {m m' : MM} {u v z : Value} (h : RSt w W x m) (he : (((cellsB m).setIfInBounds 12 u).setIfInBounds 13 v).setIfInBounds 14 z = cellsB m') : RSt w (((W.setCell ⟨w.heap.size + 1, 12, none⟩ u).setCell ⟨w.heap.size + 1, 13, none⟩ v).setCell ⟨w.heap.size + 1, 14, none⟩ z) x m' := by
  have hne : ∀ b, b ≠ w.heap.size + 1 → (((W.setCell ⟨w.heap.size + 1, 12, none⟩ u).setCell ⟨w.heap.size + 1, 13, none⟩ v).setCell ⟨w.heap.size + 1, 14, none⟩ z).heap[b]? = W.heap[b]? := fun b hb =>
    (Below.heap_setCell _ _ _ _ hb).trans ((Below.heap_setCell _ _ _ _ hb).trans (Below.heap_setCell _ _ _ _ hb))
  have hm := set_heap (o := 14) (v := z) (set_heap (o := 13) (v := v) (set_heap (o := 12) (v := u) h.msB))
  rw [he] at hm
  exact ⟨((h.base.setCell (p := ⟨w.heap.size + 1, 12, none⟩) (Nat.le_succ _) u).setCell (p := ⟨w.heap.size + 1, 13, none⟩) (Nat.le_succ _) v).setCell (p := ⟨w.heap.size + 1, 14, none⟩) (Nat.le_succ _) z, (hne _ (by omega)).trans h.inB, hm, (hne _ (by omega)).trans h.inR, (hne _ (by omega)).trans h.msR⟩
set_option maxHeartbeats 4000000 in
set_option maxRecDepth 100000 in
theorem rd_12 (m : MM) (x : XS) (hs : x.S.length ≤ 1000000) (hv : m.nv.oneCell' = true ∧ m.qv.oneCell' = true) (w : World) :
    Calls Tryz.prog 30 #[inV x, msgV m, .int .i64 14] w fun e w' => e = .returned (.tuple #[inV (qF m x 12).2, msgV (qF m x 12).1]) ∧ Below w.heap.size w w' := by
  have HN := Lib.hid (fun W => Xnum x 1 1 rfl hs W)
  have hz := zero_in
  have hzm := zero_msgW
  obtain ⟨W0, hW0, hS0⟩ := RSt.new w x m
  have hq : Hid (qF m x 12 = ({ m with mo := (qN x 1).1 }, (qN x 1).2)) := Lib.hid rfl
  rw [hq.out]
  clear hq
  dsimp only
  generalize (qN x 1).2 = y at *
  generalize (qN x 1).1 = v at *
  replace hW0 := Lib.hid hW0
  replace hS0 := Lib.hid hS0
  have hone := Lib.hid (cellsB_one { m with mo := v } hv.1 hv.2)
  have hm' : Hid ((cellsB m).setIfInBounds 16 (.int .i64 v) = cellsB { m with mo := v }) := Lib.hid (setB_12 m v)
  have hc : (cellsB m)[16]? = some (.int .i64 m.mo) := rfl
  generalize ({ m with mo := v } : MM) = mm at *
  unfold inV msgV at *
  go_enter Tryz.func30, Tryz.ntmps30
  go_wp2_with (first
    | (simp only [hz.out, hzm.out, hW0.out])
    | (refine wpList_load_row rfl 66 _ rfl w.heap.size rfl 66 (cellsI x) (0, 0) _ hS0.out.inB Tryz.underlying66 rfl (info_inC x) ?_))
  refine (HN.out _).mono ?_
  rintro e W1 ⟨rfl, hB1⟩
  have hS1 := Lib.hid (hS0.out.go hB1)
  clear hB1
  have hs2 := hS1.out.setI y
  obtain ⟨W2, hW2⟩ : ∃ W2, W1.setRow w.heap.size (cellsI y) = W2 := ⟨_, rfl⟩
  rw [hW2] at hs2
  have hS2 := Lib.hid hs2
  replace hW2 := Lib.hid hW2
  have c1 := (hS2.out.msB.cell 16).trans hc
  have f1 := hS2.out.msB.frozen 16
  have hS3 := Lib.hid (hS2.out.setM hm'.out)
  clear hs2
  go_wp2_with (refine wpList_store_row rfl 66 _ _ rfl w.heap.size (cellsI y) rfl rfl 66 (cellsI x) hS1.out.inB (info_inC y) rfl (oneI y) ?_; rw [hW2.out])
  obtain ⟨W3, hW3⟩ : ∃ W3, W2.setCell ⟨w.heap.size + 1, 16, none⟩ (.int .i64 v) = W3 := ⟨_, rfl⟩
  rw [hW3] at hS3 ⊢
  clear hW3 c1 f1 hS2 hW2 hS1 hm' hc
  have hS4 := Lib.hid hS3.out.drew
  clear hS3
  refine wp_region_held_drew (S := fun W => RSx w W y mm) (by kernel_rfl) hS4.out.x (fun hHeld => ?_)
  refine takeD (i := 0) (oi := _) (d := some 159) (v := .agg (cellsI y)) rfl rfl (by kernel_rfl) (by kernel_rfl) (by kernel_rfl) (fun _ _ _ h => h) (yieldsIf_load_row (by rfl) 66 _ rfl w.heap.size rfl (cellsI y) (fun W h => load_In h.inB)) (by assumption) ?_
  try simp only [Act.put, List.setIfInBounds_toArray, List.set_cons_zero, List.set_cons_succ]
  refine takeD (i := 1) (oi := _) (d := some 160) (v := .agg (cellsB mm)) rfl rfl (by kernel_rfl) (by kernel_rfl) (by kernel_rfl) (fun _ _ _ h => h) (yieldsIf_load_row (by rfl) 30 _ rfl (w.heap.size + 1) rfl (cellsB mm) (fun W h => load_msg h.msB)) (by assumption) ?_
  try simp only [Act.put, List.setIfInBounds_toArray, List.set_cons_zero, List.set_cons_succ]
  obtain ⟨f1, f2, f3, f4, f5⟩ := hS4.out.fin
  refine wpAnyH_ready (rs := [2]) (by kernel_rfl) (by simp) ?_
  refine AllReadyH.cons (o := _) rfl (fun K hK => ?_) AllReadyH.nil
  rw [if_pos (by rfl)]
  refine wp_store_row 66 _ _ rfl (w.heap.size + 1 + 1) (cellsI y) rfl rfl 66 (cellsI zeroX) f1 (info_inC y) rfl (oneI y) ?_
  refine hK.out _ _ (RSx.set (by assumption) (by omega) _) (fun hHeld2 => ?_)
  clear hK K
  try simp only [Act.put, List.setIfInBounds_toArray]
  refine wpAnyH_ready (rs := [3]) (by kernel_rfl) (by simp) ?_
  refine AllReadyH.cons (o := _) rfl (fun K hK => ?_) AllReadyH.nil
  rw [if_pos (by rfl)]
  refine wp_store_row 30 _ _ rfl (w.heap.size + 1 + 1 + 1) (cellsB mm) rfl rfl 30 (cellsB noM) f2 (info_msgC mm) rfl hone.out ?_
  refine hK.out _ _ (RSx.set hHeld2 (by omega) _) (fun hHeld3 => ?_)
  clear hK K
  try simp only [Act.put]
  refine wpAnyH_done (by kernel_rfl) ?_ _
  go_wp2
  refine bodyPost_ret (results_IM rfl rfl rfl f3 f4) rfl ⟨rfl, f5⟩

set_option maxHeartbeats 4000000 in
set_option maxRecDepth 100000 in
theorem rd_13 (m : MM) (x : XS) (hs : x.S.length ≤ 1000000) (hv : m.nv.oneCell' = true ∧ m.qv.oneCell' = true) (w : World) :
    Calls Tryz.prog 30 #[inV x, msgV m, .int .i64 17] w fun e w' => e = .returned (.tuple #[inV (qF m x 13).2, msgV (qF m x 13).1]) ∧ Below w.heap.size w w' := by
  have HN := Lib.hid (fun W => Xnum x 4 4 rfl hs W)
  have hz := zero_in
  have hzm := zero_msgW
  obtain ⟨W0, hW0, hS0⟩ := RSt.new w x m
  have hq : Hid (qF m x 13 = ({ m with pe := (qN x 4).1 }, (qN x 4).2)) := Lib.hid rfl
  rw [hq.out]
  clear hq
  dsimp only
  generalize (qN x 4).2 = y at *
  generalize (qN x 4).1 = v at *
  replace hW0 := Lib.hid hW0
  replace hS0 := Lib.hid hS0
  have hone := Lib.hid (cellsB_one { m with pe := v } hv.1 hv.2)
  have hm' : Hid ((cellsB m).setIfInBounds 17 (.int .i64 v) = cellsB { m with pe := v }) := Lib.hid (setB_13 m v)
  have hc : (cellsB m)[17]? = some (.int .i64 m.pe) := rfl
  generalize ({ m with pe := v } : MM) = mm at *
  unfold inV msgV at *
  go_enter Tryz.func30, Tryz.ntmps30
  go_wp2_with (first
    | (simp only [hz.out, hzm.out, hW0.out])
    | (refine wpList_load_row rfl 66 _ rfl w.heap.size rfl 66 (cellsI x) (0, 0) _ hS0.out.inB Tryz.underlying66 rfl (info_inC x) ?_))
  refine (HN.out _).mono ?_
  rintro e W1 ⟨rfl, hB1⟩
  have hS1 := Lib.hid (hS0.out.go hB1)
  clear hB1
  have hs2 := hS1.out.setI y
  obtain ⟨W2, hW2⟩ : ∃ W2, W1.setRow w.heap.size (cellsI y) = W2 := ⟨_, rfl⟩
  rw [hW2] at hs2
  have hS2 := Lib.hid hs2
  replace hW2 := Lib.hid hW2
  have c1 := (hS2.out.msB.cell 17).trans hc
  have f1 := hS2.out.msB.frozen 17
  have hS3 := Lib.hid (hS2.out.setM hm'.out)
  clear hs2
  go_wp2_with (refine wpList_store_row rfl 66 _ _ rfl w.heap.size (cellsI y) rfl rfl 66 (cellsI x) hS1.out.inB (info_inC y) rfl (oneI y) ?_; rw [hW2.out])
  obtain ⟨W3, hW3⟩ : ∃ W3, W2.setCell ⟨w.heap.size + 1, 17, none⟩ (.int .i64 v) = W3 := ⟨_, rfl⟩
  rw [hW3] at hS3 ⊢
  clear hW3 c1 f1 hS2 hW2 hS1 hm' hc
  have hS4 := Lib.hid hS3.out.drew
  clear hS3
  refine wp_region_held_drew (S := fun W => RSx w W y mm) (by kernel_rfl) hS4.out.x (fun hHeld => ?_)
  refine takeD (i := 0) (oi := _) (d := some 159) (v := .agg (cellsI y)) rfl rfl (by kernel_rfl) (by kernel_rfl) (by kernel_rfl) (fun _ _ _ h => h) (yieldsIf_load_row (by rfl) 66 _ rfl w.heap.size rfl (cellsI y) (fun W h => load_In h.inB)) (by assumption) ?_
  try simp only [Act.put, List.setIfInBounds_toArray, List.set_cons_zero, List.set_cons_succ]
  refine takeD (i := 1) (oi := _) (d := some 160) (v := .agg (cellsB mm)) rfl rfl (by kernel_rfl) (by kernel_rfl) (by kernel_rfl) (fun _ _ _ h => h) (yieldsIf_load_row (by rfl) 30 _ rfl (w.heap.size + 1) rfl (cellsB mm) (fun W h => load_msg h.msB)) (by assumption) ?_
  try simp only [Act.put, List.setIfInBounds_toArray, List.set_cons_zero, List.set_cons_succ]
  obtain ⟨f1, f2, f3, f4, f5⟩ := hS4.out.fin
  refine wpAnyH_ready (rs := [2]) (by kernel_rfl) (by simp) ?_
  refine AllReadyH.cons (o := _) rfl (fun K hK => ?_) AllReadyH.nil
  rw [if_pos (by rfl)]
  refine wp_store_row 66 _ _ rfl (w.heap.size + 1 + 1) (cellsI y) rfl rfl 66 (cellsI zeroX) f1 (info_inC y) rfl (oneI y) ?_
  refine hK.out _ _ (RSx.set (by assumption) (by omega) _) (fun hHeld2 => ?_)
  clear hK K
  try simp only [Act.put, List.setIfInBounds_toArray]
  refine wpAnyH_ready (rs := [3]) (by kernel_rfl) (by simp) ?_
  refine AllReadyH.cons (o := _) rfl (fun K hK => ?_) AllReadyH.nil
  rw [if_pos (by rfl)]
  refine wp_store_row 30 _ _ rfl (w.heap.size + 1 + 1 + 1) (cellsB mm) rfl rfl 30 (cellsB noM) f2 (info_msgC mm) rfl hone.out ?_
  refine hK.out _ _ (RSx.set hHeld2 (by omega) _) (fun hHeld3 => ?_)
  clear hK K
  try simp only [Act.put]
  refine wpAnyH_done (by kernel_rfl) ?_ _
  go_wp2
  refine bodyPost_ret (results_IM rfl rfl rfl f3 f4) rfl ⟨rfl, f5⟩

set_option maxHeartbeats 4000000 in
set_option maxRecDepth 100000 in
theorem rd_15 (m : MM) (x : XS) (hs : x.S.length ≤ 1000000) (hv : m.nv.oneCell' = true ∧ m.qv.oneCell' = true) (w : World) :
    Calls Tryz.prog 30 #[inV x, msgV m, .int .i64 18] w fun e w' => e = .returned (.tuple #[inV (qF m x 15).2, msgV (qF m x 15).1]) ∧ Below w.heap.size w w' := by
  have HN := Lib.hid (fun W => Xnum x 8 8 rfl hs W)
  have hz := zero_in
  have hzm := zero_msgW
  obtain ⟨W0, hW0, hS0⟩ := RSt.new w x m
  have hq : Hid (qF m x 15 = ({ m with os := (qN x 8).1 }, (qN x 8).2)) := Lib.hid rfl
  rw [hq.out]
  clear hq
  dsimp only
  generalize (qN x 8).2 = y at *
  generalize (qN x 8).1 = v at *
  replace hW0 := Lib.hid hW0
  replace hS0 := Lib.hid hS0
  have hone := Lib.hid (cellsB_one { m with os := v } hv.1 hv.2)
  have hm' : Hid ((cellsB m).setIfInBounds 19 (.int .i64 v) = cellsB { m with os := v }) := Lib.hid (setB_15 m v)
  have hc : (cellsB m)[19]? = some (.int .i64 m.os) := rfl
  generalize ({ m with os := v } : MM) = mm at *
  unfold inV msgV at *
  go_enter Tryz.func30, Tryz.ntmps30
  go_wp2_with (first
    | (simp only [hz.out, hzm.out, hW0.out])
    | (refine wpList_load_row rfl 66 _ rfl w.heap.size rfl 66 (cellsI x) (0, 0) _ hS0.out.inB Tryz.underlying66 rfl (info_inC x) ?_))
  refine (HN.out _).mono ?_
  rintro e W1 ⟨rfl, hB1⟩
  have hS1 := Lib.hid (hS0.out.go hB1)
  clear hB1
  have hs2 := hS1.out.setI y
  obtain ⟨W2, hW2⟩ : ∃ W2, W1.setRow w.heap.size (cellsI y) = W2 := ⟨_, rfl⟩
  rw [hW2] at hs2
  have hS2 := Lib.hid hs2
  replace hW2 := Lib.hid hW2
  have c1 := (hS2.out.msB.cell 19).trans hc
  have f1 := hS2.out.msB.frozen 19
  have hS3 := Lib.hid (hS2.out.setM hm'.out)
  clear hs2
  go_wp2_with (refine wpList_store_row rfl 66 _ _ rfl w.heap.size (cellsI y) rfl rfl 66 (cellsI x) hS1.out.inB (info_inC y) rfl (oneI y) ?_; rw [hW2.out])
  obtain ⟨W3, hW3⟩ : ∃ W3, W2.setCell ⟨w.heap.size + 1, 19, none⟩ (.int .i64 v) = W3 := ⟨_, rfl⟩
  rw [hW3] at hS3 ⊢
  clear hW3 c1 f1 hS2 hW2 hS1 hm' hc
  have hS4 := Lib.hid hS3.out.drew
  clear hS3
  refine wp_region_held_drew (S := fun W => RSx w W y mm) (by kernel_rfl) hS4.out.x (fun hHeld => ?_)
  refine takeD (i := 0) (oi := _) (d := some 159) (v := .agg (cellsI y)) rfl rfl (by kernel_rfl) (by kernel_rfl) (by kernel_rfl) (fun _ _ _ h => h) (yieldsIf_load_row (by rfl) 66 _ rfl w.heap.size rfl (cellsI y) (fun W h => load_In h.inB)) (by assumption) ?_
  try simp only [Act.put, List.setIfInBounds_toArray, List.set_cons_zero, List.set_cons_succ]
  refine takeD (i := 1) (oi := _) (d := some 160) (v := .agg (cellsB mm)) rfl rfl (by kernel_rfl) (by kernel_rfl) (by kernel_rfl) (fun _ _ _ h => h) (yieldsIf_load_row (by rfl) 30 _ rfl (w.heap.size + 1) rfl (cellsB mm) (fun W h => load_msg h.msB)) (by assumption) ?_
  try simp only [Act.put, List.setIfInBounds_toArray, List.set_cons_zero, List.set_cons_succ]
  obtain ⟨f1, f2, f3, f4, f5⟩ := hS4.out.fin
  refine wpAnyH_ready (rs := [2]) (by kernel_rfl) (by simp) ?_
  refine AllReadyH.cons (o := _) rfl (fun K hK => ?_) AllReadyH.nil
  rw [if_pos (by rfl)]
  refine wp_store_row 66 _ _ rfl (w.heap.size + 1 + 1) (cellsI y) rfl rfl 66 (cellsI zeroX) f1 (info_inC y) rfl (oneI y) ?_
  refine hK.out _ _ (RSx.set (by assumption) (by omega) _) (fun hHeld2 => ?_)
  clear hK K
  try simp only [Act.put, List.setIfInBounds_toArray]
  refine wpAnyH_ready (rs := [3]) (by kernel_rfl) (by simp) ?_
  refine AllReadyH.cons (o := _) rfl (fun K hK => ?_) AllReadyH.nil
  rw [if_pos (by rfl)]
  refine wp_store_row 30 _ _ rfl (w.heap.size + 1 + 1 + 1) (cellsB mm) rfl rfl 30 (cellsB noM) f2 (info_msgC mm) rfl hone.out ?_
  refine hK.out _ _ (RSx.set hHeld2 (by omega) _) (fun hHeld3 => ?_)
  clear hK K
  try simp only [Act.put]
  refine wpAnyH_done (by kernel_rfl) ?_ _
  go_wp2
  refine bodyPost_ret (results_IM rfl rfl rfl f3 f4) rfl ⟨rfl, f5⟩

set_option maxHeartbeats 4000000 in
set_option maxRecDepth 100000 in
theorem rd_16 (m : MM) (x : XS) (hs : x.S.length ≤ 1000000) (hv : m.nv.oneCell' = true ∧ m.qv.oneCell' = true) (w : World) :
    Calls Tryz.prog 30 #[inV x, msgV m, .int .i64 19] w fun e w' => e = .returned (.tuple #[inV (qF m x 16).2, msgV (qF m x 16).1]) ∧ Below w.heap.size w w' := by
  have HN := Lib.hid (fun W => Xnum x 4 4 rfl hs W)
  have hz := zero_in
  have hzm := zero_msgW
  obtain ⟨W0, hW0, hS0⟩ := RSt.new w x m
  have hq : Hid (qF m x 16 = ({ m with co := (qN x 4).1 }, (qN x 4).2)) := Lib.hid rfl
  rw [hq.out]
  clear hq
  dsimp only
  generalize (qN x 4).2 = y at *
  generalize (qN x 4).1 = v at *
  replace hW0 := Lib.hid hW0
  replace hS0 := Lib.hid hS0
  have hone := Lib.hid (cellsB_one { m with co := v } hv.1 hv.2)
  have hm' : Hid ((cellsB m).setIfInBounds 20 (.int .i64 v) = cellsB { m with co := v }) := Lib.hid (setB_16 m v)
  have hc : (cellsB m)[20]? = some (.int .i64 m.co) := rfl
  generalize ({ m with co := v } : MM) = mm at *
  unfold inV msgV at *
  go_enter Tryz.func30, Tryz.ntmps30
  go_wp2_with (first
    | (simp only [hz.out, hzm.out, hW0.out])
    | (refine wpList_load_row rfl 66 _ rfl w.heap.size rfl 66 (cellsI x) (0, 0) _ hS0.out.inB Tryz.underlying66 rfl (info_inC x) ?_))
  refine (HN.out _).mono ?_
  rintro e W1 ⟨rfl, hB1⟩
  have hS1 := Lib.hid (hS0.out.go hB1)
  clear hB1
  have hs2 := hS1.out.setI y
  obtain ⟨W2, hW2⟩ : ∃ W2, W1.setRow w.heap.size (cellsI y) = W2 := ⟨_, rfl⟩
  rw [hW2] at hs2
  have hS2 := Lib.hid hs2
  replace hW2 := Lib.hid hW2
  have c1 := (hS2.out.msB.cell 20).trans hc
  have f1 := hS2.out.msB.frozen 20
  have hS3 := Lib.hid (hS2.out.setM hm'.out)
  clear hs2
  go_wp2_with (refine wpList_store_row rfl 66 _ _ rfl w.heap.size (cellsI y) rfl rfl 66 (cellsI x) hS1.out.inB (info_inC y) rfl (oneI y) ?_; rw [hW2.out])
  obtain ⟨W3, hW3⟩ : ∃ W3, W2.setCell ⟨w.heap.size + 1, 20, none⟩ (.int .i64 v) = W3 := ⟨_, rfl⟩
  rw [hW3] at hS3 ⊢
  clear hW3 c1 f1 hS2 hW2 hS1 hm' hc
  have hS4 := Lib.hid hS3.out.drew
  clear hS3
  refine wp_region_held_drew (S := fun W => RSx w W y mm) (by kernel_rfl) hS4.out.x (fun hHeld => ?_)
  refine takeD (i := 0) (oi := _) (d := some 159) (v := .agg (cellsI y)) rfl rfl (by kernel_rfl) (by kernel_rfl) (by kernel_rfl) (fun _ _ _ h => h) (yieldsIf_load_row (by rfl) 66 _ rfl w.heap.size rfl (cellsI y) (fun W h => load_In h.inB)) (by assumption) ?_
  try simp only [Act.put, List.setIfInBounds_toArray, List.set_cons_zero, List.set_cons_succ]
  refine takeD (i := 1) (oi := _) (d := some 160) (v := .agg (cellsB mm)) rfl rfl (by kernel_rfl) (by kernel_rfl) (by kernel_rfl) (fun _ _ _ h => h) (yieldsIf_load_row (by rfl) 30 _ rfl (w.heap.size + 1) rfl (cellsB mm) (fun W h => load_msg h.msB)) (by assumption) ?_
  try simp only [Act.put, List.setIfInBounds_toArray, List.set_cons_zero, List.set_cons_succ]
  obtain ⟨f1, f2, f3, f4, f5⟩ := hS4.out.fin
  refine wpAnyH_ready (rs := [2]) (by kernel_rfl) (by simp) ?_
  refine AllReadyH.cons (o := _) rfl (fun K hK => ?_) AllReadyH.nil
  rw [if_pos (by rfl)]
  refine wp_store_row 66 _ _ rfl (w.heap.size + 1 + 1) (cellsI y) rfl rfl 66 (cellsI zeroX) f1 (info_inC y) rfl (oneI y) ?_
  refine hK.out _ _ (RSx.set (by assumption) (by omega) _) (fun hHeld2 => ?_)
  clear hK K
  try simp only [Act.put, List.setIfInBounds_toArray]
  refine wpAnyH_ready (rs := [3]) (by kernel_rfl) (by simp) ?_
  refine AllReadyH.cons (o := _) rfl (fun K hK => ?_) AllReadyH.nil
  rw [if_pos (by rfl)]
  refine wp_store_row 30 _ _ rfl (w.heap.size + 1 + 1 + 1) (cellsB mm) rfl rfl 30 (cellsB noM) f2 (info_msgC mm) rfl hone.out ?_
  refine hK.out _ _ (RSx.set hHeld2 (by omega) _) (fun hHeld3 => ?_)
  clear hK K
  try simp only [Act.put]
  refine wpAnyH_done (by kernel_rfl) ?_ _
  go_wp2
  refine bodyPost_ret (results_IM rfl rfl rfl f3 f4) rfl ⟨rfl, f5⟩

set_option maxHeartbeats 4000000 in
set_option maxRecDepth 100000 in
theorem rd_20 (m : MM) (x : XS) (hs : x.S.length ≤ 1000000) (hv : m.nv.oneCell' = true ∧ m.qv.oneCell' = true) (w : World) :
    Calls Tryz.prog 30 #[inV x, msgV m, .int .i64 22] w fun e w' => e = .returned (.tuple #[inV (qF m x 20).2, msgV (qF m x 20).1]) ∧ Below w.heap.size w w' := by
  have HN := Lib.hid (fun W => Xnum x 1 1 rfl hs W)
  have hz := zero_in
  have hzm := zero_msgW
  obtain ⟨W0, hW0, hS0⟩ := RSt.new w x m
  have hq : Hid (qF m x 20 = ({ m with lz := (qN x 1).1 }, (qN x 1).2)) := Lib.hid rfl
  rw [hq.out]
  clear hq
  dsimp only
  generalize (qN x 1).2 = y at *
  generalize (qN x 1).1 = v at *
  replace hW0 := Lib.hid hW0
  replace hS0 := Lib.hid hS0
  have hone := Lib.hid (cellsB_one { m with lz := v } hv.1 hv.2)
  have hm' : Hid ((cellsB m).setIfInBounds 36 (.int .i64 v) = cellsB { m with lz := v }) := Lib.hid (setB_20 m v)
  have hc : (cellsB m)[36]? = some (.int .i64 m.lz) := rfl
  generalize ({ m with lz := v } : MM) = mm at *
  unfold inV msgV at *
  go_enter Tryz.func30, Tryz.ntmps30
  go_wp2_with (first
    | (simp only [hz.out, hzm.out, hW0.out])
    | (refine wpList_load_row rfl 66 _ rfl w.heap.size rfl 66 (cellsI x) (0, 0) _ hS0.out.inB Tryz.underlying66 rfl (info_inC x) ?_))
  refine (HN.out _).mono ?_
  rintro e W1 ⟨rfl, hB1⟩
  have hS1 := Lib.hid (hS0.out.go hB1)
  clear hB1
  have hs2 := hS1.out.setI y
  obtain ⟨W2, hW2⟩ : ∃ W2, W1.setRow w.heap.size (cellsI y) = W2 := ⟨_, rfl⟩
  rw [hW2] at hs2
  have hS2 := Lib.hid hs2
  replace hW2 := Lib.hid hW2
  have c1 := (hS2.out.msB.cell 36).trans hc
  have f1 := hS2.out.msB.frozen 36
  have hS3 := Lib.hid (hS2.out.setM hm'.out)
  clear hs2
  go_wp2_with (refine wpList_store_row rfl 66 _ _ rfl w.heap.size (cellsI y) rfl rfl 66 (cellsI x) hS1.out.inB (info_inC y) rfl (oneI y) ?_; rw [hW2.out])
  obtain ⟨W3, hW3⟩ : ∃ W3, W2.setCell ⟨w.heap.size + 1, 36, none⟩ (.int .i64 v) = W3 := ⟨_, rfl⟩
  rw [hW3] at hS3 ⊢
  clear hW3 c1 f1 hS2 hW2 hS1 hm' hc
  have hS4 := Lib.hid hS3.out.drew
  clear hS3
  refine wp_region_held_drew (S := fun W => RSx w W y mm) (by kernel_rfl) hS4.out.x (fun hHeld => ?_)
  refine takeD (i := 0) (oi := _) (d := some 159) (v := .agg (cellsI y)) rfl rfl (by kernel_rfl) (by kernel_rfl) (by kernel_rfl) (fun _ _ _ h => h) (yieldsIf_load_row (by rfl) 66 _ rfl w.heap.size rfl (cellsI y) (fun W h => load_In h.inB)) (by assumption) ?_
  try simp only [Act.put, List.setIfInBounds_toArray, List.set_cons_zero, List.set_cons_succ]
  refine takeD (i := 1) (oi := _) (d := some 160) (v := .agg (cellsB mm)) rfl rfl (by kernel_rfl) (by kernel_rfl) (by kernel_rfl) (fun _ _ _ h => h) (yieldsIf_load_row (by rfl) 30 _ rfl (w.heap.size + 1) rfl (cellsB mm) (fun W h => load_msg h.msB)) (by assumption) ?_
  try simp only [Act.put, List.setIfInBounds_toArray, List.set_cons_zero, List.set_cons_succ]
  obtain ⟨f1, f2, f3, f4, f5⟩ := hS4.out.fin
  refine wpAnyH_ready (rs := [2]) (by kernel_rfl) (by simp) ?_
  refine AllReadyH.cons (o := _) rfl (fun K hK => ?_) AllReadyH.nil
  rw [if_pos (by rfl)]
  refine wp_store_row 66 _ _ rfl (w.heap.size + 1 + 1) (cellsI y) rfl rfl 66 (cellsI zeroX) f1 (info_inC y) rfl (oneI y) ?_
  refine hK.out _ _ (RSx.set (by assumption) (by omega) _) (fun hHeld2 => ?_)
  clear hK K
  try simp only [Act.put, List.setIfInBounds_toArray]
  refine wpAnyH_ready (rs := [3]) (by kernel_rfl) (by simp) ?_
  refine AllReadyH.cons (o := _) rfl (fun K hK => ?_) AllReadyH.nil
  rw [if_pos (by rfl)]
  refine wp_store_row 30 _ _ rfl (w.heap.size + 1 + 1 + 1) (cellsB mm) rfl rfl 30 (cellsB noM) f2 (info_msgC mm) rfl hone.out ?_
  refine hK.out _ _ (RSx.set hHeld2 (by omega) _) (fun hHeld3 => ?_)
  clear hK K
  try simp only [Act.put]
  refine wpAnyH_done (by kernel_rfl) ?_ _
  go_wp2
  refine bodyPost_ret (results_IM rfl rfl rfl f3 f4) rfl ⟨rfl, f5⟩

set_option maxHeartbeats 4000000 in
set_option maxRecDepth 100000 in
theorem rd_21 (m : MM) (x : XS) (hs : x.S.length ≤ 1000000) (hv : m.nv.oneCell' = true ∧ m.qv.oneCell' = true) (w : World) :
    Calls Tryz.prog 30 #[inV x, msgV m, .int .i64 23] w fun e w' => e = .returned (.tuple #[inV (qF m x 21).2, msgV (qF m x 21).1]) ∧ Below w.heap.size w w' := by
  have HN := Lib.hid (fun W => Xnum x 4 4 rfl hs W)
  have hz := zero_in
  have hzm := zero_msgW
  obtain ⟨W0, hW0, hS0⟩ := RSt.new w x m
  have hq : Hid (qF m x 21 = ({ m with te := (qN x 4).1 }, (qN x 4).2)) := Lib.hid rfl
  rw [hq.out]
  clear hq
  dsimp only
  generalize (qN x 4).2 = y at *
  generalize (qN x 4).1 = v at *
  replace hW0 := Lib.hid hW0
  replace hS0 := Lib.hid hS0
  have hone := Lib.hid (cellsB_one { m with te := v } hv.1 hv.2)
  have hm' : Hid ((cellsB m).setIfInBounds 37 (.int .i64 v) = cellsB { m with te := v }) := Lib.hid (setB_21 m v)
  have hc : (cellsB m)[37]? = some (.int .i64 m.te) := rfl
  generalize ({ m with te := v } : MM) = mm at *
  unfold inV msgV at *
  go_enter Tryz.func30, Tryz.ntmps30
  go_wp2_with (first
    | (simp only [hz.out, hzm.out, hW0.out])
    | (refine wpList_load_row rfl 66 _ rfl w.heap.size rfl 66 (cellsI x) (0, 0) _ hS0.out.inB Tryz.underlying66 rfl (info_inC x) ?_))
  refine (HN.out _).mono ?_
  rintro e W1 ⟨rfl, hB1⟩
  have hS1 := Lib.hid (hS0.out.go hB1)
  clear hB1
  have hs2 := hS1.out.setI y
  obtain ⟨W2, hW2⟩ : ∃ W2, W1.setRow w.heap.size (cellsI y) = W2 := ⟨_, rfl⟩
  rw [hW2] at hs2
  have hS2 := Lib.hid hs2
  replace hW2 := Lib.hid hW2
  have c1 := (hS2.out.msB.cell 37).trans hc
  have f1 := hS2.out.msB.frozen 37
  have hS3 := Lib.hid (hS2.out.setM hm'.out)
  clear hs2
  go_wp2_with (refine wpList_store_row rfl 66 _ _ rfl w.heap.size (cellsI y) rfl rfl 66 (cellsI x) hS1.out.inB (info_inC y) rfl (oneI y) ?_; rw [hW2.out])
  obtain ⟨W3, hW3⟩ : ∃ W3, W2.setCell ⟨w.heap.size + 1, 37, none⟩ (.int .i64 v) = W3 := ⟨_, rfl⟩
  rw [hW3] at hS3 ⊢
  clear hW3 c1 f1 hS2 hW2 hS1 hm' hc
  have hS4 := Lib.hid hS3.out.drew
  clear hS3
  refine wp_region_held_drew (S := fun W => RSx w W y mm) (by kernel_rfl) hS4.out.x (fun hHeld => ?_)
  refine takeD (i := 0) (oi := _) (d := some 159) (v := .agg (cellsI y)) rfl rfl (by kernel_rfl) (by kernel_rfl) (by kernel_rfl) (fun _ _ _ h => h) (yieldsIf_load_row (by rfl) 66 _ rfl w.heap.size rfl (cellsI y) (fun W h => load_In h.inB)) (by assumption) ?_
  try simp only [Act.put, List.setIfInBounds_toArray, List.set_cons_zero, List.set_cons_succ]
  refine takeD (i := 1) (oi := _) (d := some 160) (v := .agg (cellsB mm)) rfl rfl (by kernel_rfl) (by kernel_rfl) (by kernel_rfl) (fun _ _ _ h => h) (yieldsIf_load_row (by rfl) 30 _ rfl (w.heap.size + 1) rfl (cellsB mm) (fun W h => load_msg h.msB)) (by assumption) ?_
  try simp only [Act.put, List.setIfInBounds_toArray, List.set_cons_zero, List.set_cons_succ]
  obtain ⟨f1, f2, f3, f4, f5⟩ := hS4.out.fin
  refine wpAnyH_ready (rs := [2]) (by kernel_rfl) (by simp) ?_
  refine AllReadyH.cons (o := _) rfl (fun K hK => ?_) AllReadyH.nil
  rw [if_pos (by rfl)]
  refine wp_store_row 66 _ _ rfl (w.heap.size + 1 + 1) (cellsI y) rfl rfl 66 (cellsI zeroX) f1 (info_inC y) rfl (oneI y) ?_
  refine hK.out _ _ (RSx.set (by assumption) (by omega) _) (fun hHeld2 => ?_)
  clear hK K
  try simp only [Act.put, List.setIfInBounds_toArray]
  refine wpAnyH_ready (rs := [3]) (by kernel_rfl) (by simp) ?_
  refine AllReadyH.cons (o := _) rfl (fun K hK => ?_) AllReadyH.nil
  rw [if_pos (by rfl)]
  refine wp_store_row 30 _ _ rfl (w.heap.size + 1 + 1 + 1) (cellsB mm) rfl rfl 30 (cellsB noM) f2 (info_msgC mm) rfl hone.out ?_
  refine hK.out _ _ (RSx.set hHeld2 (by omega) _) (fun hHeld3 => ?_)
  clear hK K
  try simp only [Act.put]
  refine wpAnyH_done (by kernel_rfl) ?_ _
  go_wp2
  refine bodyPost_ret (results_IM rfl rfl rfl f3 f4) rfl ⟨rfl, f5⟩
set_option maxHeartbeats 4000000 in
set_option maxRecDepth 100000 in
theorem rd_10 (m : MM) (x : XS) (hs : x.S.length ≤ 1000000) (hv : m.nv.oneCell' = true ∧ m.qv.oneCell' = true) (w : World) :
    Calls Tryz.prog 30 #[inV x, msgV m, .int .i64 7] w fun e w' => e = .returned (.tuple #[inV (qF m x 10).2, msgV (qF m x 10).1]) ∧ Below w.heap.size w w' := by
  have HN := Lib.hid (fun W => Xqid x hs W)
  have hz := zero_in
  have hzm := zero_msgW
  obtain ⟨W0, hW0, hS0⟩ := RSt.new w x m
  have hq : Hid (qF m x 10 = ({ m with qd := (qQ x).1 }, (qQ x).2)) := Lib.hid rfl
  rw [hq.out]
  clear hq
  dsimp only
  generalize (qQ x).2 = y at *
  generalize (qQ x).1 = v at *
  replace hW0 := Lib.hid hW0
  replace hS0 := Lib.hid hS0
  have hone := Lib.hid (cellsB_one { m with qd := v } hv.1 hv.2)
  have hm' : Hid ((((cellsB m).setIfInBounds 12 (.int .i64 v.t)).setIfInBounds 13 (.int .i64 v.v)).setIfInBounds 14 (.int .i64 v.p) = cellsB { m with qd := v }) := Lib.hid (setB_10 m v)
  have hc : (cellsB m)[12]? = some (.int .i64 m.qd.t) := rfl
  have hc2 : (cellsB m)[13]? = some (.int .i64 m.qd.v) := rfl
  have hc3 : (cellsB m)[14]? = some (.int .i64 m.qd.p) := rfl
  generalize ({ m with qd := v } : MM) = mm at *
  unfold inV msgV at *
  unfold cellsQ3 at *
  go_enter Tryz.func30, Tryz.ntmps30
  go_wp2_with (first
    | (simp only [hz.out, hzm.out, hW0.out])
    | (refine wpList_load_row rfl 66 _ rfl w.heap.size rfl 66 (cellsI x) (0, 0) _ hS0.out.inB Tryz.underlying66 rfl (info_inC x) ?_))
  refine (HN.out _).mono ?_
  rintro e W1 ⟨rfl, hB1⟩
  have hS1 := Lib.hid (hS0.out.go hB1)
  clear hB1
  have hs2 := hS1.out.setI y
  obtain ⟨W2, hW2⟩ : ∃ W2, W1.setRow w.heap.size (cellsI y) = W2 := ⟨_, rfl⟩
  rw [hW2] at hs2
  have hS2 := Lib.hid hs2
  replace hW2 := Lib.hid hW2
  have c1 := (hS2.out.msB.cell 12).trans hc
  have f1 := hS2.out.msB.frozen 12
  have c2 := (hS2.out.msB.cell 13).trans hc2
  have f2 := hS2.out.msB.frozen 13
  have c3 := (hS2.out.msB.cell 14).trans hc3
  have f3 := hS2.out.msB.frozen 14
  have hS3 := Lib.hid (hS2.out.setQ hm'.out)
  clear hs2
  go_wp2_with (refine wpList_store_row rfl 66 _ _ rfl w.heap.size (cellsI y) rfl rfl 66 (cellsI x) hS1.out.inB (info_inC y) rfl (oneI y) ?_; rw [hW2.out])
  obtain ⟨W3, hW3⟩ : ∃ W3, ((W2.setCell ⟨w.heap.size + 1, 12, none⟩ (.int .i64 v.t)).setCell ⟨w.heap.size + 1, 13, none⟩ (.int .i64 v.v)).setCell ⟨w.heap.size + 1, 14, none⟩ (.int .i64 v.p) = W3 := ⟨_, rfl⟩
  rw [hW3] at hS3 ⊢
  clear hW3 c1 f1 c2 f2 c3 f3 hS2 hW2 hS1 hm' hc hc2 hc3
  have hS4 := Lib.hid hS3.out.drew
  clear hS3
  refine wp_region_held_drew (S := fun W => RSx w W y mm) (by kernel_rfl) hS4.out.x (fun hHeld => ?_)
  refine takeD (i := 0) (oi := _) (d := some 159) (v := .agg (cellsI y)) rfl rfl (by kernel_rfl) (by kernel_rfl) (by kernel_rfl) (fun _ _ _ h => h) (yieldsIf_load_row (by rfl) 66 _ rfl w.heap.size rfl (cellsI y) (fun W h => load_In h.inB)) (by assumption) ?_
  try simp only [Act.put, List.setIfInBounds_toArray, List.set_cons_zero, List.set_cons_succ]
  refine takeD (i := 1) (oi := _) (d := some 160) (v := .agg (cellsB mm)) rfl rfl (by kernel_rfl) (by kernel_rfl) (by kernel_rfl) (fun _ _ _ h => h) (yieldsIf_load_row (by rfl) 30 _ rfl (w.heap.size + 1) rfl (cellsB mm) (fun W h => load_msg h.msB)) (by assumption) ?_
  try simp only [Act.put, List.setIfInBounds_toArray, List.set_cons_zero, List.set_cons_succ]
  obtain ⟨f1, f2, f3, f4, f5⟩ := hS4.out.fin
  refine wpAnyH_ready (rs := [2]) (by kernel_rfl) (by simp) ?_
  refine AllReadyH.cons (o := _) rfl (fun K hK => ?_) AllReadyH.nil
  rw [if_pos (by rfl)]
  refine wp_store_row 66 _ _ rfl (w.heap.size + 1 + 1) (cellsI y) rfl rfl 66 (cellsI zeroX) f1 (info_inC y) rfl (oneI y) ?_
  refine hK.out _ _ (RSx.set (by assumption) (by omega) _) (fun hHeld2 => ?_)
  clear hK K
  try simp only [Act.put, List.setIfInBounds_toArray]
  refine wpAnyH_ready (rs := [3]) (by kernel_rfl) (by simp) ?_
  refine AllReadyH.cons (o := _) rfl (fun K hK => ?_) AllReadyH.nil
  rw [if_pos (by rfl)]
  refine wp_store_row 30 _ _ rfl (w.heap.size + 1 + 1 + 1) (cellsB mm) rfl rfl 30 (cellsB noM) f2 (info_msgC mm) rfl hone.out ?_
  refine hK.out _ _ (RSx.set hHeld2 (by omega) _) (fun hHeld3 => ?_)
  clear hK K
  try simp only [Act.put]
  refine wpAnyH_done (by kernel_rfl) ?_ _
  go_wp2
  refine bodyPost_ret (results_IM rfl rfl rfl f3 f4) rfl ⟨rfl, f5⟩
end Go.Proofs.YtlfdmbfbfadifaaGreatDoor

namespace Go.Proofs.YtlfdmbfbfadifaaGreatDoor
open Go.RowKit

set_option maxHeartbeats 4000000 in
set_option maxRecDepth 100000 in
theorem rd_5 (m : MM) (x : XS) (hs : x.S.length ≤ 1000000) (hv : m.nv.oneCell' = true ∧ m.qv.oneCell' = true) (w : World) :
    Calls Tryz.prog 30 #[inV x, msgV m, .int .i64 2] w fun e w' => e = .returned (.tuple #[inV (qF m x 5).2, msgV (qF m x 5).1]) ∧ Below w.heap.size w w' := by
  have HN := Lib.hid (fun W => Xtext x hs W)
  have hz := zero_in
  have hzm := zero_msgW
  obtain ⟨W0, hW0, hS0⟩ := RSt.new w x m
  have hq : Hid (qF m x 5 = ({ m with ve := (qT x).1 }, (qT x).2)) := Lib.hid rfl
  rw [hq.out]
  clear hq
  dsimp only
  generalize (qT x).2 = y at *
  generalize (qT x).1 = v at *
  replace hW0 := Lib.hid hW0
  replace hS0 := Lib.hid hS0
  have hone := Lib.hid (cellsB_one { m with ve := v } hv.1 hv.2)
  have hm' : Hid ((cellsB m).setIfInBounds 7 (.string (mk v)) = cellsB { m with ve := v }) := Lib.hid (setB_5 m v)
  have hc : (cellsB m)[7]? = some (.string (mk m.ve)) := rfl
  generalize ({ m with ve := v } : MM) = mm at *
  unfold inV msgV at *
  go_enter Tryz.func30, Tryz.ntmps30
  go_wp2_with (first
    | (simp only [hz.out, hzm.out, hW0.out])
    | (refine wpList_load_row rfl 66 _ rfl w.heap.size rfl 66 (cellsI x) (0, 0) _ hS0.out.inB Tryz.underlying66 rfl (info_inC x) ?_))
  refine (HN.out _).mono ?_
  rintro e W1 ⟨rfl, hB1⟩
  have hS1 := Lib.hid (hS0.out.go hB1)
  clear hB1
  have hs2 := hS1.out.setI y
  obtain ⟨W2, hW2⟩ : ∃ W2, W1.setRow w.heap.size (cellsI y) = W2 := ⟨_, rfl⟩
  rw [hW2] at hs2
  have hS2 := Lib.hid hs2
  replace hW2 := Lib.hid hW2
  have c1 := (hS2.out.msB.cell 7).trans hc
  have f1 := hS2.out.msB.frozen 7
  have hS3 := Lib.hid (hS2.out.setM hm'.out)
  clear hs2
  go_wp2_with (refine wpList_store_row rfl 66 _ _ rfl w.heap.size (cellsI y) rfl rfl 66 (cellsI x) hS1.out.inB (info_inC y) rfl (oneI y) ?_; rw [hW2.out])
  obtain ⟨W3, hW3⟩ : ∃ W3, W2.setCell ⟨w.heap.size + 1, 7, none⟩ (.string (mk v)) = W3 := ⟨_, rfl⟩
  rw [hW3] at hS3 ⊢
  clear hW3 c1 f1 hS2 hW2 hS1 hm' hc
  have hS4 := Lib.hid hS3.out.drew
  clear hS3
  refine wp_region_held_drew (S := fun W => RSx w W y mm) (by kernel_rfl) hS4.out.x (fun hHeld => ?_)
  refine takeD (i := 0) (oi := _) (d := some 159) (v := .agg (cellsI y)) rfl rfl (by kernel_rfl) (by kernel_rfl) (by kernel_rfl) (fun _ _ _ h => h) (yieldsIf_load_row (by rfl) 66 _ rfl w.heap.size rfl (cellsI y) (fun W h => load_In h.inB)) (by assumption) ?_
  try simp only [Act.put, List.setIfInBounds_toArray, List.set_cons_zero, List.set_cons_succ]
  refine takeD (i := 1) (oi := _) (d := some 160) (v := .agg (cellsB mm)) rfl rfl (by kernel_rfl) (by kernel_rfl) (by kernel_rfl) (fun _ _ _ h => h) (yieldsIf_load_row (by rfl) 30 _ rfl (w.heap.size + 1) rfl (cellsB mm) (fun W h => load_msg h.msB)) (by assumption) ?_
  try simp only [Act.put, List.setIfInBounds_toArray, List.set_cons_zero, List.set_cons_succ]
  obtain ⟨f1, f2, f3, f4, f5⟩ := hS4.out.fin
  refine wpAnyH_ready (rs := [2]) (by kernel_rfl) (by simp) ?_
  refine AllReadyH.cons (o := _) rfl (fun K hK => ?_) AllReadyH.nil
  rw [if_pos (by rfl)]
  refine wp_store_row 66 _ _ rfl (w.heap.size + 1 + 1) (cellsI y) rfl rfl 66 (cellsI zeroX) f1 (info_inC y) rfl (oneI y) ?_
  refine hK.out _ _ (RSx.set (by assumption) (by omega) _) (fun hHeld2 => ?_)
  clear hK K
  try simp only [Act.put, List.setIfInBounds_toArray]
  refine wpAnyH_ready (rs := [3]) (by kernel_rfl) (by simp) ?_
  refine AllReadyH.cons (o := _) rfl (fun K hK => ?_) AllReadyH.nil
  rw [if_pos (by rfl)]
  refine wp_store_row 30 _ _ rfl (w.heap.size + 1 + 1 + 1) (cellsB mm) rfl rfl 30 (cellsB noM) f2 (info_msgC mm) rfl hone.out ?_
  refine hK.out _ _ (RSx.set hHeld2 (by omega) _) (fun hHeld3 => ?_)
  clear hK K
  try simp only [Act.put]
  refine wpAnyH_done (by kernel_rfl) ?_ _
  go_wp2
  refine bodyPost_ret (results_IM rfl rfl rfl f3 f4) rfl ⟨rfl, f5⟩

set_option maxHeartbeats 4000000 in
set_option maxRecDepth 100000 in
theorem rd_6 (m : MM) (x : XS) (hs : x.S.length ≤ 1000000) (hv : m.nv.oneCell' = true ∧ m.qv.oneCell' = true) (w : World) :
    Calls Tryz.prog 30 #[inV x, msgV m, .int .i64 5] w fun e w' => e = .returned (.tuple #[inV (qF m x 6).2, msgV (qF m x 6).1]) ∧ Below w.heap.size w w' := by
  have HN := Lib.hid (fun W => Xtext x hs W)
  have hz := zero_in
  have hzm := zero_msgW
  obtain ⟨W0, hW0, hS0⟩ := RSt.new w x m
  have hq : Hid (qF m x 6 = ({ m with us := (qT x).1 }, (qT x).2)) := Lib.hid rfl
  rw [hq.out]
  clear hq
  dsimp only
  generalize (qT x).2 = y at *
  generalize (qT x).1 = v at *
  replace hW0 := Lib.hid hW0
  replace hS0 := Lib.hid hS0
  have hone := Lib.hid (cellsB_one { m with us := v } hv.1 hv.2)
  have hm' : Hid ((cellsB m).setIfInBounds 8 (.string (mk v)) = cellsB { m with us := v }) := Lib.hid (setB_6 m v)
  have hc : (cellsB m)[8]? = some (.string (mk m.us)) := rfl
  generalize ({ m with us := v } : MM) = mm at *
  unfold inV msgV at *
  go_enter Tryz.func30, Tryz.ntmps30
  go_wp2_with (first
    | (simp only [hz.out, hzm.out, hW0.out])
    | (refine wpList_load_row rfl 66 _ rfl w.heap.size rfl 66 (cellsI x) (0, 0) _ hS0.out.inB Tryz.underlying66 rfl (info_inC x) ?_))
  refine (HN.out _).mono ?_
  rintro e W1 ⟨rfl, hB1⟩
  have hS1 := Lib.hid (hS0.out.go hB1)
  clear hB1
  have hs2 := hS1.out.setI y
  obtain ⟨W2, hW2⟩ : ∃ W2, W1.setRow w.heap.size (cellsI y) = W2 := ⟨_, rfl⟩
  rw [hW2] at hs2
  have hS2 := Lib.hid hs2
  replace hW2 := Lib.hid hW2
  have c1 := (hS2.out.msB.cell 8).trans hc
  have f1 := hS2.out.msB.frozen 8
  have hS3 := Lib.hid (hS2.out.setM hm'.out)
  clear hs2
  go_wp2_with (refine wpList_store_row rfl 66 _ _ rfl w.heap.size (cellsI y) rfl rfl 66 (cellsI x) hS1.out.inB (info_inC y) rfl (oneI y) ?_; rw [hW2.out])
  obtain ⟨W3, hW3⟩ : ∃ W3, W2.setCell ⟨w.heap.size + 1, 8, none⟩ (.string (mk v)) = W3 := ⟨_, rfl⟩
  rw [hW3] at hS3 ⊢
  clear hW3 c1 f1 hS2 hW2 hS1 hm' hc
  have hS4 := Lib.hid hS3.out.drew
  clear hS3
  refine wp_region_held_drew (S := fun W => RSx w W y mm) (by kernel_rfl) hS4.out.x (fun hHeld => ?_)
  refine takeD (i := 0) (oi := _) (d := some 159) (v := .agg (cellsI y)) rfl rfl (by kernel_rfl) (by kernel_rfl) (by kernel_rfl) (fun _ _ _ h => h) (yieldsIf_load_row (by rfl) 66 _ rfl w.heap.size rfl (cellsI y) (fun W h => load_In h.inB)) (by assumption) ?_
  try simp only [Act.put, List.setIfInBounds_toArray, List.set_cons_zero, List.set_cons_succ]
  refine takeD (i := 1) (oi := _) (d := some 160) (v := .agg (cellsB mm)) rfl rfl (by kernel_rfl) (by kernel_rfl) (by kernel_rfl) (fun _ _ _ h => h) (yieldsIf_load_row (by rfl) 30 _ rfl (w.heap.size + 1) rfl (cellsB mm) (fun W h => load_msg h.msB)) (by assumption) ?_
  try simp only [Act.put, List.setIfInBounds_toArray, List.set_cons_zero, List.set_cons_succ]
  obtain ⟨f1, f2, f3, f4, f5⟩ := hS4.out.fin
  refine wpAnyH_ready (rs := [2]) (by kernel_rfl) (by simp) ?_
  refine AllReadyH.cons (o := _) rfl (fun K hK => ?_) AllReadyH.nil
  rw [if_pos (by rfl)]
  refine wp_store_row 66 _ _ rfl (w.heap.size + 1 + 1) (cellsI y) rfl rfl 66 (cellsI zeroX) f1 (info_inC y) rfl (oneI y) ?_
  refine hK.out _ _ (RSx.set (by assumption) (by omega) _) (fun hHeld2 => ?_)
  clear hK K
  try simp only [Act.put, List.setIfInBounds_toArray]
  refine wpAnyH_ready (rs := [3]) (by kernel_rfl) (by simp) ?_
  refine AllReadyH.cons (o := _) rfl (fun K hK => ?_) AllReadyH.nil
  rw [if_pos (by rfl)]
  refine wp_store_row 30 _ _ rfl (w.heap.size + 1 + 1 + 1) (cellsB mm) rfl rfl 30 (cellsB noM) f2 (info_msgC mm) rfl hone.out ?_
  refine hK.out _ _ (RSx.set hHeld2 (by omega) _) (fun hHeld3 => ?_)
  clear hK K
  try simp only [Act.put]
  refine wpAnyH_done (by kernel_rfl) ?_ _
  go_wp2
  refine bodyPost_ret (results_IM rfl rfl rfl f3 f4) rfl ⟨rfl, f5⟩

set_option maxHeartbeats 4000000 in
set_option maxRecDepth 100000 in
theorem rd_7 (m : MM) (x : XS) (hs : x.S.length ≤ 1000000) (hv : m.nv.oneCell' = true ∧ m.qv.oneCell' = true) (w : World) :
    Calls Tryz.prog 30 #[inV x, msgV m, .int .i64 6] w fun e w' => e = .returned (.tuple #[inV (qF m x 7).2, msgV (qF m x 7).1]) ∧ Below w.heap.size w w' := by
  have HN := Lib.hid (fun W => Xtext x hs W)
  have hz := zero_in
  have hzm := zero_msgW
  obtain ⟨W0, hW0, hS0⟩ := RSt.new w x m
  have hq : Hid (qF m x 7 = ({ m with ac := (qT x).1 }, (qT x).2)) := Lib.hid rfl
  rw [hq.out]
  clear hq
  dsimp only
  generalize (qT x).2 = y at *
  generalize (qT x).1 = v at *
  replace hW0 := Lib.hid hW0
  replace hS0 := Lib.hid hS0
  have hone := Lib.hid (cellsB_one { m with ac := v } hv.1 hv.2)
  have hm' : Hid ((cellsB m).setIfInBounds 9 (.string (mk v)) = cellsB { m with ac := v }) := Lib.hid (setB_7 m v)
  have hc : (cellsB m)[9]? = some (.string (mk m.ac)) := rfl
  generalize ({ m with ac := v } : MM) = mm at *
  unfold inV msgV at *
  go_enter Tryz.func30, Tryz.ntmps30
  go_wp2_with (first
    | (simp only [hz.out, hzm.out, hW0.out])
    | (refine wpList_load_row rfl 66 _ rfl w.heap.size rfl 66 (cellsI x) (0, 0) _ hS0.out.inB Tryz.underlying66 rfl (info_inC x) ?_))
  refine (HN.out _).mono ?_
  rintro e W1 ⟨rfl, hB1⟩
  have hS1 := Lib.hid (hS0.out.go hB1)
  clear hB1
  have hs2 := hS1.out.setI y
  obtain ⟨W2, hW2⟩ : ∃ W2, W1.setRow w.heap.size (cellsI y) = W2 := ⟨_, rfl⟩
  rw [hW2] at hs2
  have hS2 := Lib.hid hs2
  replace hW2 := Lib.hid hW2
  have c1 := (hS2.out.msB.cell 9).trans hc
  have f1 := hS2.out.msB.frozen 9
  have hS3 := Lib.hid (hS2.out.setM hm'.out)
  clear hs2
  go_wp2_with (refine wpList_store_row rfl 66 _ _ rfl w.heap.size (cellsI y) rfl rfl 66 (cellsI x) hS1.out.inB (info_inC y) rfl (oneI y) ?_; rw [hW2.out])
  obtain ⟨W3, hW3⟩ : ∃ W3, W2.setCell ⟨w.heap.size + 1, 9, none⟩ (.string (mk v)) = W3 := ⟨_, rfl⟩
  rw [hW3] at hS3 ⊢
  clear hW3 c1 f1 hS2 hW2 hS1 hm' hc
  have hS4 := Lib.hid hS3.out.drew
  clear hS3
  refine wp_region_held_drew (S := fun W => RSx w W y mm) (by kernel_rfl) hS4.out.x (fun hHeld => ?_)
  refine takeD (i := 0) (oi := _) (d := some 159) (v := .agg (cellsI y)) rfl rfl (by kernel_rfl) (by kernel_rfl) (by kernel_rfl) (fun _ _ _ h => h) (yieldsIf_load_row (by rfl) 66 _ rfl w.heap.size rfl (cellsI y) (fun W h => load_In h.inB)) (by assumption) ?_
  try simp only [Act.put, List.setIfInBounds_toArray, List.set_cons_zero, List.set_cons_succ]
  refine takeD (i := 1) (oi := _) (d := some 160) (v := .agg (cellsB mm)) rfl rfl (by kernel_rfl) (by kernel_rfl) (by kernel_rfl) (fun _ _ _ h => h) (yieldsIf_load_row (by rfl) 30 _ rfl (w.heap.size + 1) rfl (cellsB mm) (fun W h => load_msg h.msB)) (by assumption) ?_
  try simp only [Act.put, List.setIfInBounds_toArray, List.set_cons_zero, List.set_cons_succ]
  obtain ⟨f1, f2, f3, f4, f5⟩ := hS4.out.fin
  refine wpAnyH_ready (rs := [2]) (by kernel_rfl) (by simp) ?_
  refine AllReadyH.cons (o := _) rfl (fun K hK => ?_) AllReadyH.nil
  rw [if_pos (by rfl)]
  refine wp_store_row 66 _ _ rfl (w.heap.size + 1 + 1) (cellsI y) rfl rfl 66 (cellsI zeroX) f1 (info_inC y) rfl (oneI y) ?_
  refine hK.out _ _ (RSx.set (by assumption) (by omega) _) (fun hHeld2 => ?_)
  clear hK K
  try simp only [Act.put, List.setIfInBounds_toArray]
  refine wpAnyH_ready (rs := [3]) (by kernel_rfl) (by simp) ?_
  refine AllReadyH.cons (o := _) rfl (fun K hK => ?_) AllReadyH.nil
  rw [if_pos (by rfl)]
  refine wp_store_row 30 _ _ rfl (w.heap.size + 1 + 1 + 1) (cellsB mm) rfl rfl 30 (cellsB noM) f2 (info_msgC mm) rfl hone.out ?_
  refine hK.out _ _ (RSx.set hHeld2 (by omega) _) (fun hHeld3 => ?_)
  clear hK K
  try simp only [Act.put]
  refine wpAnyH_done (by kernel_rfl) ?_ _
  go_wp2
  refine bodyPost_ret (results_IM rfl rfl rfl f3 f4) rfl ⟨rfl, f5⟩

set_option maxHeartbeats 4000000 in
set_option maxRecDepth 100000 in
theorem rd_14 (m : MM) (x : XS) (hs : x.S.length ≤ 1000000) (hv : m.nv.oneCell' = true ∧ m.qv.oneCell' = true) (w : World) :
    Calls Tryz.prog 30 #[inV x, msgV m, .int .i64 16] w fun e w' => e = .returned (.tuple #[inV (qF m x 14).2, msgV (qF m x 14).1]) ∧ Below w.heap.size w w' := by
  have HN := Lib.hid (fun W => Xtext x hs W)
  have hz := zero_in
  have hzm := zero_msgW
  obtain ⟨W0, hW0, hS0⟩ := RSt.new w x m
  have hq : Hid (qF m x 14 = ({ m with na := (qT x).1 }, (qT x).2)) := Lib.hid rfl
  rw [hq.out]
  clear hq
  dsimp only
  generalize (qT x).2 = y at *
  generalize (qT x).1 = v at *
  replace hW0 := Lib.hid hW0
  replace hS0 := Lib.hid hS0
  have hone := Lib.hid (cellsB_one { m with na := v } hv.1 hv.2)
  have hm' : Hid ((cellsB m).setIfInBounds 18 (.string (mk v)) = cellsB { m with na := v }) := Lib.hid (setB_14 m v)
  have hc : (cellsB m)[18]? = some (.string (mk m.na)) := rfl
  generalize ({ m with na := v } : MM) = mm at *
  unfold inV msgV at *
  go_enter Tryz.func30, Tryz.ntmps30
  go_wp2_with (first
    | (simp only [hz.out, hzm.out, hW0.out])
    | (refine wpList_load_row rfl 66 _ rfl w.heap.size rfl 66 (cellsI x) (0, 0) _ hS0.out.inB Tryz.underlying66 rfl (info_inC x) ?_))
  refine (HN.out _).mono ?_
  rintro e W1 ⟨rfl, hB1⟩
  have hS1 := Lib.hid (hS0.out.go hB1)
  clear hB1
  have hs2 := hS1.out.setI y
  obtain ⟨W2, hW2⟩ : ∃ W2, W1.setRow w.heap.size (cellsI y) = W2 := ⟨_, rfl⟩
  rw [hW2] at hs2
  have hS2 := Lib.hid hs2
  replace hW2 := Lib.hid hW2
  have c1 := (hS2.out.msB.cell 18).trans hc
  have f1 := hS2.out.msB.frozen 18
  have hS3 := Lib.hid (hS2.out.setM hm'.out)
  clear hs2
  go_wp2_with (refine wpList_store_row rfl 66 _ _ rfl w.heap.size (cellsI y) rfl rfl 66 (cellsI x) hS1.out.inB (info_inC y) rfl (oneI y) ?_; rw [hW2.out])
  obtain ⟨W3, hW3⟩ : ∃ W3, W2.setCell ⟨w.heap.size + 1, 18, none⟩ (.string (mk v)) = W3 := ⟨_, rfl⟩
  rw [hW3] at hS3 ⊢
  clear hW3 c1 f1 hS2 hW2 hS1 hm' hc
  have hS4 := Lib.hid hS3.out.drew
  clear hS3
  refine wp_region_held_drew (S := fun W => RSx w W y mm) (by kernel_rfl) hS4.out.x (fun hHeld => ?_)
  refine takeD (i := 0) (oi := _) (d := some 159) (v := .agg (cellsI y)) rfl rfl (by kernel_rfl) (by kernel_rfl) (by kernel_rfl) (fun _ _ _ h => h) (yieldsIf_load_row (by rfl) 66 _ rfl w.heap.size rfl (cellsI y) (fun W h => load_In h.inB)) (by assumption) ?_
  try simp only [Act.put, List.setIfInBounds_toArray, List.set_cons_zero, List.set_cons_succ]
  refine takeD (i := 1) (oi := _) (d := some 160) (v := .agg (cellsB mm)) rfl rfl (by kernel_rfl) (by kernel_rfl) (by kernel_rfl) (fun _ _ _ h => h) (yieldsIf_load_row (by rfl) 30 _ rfl (w.heap.size + 1) rfl (cellsB mm) (fun W h => load_msg h.msB)) (by assumption) ?_
  try simp only [Act.put, List.setIfInBounds_toArray, List.set_cons_zero, List.set_cons_succ]
  obtain ⟨f1, f2, f3, f4, f5⟩ := hS4.out.fin
  refine wpAnyH_ready (rs := [2]) (by kernel_rfl) (by simp) ?_
  refine AllReadyH.cons (o := _) rfl (fun K hK => ?_) AllReadyH.nil
  rw [if_pos (by rfl)]
  refine wp_store_row 66 _ _ rfl (w.heap.size + 1 + 1) (cellsI y) rfl rfl 66 (cellsI zeroX) f1 (info_inC y) rfl (oneI y) ?_
  refine hK.out _ _ (RSx.set (by assumption) (by omega) _) (fun hHeld2 => ?_)
  clear hK K
  try simp only [Act.put, List.setIfInBounds_toArray]
  refine wpAnyH_ready (rs := [3]) (by kernel_rfl) (by simp) ?_
  refine AllReadyH.cons (o := _) rfl (fun K hK => ?_) AllReadyH.nil
  rw [if_pos (by rfl)]
  refine wp_store_row 30 _ _ rfl (w.heap.size + 1 + 1 + 1) (cellsB mm) rfl rfl 30 (cellsB noM) f2 (info_msgC mm) rfl hone.out ?_
  refine hK.out _ _ (RSx.set hHeld2 (by omega) _) (fun hHeld3 => ?_)
  clear hK K
  try simp only [Act.put]
  refine wpAnyH_done (by kernel_rfl) ?_ _
  go_wp2
  refine bodyPost_ret (results_IM rfl rfl rfl f3 f4) rfl ⟨rfl, f5⟩

set_option maxHeartbeats 4000000 in
set_option maxRecDepth 100000 in
theorem rd_22 (m : MM) (x : XS) (hs : x.S.length ≤ 1000000) (hv : m.nv.oneCell' = true ∧ m.qv.oneCell' = true) (w : World) :
    Calls Tryz.prog 30 #[inV x, msgV m, .int .i64 3] w fun e w' => e = .returned (.tuple #[inV (qF m x 22).2, msgV (qF m x 22).1]) ∧ Below w.heap.size w w' := by
  have HN := Lib.hid (fun W => Xtext x hs W)
  have hz := zero_in
  have hzm := zero_msgW
  obtain ⟨W0, hW0, hS0⟩ := RSt.new w x m
  have hq : Hid (qF m x 22 = ({ m with se := (qT x).1 }, (qT x).2)) := Lib.hid rfl
  rw [hq.out]
  clear hq
  dsimp only
  generalize (qT x).2 = y at *
  generalize (qT x).1 = v at *
  replace hW0 := Lib.hid hW0
  replace hS0 := Lib.hid hS0
  have hone := Lib.hid (cellsB_one { m with se := v } hv.1 hv.2)
  have hm' : Hid ((cellsB m).setIfInBounds 38 (.string (mk v)) = cellsB { m with se := v }) := Lib.hid (setB_22 m v)
  have hc : (cellsB m)[38]? = some (.string (mk m.se)) := rfl
  generalize ({ m with se := v } : MM) = mm at *
  unfold inV msgV at *
  go_enter Tryz.func30, Tryz.ntmps30
  go_wp2_with (first
    | (simp only [hz.out, hzm.out, hW0.out])
    | (refine wpList_load_row rfl 66 _ rfl w.heap.size rfl 66 (cellsI x) (0, 0) _ hS0.out.inB Tryz.underlying66 rfl (info_inC x) ?_))
  refine (HN.out _).mono ?_
  rintro e W1 ⟨rfl, hB1⟩
  have hS1 := Lib.hid (hS0.out.go hB1)
  clear hB1
  have hs2 := hS1.out.setI y
  obtain ⟨W2, hW2⟩ : ∃ W2, W1.setRow w.heap.size (cellsI y) = W2 := ⟨_, rfl⟩
  rw [hW2] at hs2
  have hS2 := Lib.hid hs2
  replace hW2 := Lib.hid hW2
  have c1 := (hS2.out.msB.cell 38).trans hc
  have f1 := hS2.out.msB.frozen 38
  have hS3 := Lib.hid (hS2.out.setM hm'.out)
  clear hs2
  go_wp2_with (refine wpList_store_row rfl 66 _ _ rfl w.heap.size (cellsI y) rfl rfl 66 (cellsI x) hS1.out.inB (info_inC y) rfl (oneI y) ?_; rw [hW2.out])
  obtain ⟨W3, hW3⟩ : ∃ W3, W2.setCell ⟨w.heap.size + 1, 38, none⟩ (.string (mk v)) = W3 := ⟨_, rfl⟩
  rw [hW3] at hS3 ⊢
  clear hW3 c1 f1 hS2 hW2 hS1 hm' hc
  have hS4 := Lib.hid hS3.out.drew
  clear hS3
  refine wp_region_held_drew (S := fun W => RSx w W y mm) (by kernel_rfl) hS4.out.x (fun hHeld => ?_)
  refine takeD (i := 0) (oi := _) (d := some 159) (v := .agg (cellsI y)) rfl rfl (by kernel_rfl) (by kernel_rfl) (by kernel_rfl) (fun _ _ _ h => h) (yieldsIf_load_row (by rfl) 66 _ rfl w.heap.size rfl (cellsI y) (fun W h => load_In h.inB)) (by assumption) ?_
  try simp only [Act.put, List.setIfInBounds_toArray, List.set_cons_zero, List.set_cons_succ]
  refine takeD (i := 1) (oi := _) (d := some 160) (v := .agg (cellsB mm)) rfl rfl (by kernel_rfl) (by kernel_rfl) (by kernel_rfl) (fun _ _ _ h => h) (yieldsIf_load_row (by rfl) 30 _ rfl (w.heap.size + 1) rfl (cellsB mm) (fun W h => load_msg h.msB)) (by assumption) ?_
  try simp only [Act.put, List.setIfInBounds_toArray, List.set_cons_zero, List.set_cons_succ]
  obtain ⟨f1, f2, f3, f4, f5⟩ := hS4.out.fin
  refine wpAnyH_ready (rs := [2]) (by kernel_rfl) (by simp) ?_
  refine AllReadyH.cons (o := _) rfl (fun K hK => ?_) AllReadyH.nil
  rw [if_pos (by rfl)]
  refine wp_store_row 66 _ _ rfl (w.heap.size + 1 + 1) (cellsI y) rfl rfl 66 (cellsI zeroX) f1 (info_inC y) rfl (oneI y) ?_
  refine hK.out _ _ (RSx.set (by assumption) (by omega) _) (fun hHeld2 => ?_)
  clear hK K
  try simp only [Act.put, List.setIfInBounds_toArray]
  refine wpAnyH_ready (rs := [3]) (by kernel_rfl) (by simp) ?_
  refine AllReadyH.cons (o := _) rfl (fun K hK => ?_) AllReadyH.nil
  rw [if_pos (by rfl)]
  refine wp_store_row 30 _ _ rfl (w.heap.size + 1 + 1 + 1) (cellsB mm) rfl rfl 30 (cellsB noM) f2 (info_msgC mm) rfl hone.out ?_
  refine hK.out _ _ (RSx.set hHeld2 (by omega) _) (fun hHeld3 => ?_)
  clear hK K
  try simp only [Act.put]
  refine wpAnyH_done (by kernel_rfl) ?_ _
  go_wp2
  refine bodyPost_ret (results_IM rfl rfl rfl f3 f4) rfl ⟨rfl, f5⟩
end Go.Proofs.YtlfdmbfbfadifaaGreatDoor
