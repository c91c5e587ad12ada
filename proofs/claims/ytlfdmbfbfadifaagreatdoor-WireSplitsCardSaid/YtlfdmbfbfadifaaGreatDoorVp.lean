/-
  The reference's reader: data.
  The reference's reader: a description.
-/
import Derived.Test.YtlfdmbfbfadifaaGreatDoorVi
namespace Go.Proofs.YtlfdmbfbfadifaaGreatDoor
open Go.RowKit

theorem qN_nn (x : XS) (w : Nat) : 0 ≤ (qN x w).1 ∧ (qN x w).1 < 9223372036854775808 := by
  unfold qN
  split
  · exact ⟨by decide, by decide⟩
  · exact ⟨(getR_val x.S 0 w).1, (getR_val x.S 0 w).2.1⟩
theorem qRaw_len (n : Int) (x : XS) : (qRaw (n, x)).2.S.length ≤ x.S.length ∧ (qRaw (n, x)).1.length ≤ x.S.length := by
  unfold qRaw
  split
  · exact ⟨Nat.zero_le _, Nat.zero_le _⟩
  · dsimp only; rw [List.length_drop, List.length_take]; exact ⟨by omega, by omega⟩
set_option maxHeartbeats 4000000 in
set_option maxRecDepth 100000 in
theorem rl_17 (m : MM) (x : XS) (hs : x.S.length ≤ 1000000) (hv : m.nv.oneCell' = true ∧ m.qv.oneCell' = true) (w : World) :
    Calls Tryz.prog 54 #[inV x, msgV m, .int .i64 20] w fun e w' => e = .returned (.tuple #[inV (qF m x 17).2, msgV (qF m x 17).1]) ∧ Below w.heap.size w w' := by
  have l1 := qN_len x 4
  obtain ⟨k, hk⟩ := Int.eq_ofNat_of_zero_le (qN_nn x 4).1
  have HN := fun W => Xnum x 4 4 rfl hs W
  have HR := Lib.hid (fun W => Xraw (qN x 4).2 k (by omega) W)
  have hq : Hid (qF m x 17 = ({ m with da := (qRaw ((k : Int), (qN x 4).2)).1 }, (qRaw ((k : Int), (qN x 4).2)).2)) := Lib.hid (by rw [← hk]; rfl)
  rw [hq.out]
  rw [hk] at HN
  replace HN := Lib.hid HN
  clear hq hk l1
  dsimp only
  have hz := zero_in
  have hzm := zero_msgW
  obtain ⟨W0, hW0, hS0⟩ := RSt.new w x m
  generalize (qRaw ((k : Int), (qN x 4).2)).2 = y at *
  generalize (qRaw ((k : Int), (qN x 4).2)).1 = v at *
  generalize (qN x 4).2 = x1 at *
  replace hW0 := Lib.hid hW0
  replace hS0 := Lib.hid hS0
  have hone := Lib.hid (cellsB_one { m with da := v } hv.1 hv.2)
  have hm' : Hid ((cellsB m).setIfInBounds 21 (.string (mk v)) = cellsB { m with da := v }) := Lib.hid (setB_17 m v)
  have hc : (cellsB m)[21]? = some (.string (mk m.da)) := rfl
  generalize ({ m with da := v } : MM) = mm at *
  unfold inV msgV at *
  go_enter Tryz.func54, Tryz.ntmps54
  go_wp2_with (first
    | (simp only [hz.out, hzm.out, hW0.out])
    | (refine wpList_load_row rfl 66 _ rfl w.heap.size rfl 66 (cellsI x) (0, 0) _ hS0.out.inB Tryz.underlying66 rfl (info_inC x) ?_))
  refine (HN.out _).mono ?_
  rintro e W1 ⟨rfl, hB1⟩
  have hS1 := Lib.hid (hS0.out.go hB1)
  clear hB1
  obtain ⟨W2, hW2, hs2⟩ : ∃ W2, W1.setRow w.heap.size (cellsI x1) = W2 ∧ RSt w W2 x1 m := ⟨_, rfl, hS1.out.setI x1⟩
  have hS2 := Lib.hid hs2
  replace hW2 := Lib.hid hW2
  clear hs2
  go_wp2_with (first
    | (refine wpList_store_row rfl 66 _ _ rfl w.heap.size (cellsI x1) rfl rfl 66 (cellsI x) hS1.out.inB (info_inC x1) rfl (oneI x1) ?_; rw [hW2.out])
    | (refine wpList_load_row rfl 66 _ rfl w.heap.size rfl 66 (cellsI x1) (0, 0) _ hS2.out.inB Tryz.underlying66 rfl (info_inC x1) ?_))
  refine (HR.out _).mono ?_
  rintro e W5 ⟨rfl, hB5⟩
  have hS5 := Lib.hid (hS2.out.go hB5)
  clear hB5
  obtain ⟨W6, hW6, hs6⟩ : ∃ W6, W5.setRow w.heap.size (cellsI y) = W6 ∧ RSt w W6 y m := ⟨_, rfl, hS5.out.setI y⟩
  replace hW6 := Lib.hid hW6
  have c1 := (hs6.msB.cell 21).trans hc
  have f1 := hs6.msB.frozen 21
  have hS3 := Lib.hid (hs6.setM hm'.out)
  clear hs6
  go_wp2_with (refine wpList_store_row rfl 66 _ _ rfl w.heap.size (cellsI y) rfl rfl 66 (cellsI x1) hS5.out.inB (info_inC y) rfl (oneI y) ?_; rw [hW6.out])
  obtain ⟨W3, hW3⟩ : ∃ W3, W6.setCell ⟨w.heap.size + 1, 21, none⟩ (.string (mk v)) = W3 := ⟨_, rfl⟩
  rw [hW3] at hS3 ⊢
  clear hW3 c1 f1 hS2 hW2 hS1 hm' hc hS5 hW6
  have hS4 := Lib.hid hS3.out.drew
  clear hS3
  refine wp_region_held_drew (S := fun W => RSx w W y mm) (by kernel_rfl) hS4.out.x (fun hHeld => ?_)
  refine takeD (i := 0) (oi := _) (d := some 157) (v := .agg (cellsI y)) rfl rfl (by kernel_rfl) (by kernel_rfl) (by kernel_rfl) (fun _ _ _ h => h) (yieldsIf_load_row (by rfl) 66 _ rfl w.heap.size rfl (cellsI y) (fun W h => load_In h.inB)) (by assumption) ?_
  try simp only [Act.put, List.setIfInBounds_toArray, List.set_cons_zero, List.set_cons_succ]
  refine takeD (i := 1) (oi := _) (d := some 158) (v := .agg (cellsB mm)) rfl rfl (by kernel_rfl) (by kernel_rfl) (by kernel_rfl) (fun _ _ _ h => h) (yieldsIf_load_row (by rfl) 30 _ rfl (w.heap.size + 1) rfl (cellsB mm) (fun W h => load_msg h.msB)) (by assumption) ?_
  try simp only [Act.put, List.setIfInBounds_toArray, List.set_cons_zero, List.set_cons_succ]
  obtain ⟨f1, f2, f3, f4, f5⟩ := hS4.out.fin
  refine wpAnyH_ready (rs := [2]) (by kernel_rfl) (by simp) ?_
  refine AllReadyH.cons (o := _) rfl (fun K hK => ?_) AllReadyH.nil
  rw [if_pos (by rfl)]
  refine wp_store_row 66 _ _ rfl (w.heap.size + 1 + 1) (cellsI y) rfl rfl 66 (cellsI zeroX) f1 (info_inC y) rfl (oneI y) ?_
  refine hK.out _ _ (RSx.set (by assumption) (by omega) _) (fun hHeld2 => ?_)
  clear hK K
  try simp only [Act.put, List.setIfInBounds_toArray]
  refine wpAnyH_ready (rs := [3]) (by kernel_rfl) (by simp) ?_
  refine AllReadyH.cons (o := _) rfl (fun K hK => ?_) AllReadyH.nil
  rw [if_pos (by rfl)]
  refine wp_store_row 30 _ _ rfl (w.heap.size + 1 + 1 + 1) (cellsB mm) rfl rfl 30 (cellsB noM) f2 (info_msgC mm) rfl hone.out ?_
  refine hK.out _ _ (RSx.set hHeld2 (by omega) _) (fun hHeld3 => ?_)
  clear hK K
  try simp only [Act.put]
  refine wpAnyH_done (by kernel_rfl) ?_ _
  go_wp2
  refine bodyPost_ret (results_IM rfl rfl rfl f3 f4) rfl ⟨rfl, f5⟩
theorem qFind (s : List UInt8) (w : World) :
    Calls Tryz.prog 80 #[.string (mk s)] w fun x w' => x = .returned (.tuple #[.int .i64 (Ft.findL s).1, .bool (Ft.findL s).2]) ∧ Below w.heap.size w w' := Ft.RFind_any s w
/-- Two more blocks hold what the region reads. -/
structure RSy (w W : World) (x : XS) (m : MM) (b : Nat) (y : XS) : Prop where
  rs : RSx w W x m
  far : w.heap.size + 4 ≤ b
  blk : BlkI W b y
theorem RSy.set {w W : World} {x y : XS} {m : MM} {b : Nat} (h : RSy w W x m b y) {c : Nat} (hc : w.heap.size + 2 ≤ c) (hb : c < w.heap.size + 4) (cs : Array Value) : RSy w (W.setRow c cs) x m b y :=
  ⟨h.rs.set hc cs, h.far, (setRow_ne (by have := h.far; omega)).trans h.blk⟩
/-- The results are laid. -/
theorem RSt.finY {w W : World} {x : XS} {m : MM} (h : RSt w W x m) (y : XS) :
    BlkI W (w.heap.size + 1 + 1) zeroX ∧ BlkM (W.setRow (w.heap.size + 1 + 1) (cellsI y)) (w.heap.size + 1 + 1 + 1) noM ∧ BlkI ((W.setRow (w.heap.size + 1 + 1) (cellsI y)).setRow (w.heap.size + 1 + 1 + 1) (cellsB m)) (w.heap.size + 1 + 1) y ∧ BlkM ((W.setRow (w.heap.size + 1 + 1) (cellsI y)).setRow (w.heap.size + 1 + 1 + 1) (cellsB m)) (w.heap.size + 1 + 1 + 1) m ∧ Below w.heap.size w ((W.setRow (w.heap.size + 1 + 1) (cellsI y)).setRow (w.heap.size + 1 + 1 + 1) (cellsB m)) := by
  have h1 : BlkI W (w.heap.size + 1 + 1) zeroX := h.inR
  have h2 : BlkM W (w.heap.size + 1 + 1 + 1) noM := h.msR
  have h3 : BlkM (W.setRow (w.heap.size + 1 + 1) (cellsI y)) (w.heap.size + 1 + 1 + 1) noM := (setRow_ne (by omega)).trans h2
  exact ⟨h1, h3, (setRow_ne (by omega)).trans (setRow_heap _ _ _ _ _ _ h1), setRow_heap _ _ _ _ _ _ h3, below_setRow (below_setRow h.base (by omega) _) (by omega) _⟩
set_option maxHeartbeats 4000000 in
set_option maxRecDepth 100000 in
theorem rl_19 (m : MM) (x : XS) (hs : x.S.length ≤ 1000000) (hv : m.nv.oneCell' = true ∧ m.qv.oneCell' = true) (w : World) :
    Calls Tryz.prog 54 #[inV x, msgV m, .int .i64 9] w fun e w' => e = .returned (.tuple #[inV (qF m x 19).2, msgV (qF m x 19).1]) ∧ Below w.heap.size w w' := by
  have HN := Lib.hid (fun W => Xtext x hs W)
  have hl : Hid ((qT x).1 = (qT x).1) := rfl
  have HF := Lib.hid (fun W => qFind (qT x).1 W)
  have hq : Hid (qF m x 19 = ({ m with er := (Ft.findL (qT x).1).1 }, ⟨(qT x).2.S, (qT x).2.bad || !(Ft.findL (qT x).1).2⟩)) := Lib.hid rfl
  rw [hq.out]
  clear hq hl
  dsimp only
  have hz := zero_in
  have hzm := zero_msgW
  obtain ⟨W0, hW0, hS0⟩ := RSt.new w x m
  generalize (Ft.findL (qT x).1).1 = v at *
  generalize (Ft.findL (qT x).1).2 = ok at *
  generalize (qT x).2 = y at *
  generalize (qT x).1 = t at *
  replace hW0 := Lib.hid hW0
  replace hS0 := Lib.hid hS0
  have hone := Lib.hid (cellsB_one { m with er := v } hv.1 hv.2)
  have hm' : Hid ((cellsB m).setIfInBounds 35 (.int .i64 v) = cellsB { m with er := v }) := Lib.hid (setB_19 m v)
  have hc : (cellsB m)[35]? = some (.int .i64 m.er) := rfl
  generalize ({ m with er := v } : MM) = mm at *
  unfold inV msgV at *
  go_enter Tryz.func54, Tryz.ntmps54
  go_wp2_with (first
    | (simp only [hz.out, hzm.out, hW0.out])
    | (refine wpList_load_row rfl 66 _ rfl w.heap.size rfl 66 (cellsI x) (0, 0) _ hS0.out.inB Tryz.underlying66 rfl (info_inC x) ?_))
  refine (HN.out _).mono ?_
  rintro e W1 ⟨rfl, hB1⟩
  obtain ⟨V1, hV1, HV1, hG1⟩ : ∃ V, W1.alloc (.cells (cellsI y) 66) = V ∧ BlkI V W1.heap.size y ∧ RSt w V x m := ⟨_, rfl, BlkI.new _ _, (hS0.out.go hB1).go ((Below.refl _ W1).alloc (Nat.le_refl _) _)⟩
  have hfar : w.heap.size + 4 ≤ W1.heap.size := (hS0.out.go hB1).msR.lt
  replace hV1 := Lib.hid hV1
  replace HV1 := Lib.hid HV1
  replace hG1 := Lib.hid hG1
  clear hB1
  go_wp2_with (first
    | (simp only [hz.out])
    | (refine wpList_store_row rfl 66 _ _ rfl W1.heap.size (cellsI y) rfl rfl 66 (cellsI zeroX) (heap_alloc_new W1 _) (info_inC y) rfl (oneI y) ?_; rw [World.setRow_alloc_new, hV1.out]))
  refine (HF.out _).mono ?_
  rintro e W2 ⟨rfl, hB2⟩
  have hS2 := hG1.out.go hB2
  have hY2 : BlkI W2 W1.heap.size y := HV1.out.below hB2 HV1.out.lt
  have c1 := (hS2.msB.cell 35).trans hc
  have f1 := hS2.msB.frozen 35
  have hS3 := hS2.setM hm'.out
  have hY3 : BlkI (W2.setCell ⟨w.heap.size + 1, 35, none⟩ (.int .i64 v)) W1.heap.size y := (Below.heap_setCell _ _ _ _ (by show _ ≠ w.heap.size + 1; omega)).trans hY2
  obtain ⟨W3, hW3⟩ : ∃ W3, W2.setCell ⟨w.heap.size + 1, 35, none⟩ (.int .i64 v) = W3 := ⟨_, rfl⟩
  rw [hW3] at hS3 hY3
  replace hW3 := Lib.hid hW3
  have hS4 := Lib.hid hS3.drew
  have hR4 : Hid (RSy w W3.drew x mm W1.heap.size y) := Lib.hid ⟨hS4.out.x, hfar, hY3⟩
  clear hS3 hY3 hS2 hY2 hB2 hV1 HV1
  go_wp2
  rw [hW3.out]
  clear c1 f1 hW3 hm' hc
  have hSset := Lib.hid (fun W c (h : RSy w W x mm W1.heap.size y) h1 h2 cs => RSy.set h (c := c) h1 h2 cs)
  have hY : Hid (∀ W, RSy w W x mm W1.heap.size y → W.cell? ⟨W1.heap.size, 0, none⟩ = some (.string (mk y.S)) ∧ W.cell? ⟨W1.heap.size, 1, none⟩ = some (.bool y.bad)) := Lib.hid fun W h => ⟨(Lib.cell_of_heap h.blk 0).trans rfl, (Lib.cell_of_heap h.blk 1).trans rfl⟩
  refine wp_region_held_drew (S := fun W => RSy w W x mm W1.heap.size y) (by kernel_rfl) hR4.out (fun hHeld => ?_)
  obtain ⟨yS, yb⟩ := y
  dsimp only at hY ⊢
  cases yb
  · refine takeD (i := 0) (oi := _) (d := some 39) (v := .pointer (some ⟨W1.heap.size, 0, none⟩)) rfl rfl (by kernel_rfl) (by kernel_rfl) (by kernel_rfl) (fun _ _ _ h => h) (Or.inl ⟨by rfl, fun W hSw => by go_simp⟩) (by assumption) ?_
    try simp only [Act.put, List.setIfInBounds_toArray, List.set_cons_zero, List.set_cons_succ]
    refine takeD (i := 1) (oi := _) (d := some 40) (v := .string (mk yS)) rfl rfl (by kernel_rfl) (by kernel_rfl) (by kernel_rfl) (fun _ _ _ h => h) (Or.inl ⟨by rfl, fun W hSw => by have q := (hY.out W hSw).1; go_simp⟩) (by assumption) ?_
    try simp only [Act.put, List.setIfInBounds_toArray, List.set_cons_zero, List.set_cons_succ]
    refine takeD (i := 2) (oi := _) (d := some 41) (v := .pointer (some ⟨W1.heap.size, 1, none⟩)) rfl rfl (by kernel_rfl) (by kernel_rfl) (by kernel_rfl) (fun _ _ _ h => h) (Or.inl ⟨by rfl, fun W hSw => by go_simp⟩) (by assumption) ?_
    try simp only [Act.put, List.setIfInBounds_toArray, List.set_cons_zero, List.set_cons_succ]
    refine takeD (i := 3) (oi := _) (d := some 42) (v := .bool false) rfl rfl (by kernel_rfl) (by kernel_rfl) (by kernel_rfl) (fun _ _ _ h => h) (Or.inl ⟨by rfl, fun W hSw => by have q := (hY.out W hSw).2; go_simp⟩) (by assumption) ?_
    try simp only [Act.put, List.setIfInBounds_toArray, List.set_cons_zero, List.set_cons_succ]
    refine takeD (i := 4) (oi := _) (d := some 43) (v := .bool false) rfl rfl (by kernel_rfl) (by kernel_rfl) (by kernel_rfl) (fun _ _ _ h => h) (Or.inl ⟨by rfl, fun W hSw => by go_simp⟩) (by assumption) ?_
    try simp only [Act.put, List.setIfInBounds_toArray, List.set_cons_zero, List.set_cons_succ]
    refine takeD (i := 5) (oi := _) (d := some 44) (v := .bool ok) rfl rfl (by kernel_rfl) (by kernel_rfl) (by kernel_rfl) (fun _ _ _ h => h) (Or.inl ⟨by rfl, fun W hSw => by go_simp⟩) (by assumption) ?_
    try simp only [Act.put, List.setIfInBounds_toArray, List.set_cons_zero, List.set_cons_succ]
    refine takeD (i := 6) (oi := _) (d := some 45) (v := .bool (!ok)) rfl rfl (by kernel_rfl) (by kernel_rfl) (by kernel_rfl) (fun _ _ _ h => h) (Or.inl ⟨by rfl, fun W hSw => by go_simp⟩) (by assumption) ?_
    try simp only [Act.put, List.setIfInBounds_toArray, List.set_cons_zero, List.set_cons_succ]
    refine takeD (i := 7) (oi := _) (d := some 46) (v := .bool (!ok)) rfl rfl (by kernel_rfl) (by kernel_rfl) (by kernel_rfl) (fun _ _ _ h => h) (Or.inl ⟨by rfl, fun W hSw => by go_simp⟩) (by assumption) ?_
    try simp only [Act.put, List.setIfInBounds_toArray, List.set_cons_zero, List.set_cons_succ]
    refine takeD (i := 8) (oi := _) (d := some 47) (v := .agg (cellsI ⟨yS, !ok⟩)) rfl rfl (by kernel_rfl) (by kernel_rfl) (by kernel_rfl) (fun _ _ _ h => h) (Or.inl ⟨by rfl, fun W hSw => by go_simp; rfl⟩) (by assumption) ?_
    try simp only [Act.put, List.setIfInBounds_toArray, List.set_cons_zero, List.set_cons_succ]
    refine takeD (i := 9) (oi := _) (d := some 48) (v := .agg (cellsB mm)) rfl rfl (by kernel_rfl) (by kernel_rfl) (by kernel_rfl) (fun _ _ _ h => h) (yieldsIf_load_row (by rfl) 30 _ rfl (w.heap.size + 1) rfl (cellsB mm) (fun W h => load_msg h.rs.msB)) (by assumption) ?_
    try simp only [Act.put, List.setIfInBounds_toArray, List.set_cons_zero, List.set_cons_succ]
    obtain ⟨f1, f2, f3, f4, f5⟩ := hS4.out.finY (⟨yS, !ok⟩)
    refine wpAnyH_ready (rs := [10]) (by kernel_rfl) (by simp) ?_
    refine AllReadyH.cons (o := _) rfl (fun K hK => ?_) AllReadyH.nil
    rw [if_pos (by rfl)]
    refine wp_store_row 66 _ _ rfl (w.heap.size + 1 + 1) (cellsI (⟨yS, !ok⟩)) rfl rfl 66 (cellsI zeroX) f1 (info_inC _) rfl (oneI _) ?_
    refine hK.out _ _ (hSset.out _ _ (by assumption) (by omega) (by omega) _) (fun hHeld2 => ?_)
    clear hK K
    try simp only [Act.put, List.setIfInBounds_toArray]
    refine wpAnyH_ready (rs := [11]) (by kernel_rfl) (by simp) ?_
    refine AllReadyH.cons (o := _) rfl (fun K hK => ?_) AllReadyH.nil
    rw [if_pos (by rfl)]
    refine wp_store_row 30 _ _ rfl (w.heap.size + 1 + 1 + 1) (cellsB mm) rfl rfl 30 (cellsB noM) f2 (info_msgC _) rfl hone.out ?_
    refine hK.out _ _ (hSset.out _ _ hHeld2 (by omega) (by omega) _) (fun hHeld3 => ?_)
    clear hK K
    try simp only [Act.put]
    refine wpAnyH_done (by kernel_rfl) ?_ _
    go_wp2
    refine bodyPost_ret (results_IM rfl rfl rfl f3 f4) rfl ⟨rfl, f5⟩
  · refine takeD (i := 0) (oi := _) (d := some 39) (v := .pointer (some ⟨W1.heap.size, 0, none⟩)) rfl rfl (by kernel_rfl) (by kernel_rfl) (by kernel_rfl) (fun _ _ _ h => h) (Or.inl ⟨by rfl, fun W hSw => by go_simp⟩) (by assumption) ?_
    try simp only [Act.put, List.setIfInBounds_toArray, List.set_cons_zero, List.set_cons_succ]
    refine takeD (i := 1) (oi := _) (d := some 40) (v := .string (mk yS)) rfl rfl (by kernel_rfl) (by kernel_rfl) (by kernel_rfl) (fun _ _ _ h => h) (Or.inl ⟨by rfl, fun W hSw => by have q := (hY.out W hSw).1; go_simp⟩) (by assumption) ?_
    try simp only [Act.put, List.setIfInBounds_toArray, List.set_cons_zero, List.set_cons_succ]
    refine takeD (i := 2) (oi := _) (d := some 41) (v := .pointer (some ⟨W1.heap.size, 1, none⟩)) rfl rfl (by kernel_rfl) (by kernel_rfl) (by kernel_rfl) (fun _ _ _ h => h) (Or.inl ⟨by rfl, fun W hSw => by go_simp⟩) (by assumption) ?_
    try simp only [Act.put, List.setIfInBounds_toArray, List.set_cons_zero, List.set_cons_succ]
    refine takeD (i := 3) (oi := _) (d := some 42) (v := .bool true) rfl rfl (by kernel_rfl) (by kernel_rfl) (by kernel_rfl) (fun _ _ _ h => h) (Or.inl ⟨by rfl, fun W hSw => by have q := (hY.out W hSw).2; go_simp⟩) (by assumption) ?_
    try simp only [Act.put, List.setIfInBounds_toArray, List.set_cons_zero, List.set_cons_succ]
    refine takeD (i := 4) (oi := _) (d := some 43) (v := .bool true) rfl rfl (by kernel_rfl) (by kernel_rfl) (by kernel_rfl) (fun _ _ _ h => h) (Or.inl ⟨by rfl, fun W hSw => by go_simp⟩) (by assumption) ?_
    try simp only [Act.put, List.setIfInBounds_toArray, List.set_cons_zero, List.set_cons_succ]
    refine takeD (i := 5) (oi := _) (d := some 44) (v := undef) rfl rfl (by kernel_rfl) (by kernel_rfl) (by kernel_rfl) (fun _ _ _ h => h) (Or.inr ⟨by rfl, rfl⟩) (by assumption) ?_
    try simp only [Act.put, List.setIfInBounds_toArray, List.set_cons_zero, List.set_cons_succ]
    refine takeD (i := 6) (oi := _) (d := some 45) (v := undef) rfl rfl (by kernel_rfl) (by kernel_rfl) (by kernel_rfl) (fun _ _ _ h => h) (Or.inr ⟨by rfl, rfl⟩) (by assumption) ?_
    try simp only [Act.put, List.setIfInBounds_toArray, List.set_cons_zero, List.set_cons_succ]
    refine takeD (i := 7) (oi := _) (d := some 46) (v := .bool true) rfl rfl (by kernel_rfl) (by kernel_rfl) (by kernel_rfl) (fun _ _ _ h => h) (Or.inl ⟨by rfl, fun W hSw => by go_simp⟩) (by assumption) ?_
    try simp only [Act.put, List.setIfInBounds_toArray, List.set_cons_zero, List.set_cons_succ]
    refine takeD (i := 8) (oi := _) (d := some 47) (v := .agg (cellsI ⟨yS, true⟩)) rfl rfl (by kernel_rfl) (by kernel_rfl) (by kernel_rfl) (fun _ _ _ h => h) (Or.inl ⟨by rfl, fun W hSw => by go_simp; rfl⟩) (by assumption) ?_
    try simp only [Act.put, List.setIfInBounds_toArray, List.set_cons_zero, List.set_cons_succ]
    refine takeD (i := 9) (oi := _) (d := some 48) (v := .agg (cellsB mm)) rfl rfl (by kernel_rfl) (by kernel_rfl) (by kernel_rfl) (fun _ _ _ h => h) (yieldsIf_load_row (by rfl) 30 _ rfl (w.heap.size + 1) rfl (cellsB mm) (fun W h => load_msg h.rs.msB)) (by assumption) ?_
    try simp only [Act.put, List.setIfInBounds_toArray, List.set_cons_zero, List.set_cons_succ]
    obtain ⟨f1, f2, f3, f4, f5⟩ := hS4.out.finY (⟨yS, true⟩)
    refine wpAnyH_ready (rs := [10]) (by kernel_rfl) (by simp) ?_
    refine AllReadyH.cons (o := _) rfl (fun K hK => ?_) AllReadyH.nil
    rw [if_pos (by rfl)]
    refine wp_store_row 66 _ _ rfl (w.heap.size + 1 + 1) (cellsI (⟨yS, true⟩)) rfl rfl 66 (cellsI zeroX) f1 (info_inC _) rfl (oneI _) ?_
    refine hK.out _ _ (hSset.out _ _ (by assumption) (by omega) (by omega) _) (fun hHeld2 => ?_)
    clear hK K
    try simp only [Act.put, List.setIfInBounds_toArray]
    refine wpAnyH_ready (rs := [11]) (by kernel_rfl) (by simp) ?_
    refine AllReadyH.cons (o := _) rfl (fun K hK => ?_) AllReadyH.nil
    rw [if_pos (by rfl)]
    refine wp_store_row 30 _ _ rfl (w.heap.size + 1 + 1 + 1) (cellsB mm) rfl rfl 30 (cellsB noM) f2 (info_msgC _) rfl hone.out ?_
    refine hK.out _ _ (hSset.out _ _ hHeld2 (by omega) (by omega) _) (fun hHeld3 => ?_)
    clear hK K
    try simp only [Act.put]
    refine wpAnyH_done (by kernel_rfl) ?_ _
    go_wp2
    refine bodyPost_ret (results_IM rfl rfl rfl f3 f4) rfl ⟨rfl, f5⟩
end Go.Proofs.YtlfdmbfbfadifaaGreatDoor

namespace Go.Proofs.YtlfdmbfbfadifaaGreatDoor
open Go.RowKit

theorem zero_dirA : Hid (∀ W : World, W.alloc (.cells #[.int .i64 0, .int .i64 0, .int .i64 0, .int .i64 0, .int .i64 0, .int .i64 0, .int .i64 0, .int .i64 0, .int .i64 0, .string ⟨#[]⟩, .string ⟨#[]⟩, .string ⟨#[]⟩, .string ⟨#[]⟩] 27) = W.alloc (.cells (cellsA noD) 27)) := Lib.hid fun _ => rfl
theorem qGetD (l : List UInt8) (hl : l.length ≤ 1000000) (w : World) :
    Calls Tryz.prog 82 #[.string (mk l), .int .i64 0] w fun e w' => e = .returned (.tuple #[.agg (cellsA (getS numP l 0).1), .int .i64 (getS numP l 0).2.1, .int .i64 (getS numP l 0).2.2]) ∧ Below w.heap.size w w' := by
  rw [St.getS_PQ]
  exact St.RGet_any l 0 ⟨by decide, by decide⟩ (by rw [St.mk_size]; exact hl) w
theorem below_setCells {B : Nat} {a : World} {b : Nat} (hb : B ≤ b) : ∀ (vs : List Value) (o : Nat) (w : World), Below B a w → Below B a (w.setCells b o vs)
  | [], _, _, h => h
  | v :: vs, o, _w, h => below_setCells hb vs (o + 1) _ (h.setCell (p := ⟨b, o, none⟩) hb v)
theorem RSt.set13 {w W : World} {x : XS} {m : MM} (h : RSt w W x m) (d : DD) : RSt w (W.setCells (w.heap.size + 1) 22 (cellsD d)) x { m with st := d } :=
  ⟨below_setCells (Nat.le_succ _) _ _ _ h.base, (setCells_ne (_w := w) (by omega) _ _ _).trans h.inB, set13m d h.msB, (setCells_ne (_w := w) (by omega) _ _ _).trans h.inR, (setCells_ne (_w := w) (by omega) _ _ _).trans h.msR⟩
theorem info_dirC (d : DD) : (Tryz.prog.info? 27).map (·.size) = some (cellsA d).size := (by kernel_rfl : (Tryz.prog.info? 27).map (·.size) = some 13).trans (show some 13 = some (cellsA d).size from rfl)
theorem oneD (d : DD) : (cellsA d).all (·.oneCell') = true := by simp [cellsA, cellsD, Value.oneCell']
theorem bne_dec (a b : Int) : decide (a ≠ b) = (a != b) := by by_cases h : a = b <;> simp [h]
set_option maxHeartbeats 4000000 in
set_option maxRecDepth 100000 in
theorem rl_18 (m : MM) (x : XS) (hs : x.S.length ≤ 1000000) (hv : m.nv.oneCell' = true ∧ m.qv.oneCell' = true) (w : World) :
    Calls Tryz.prog 54 #[inV x, msgV m, .int .i64 21] w fun e w' => e = .returned (.tuple #[inV (qF m x 18).2, msgV (qF m x 18).1]) ∧ Below w.heap.size w w' := by
  have l1 := qN_len x 2
  obtain ⟨k, hk⟩ := Int.eq_ofNat_of_zero_le (qN_nn x 2).1
  have HN := fun W => Xnum x 2 2 rfl hs W
  have HR := Lib.hid (fun W => Xraw (qN x 2).2 k (by omega) W)
  have l2 := qRaw_len (k : Int) (qN x 2).2
  have HG := Lib.hid (fun W => qGetD (qRaw ((k : Int), (qN x 2).2)).1 (by omega) W)
  have hq : Hid (qF m x 18 = ({ m with st := (getS numP (qRaw ((k : Int), (qN x 2).2)).1 0).1 }, ⟨(qRaw ((k : Int), (qN x 2).2)).2.S, (qRaw ((k : Int), (qN x 2).2)).2.bad || (((getS numP (qRaw ((k : Int), (qN x 2).2)).1 0).2.2 != 0) || ((getS numP (qRaw ((k : Int), (qN x 2).2)).1 0).2.1 != (k : Int)))⟩)) := Lib.hid (by rw [← bne_dec, ← bne_dec, ← hk]; rfl)
  rw [hq.out]
  rw [hk] at HN
  replace HN := Lib.hid HN
  clear hq hk l1 l2
  dsimp only
  have hz := zero_in
  have hzm := zero_msgW
  have hzd := zero_dirA
  obtain ⟨W0, hW0, hS0⟩ := RSt.new w x m
  generalize (qRaw ((k : Int), (qN x 2).2)).2 = y at *
  generalize (qRaw ((k : Int), (qN x 2).2)).1 = s at *
  generalize (qN x 2).2 = x1 at *
  generalize (getS numP s 0).1 = d at *
  generalize (getS numP s 0).2.1 = nx at *
  generalize (getS numP s 0).2.2 = er at *
  replace hW0 := Lib.hid hW0
  replace hS0 := Lib.hid hS0
  have hone := Lib.hid (cellsB_one { m with st := d } hv.1 hv.2)
  have h13 : Hid (∀ W, RSt w W x1 m → RSt w (W.setCells (w.heap.size + 1) 22 (cellsA d).toList) x1 { m with st := d }) := Lib.hid fun W h => h.set13 d
  have h13y : Hid (∀ W, RSt w W y m → RSt w (W.setCells (w.heap.size + 1) 22 (cellsA d).toList) y { m with st := d }) := Lib.hid fun W h => h.set13 d
  generalize ({ m with st := d } : MM) = mm at *
  unfold inV msgV at *
  go_enter Tryz.func54, Tryz.ntmps54
  go_wp2_with (first
    | (simp only [hz.out, hzm.out, hW0.out])
    | (refine wpList_load_row rfl 66 _ rfl w.heap.size rfl 66 (cellsI x) (0, 0) _ hS0.out.inB Tryz.underlying66 rfl (info_inC x) ?_))
  refine (HN.out _).mono ?_
  rintro e W1 ⟨rfl, hB1⟩
  have hS1 := Lib.hid (hS0.out.go hB1)
  clear hB1
  obtain ⟨W2, hW2, hs2⟩ : ∃ W2, W1.setRow w.heap.size (cellsI x1) = W2 ∧ RSt w W2 x1 m := ⟨_, rfl, hS1.out.setI x1⟩
  have hS2 := Lib.hid hs2
  replace hW2 := Lib.hid hW2
  clear hs2
  go_wp2_with (first
    | (refine wpList_store_row rfl 66 _ _ rfl w.heap.size (cellsI x1) rfl rfl 66 (cellsI x) hS1.out.inB (info_inC x1) rfl (oneI x1) ?_; rw [hW2.out])
    | (refine wpList_load_row rfl 66 _ rfl w.heap.size rfl 66 (cellsI x1) (0, 0) _ hS2.out.inB Tryz.underlying66 rfl (info_inC x1) ?_))
  refine (HR.out _).mono ?_
  rintro e W3 ⟨rfl, hB3⟩
  obtain ⟨V3, hV3, HV3, hG3⟩ : ∃ V, W3.alloc (.cells (cellsI y) 66) = V ∧ BlkI V W3.heap.size y ∧ RSt w V x1 m := ⟨_, rfl, BlkI.new _ _, (hS2.out.go hB3).go ((Below.refl _ W3).alloc (Nat.le_refl _) _)⟩
  have hfar : w.heap.size + 4 ≤ W3.heap.size := (hS2.out.go hB3).msR.lt
  replace hV3 := Lib.hid hV3
  replace HV3 := Lib.hid HV3
  replace hG3 := Lib.hid hG3
  clear hB3
  go_wp2_with (first
    | (simp only [hz.out])
    | (refine wpList_store_row rfl 66 _ _ rfl W3.heap.size (cellsI y) rfl rfl 66 (cellsI zeroX) (heap_alloc_new W3 _) (info_inC y) rfl (oneI y) ?_; rw [World.setRow_alloc_new, hV3.out]))
  refine (HG.out _).mono ?_
  rintro e W4 ⟨rfl, hB4⟩
  obtain ⟨V4, hV4, HD4, hY4, hG4⟩ : ∃ V, W4.alloc (.cells (cellsA d) 27) = V ∧ V.heap[W4.heap.size]? = some (.cells (cellsA d) 27 (0, 0)) ∧ BlkI V W3.heap.size y ∧ RSt w V x1 m :=
    ⟨_, rfl, heap_alloc_new W4 _, (HV3.out.below hB4 HV3.out.lt).alloc _, (hG3.out.go hB4).go ((Below.refl _ W4).alloc (Nat.le_refl _) _)⟩
  have hY5 : BlkI (V4.setCells (w.heap.size + 1) 22 (cellsA d).toList) W3.heap.size y := (setCells_ne (_w := w) (by omega) _ _ _).trans hY4
  have hS5 := h13.out _ hG4
  obtain ⟨W5, hW5⟩ : ∃ W5, V4.setCells (w.heap.size + 1) 22 (cellsA d).toList = W5 := ⟨_, rfl⟩
  rw [hW5] at hY5 hS5
  replace hW5 := Lib.hid hW5
  have hS4 := Lib.hid hS5.drew
  have hR4 : Hid (RSy w W5.drew x1 mm W3.heap.size y) := Lib.hid ⟨hS4.out.x, hfar, hY5⟩
  replace hV4 := Lib.hid hV4
  replace HD4 := Lib.hid HD4
  replace hG4 := Lib.hid hG4
  clear hB4 hY5 hS5 hY4
  go_wp2_with (first
    | (simp only [hzd.out])
    | (refine wpList_store_row rfl 27 _ _ rfl W4.heap.size (cellsA d) rfl rfl 27 (cellsA noD) (heap_alloc_new W4 _) (info_dirC d) rfl (oneD d) ?_; rw [World.setRow_alloc_new, hV4.out])
    | (refine wpList_load_row rfl 27 _ rfl W4.heap.size rfl 27 (cellsA d) (0, 0) _ HD4.out Tryz.underlying27 rfl (info_dirC d) ?_)
    | (refine wpList_store_mid rfl 27 _ _ rfl (w.heap.size + 1) 22 (cellsA d) rfl rfl (there_msg hG4.out.msB) (info_dirC d) (oneD d) ?_; rw [hW5.out]))
  have hSset := Lib.hid (fun W c (h : RSy w W x1 mm W3.heap.size y) h1 h2 cs => RSy.set h (c := c) h1 h2 cs)
  have hY : Hid (∀ W, RSy w W x1 mm W3.heap.size y → W.cell? ⟨W3.heap.size, 0, none⟩ = some (.string (mk y.S)) ∧ W.cell? ⟨W3.heap.size, 1, none⟩ = some (.bool y.bad)) := Lib.hid fun W h => ⟨(Lib.cell_of_heap h.blk 0).trans rfl, (Lib.cell_of_heap h.blk 1).trans rfl⟩
  clear hV4 HD4 hG4 h13 h13y HG HR HN hW2 hV3 HV3 hG3 hS1 hS2 hS0 hW0 hW5
  refine wp_region_held_drew (S := fun W => RSy w W x1 mm W3.heap.size y) (by kernel_rfl) hR4.out (fun hHeld => ?_)
  obtain ⟨yS, yb⟩ := y
  dsimp only at hY ⊢
  cases hr : (er != 0) <;> cases yb
  · refine takeD (i := 0) (oi := _) (d := some 142) (v := .pointer (some ⟨W3.heap.size, 0, none⟩)) rfl rfl (by kernel_rfl) (by kernel_rfl) (by kernel_rfl) (fun _ _ _ h => h) (Or.inl ⟨by rfl, fun W hSw => by go_simp⟩) (by assumption) ?_
    try simp only [Act.put, List.setIfInBounds_toArray, List.set_cons_zero, List.set_cons_succ]
    refine takeD (i := 1) (oi := _) (d := some 143) (v := .string (mk yS)) rfl rfl (by kernel_rfl) (by kernel_rfl) (by kernel_rfl) (fun _ _ _ h => h) (Or.inl ⟨by rfl, fun W hSw => by have q := (hY.out W hSw).1; go_simp⟩) (by assumption) ?_
    try simp only [Act.put, List.setIfInBounds_toArray, List.set_cons_zero, List.set_cons_succ]
    refine takeD (i := 2) (oi := _) (d := some 144) (v := .pointer (some ⟨W3.heap.size, 1, none⟩)) rfl rfl (by kernel_rfl) (by kernel_rfl) (by kernel_rfl) (fun _ _ _ h => h) (Or.inl ⟨by rfl, fun W hSw => by go_simp⟩) (by assumption) ?_
    try simp only [Act.put, List.setIfInBounds_toArray, List.set_cons_zero, List.set_cons_succ]
    refine takeD (i := 3) (oi := _) (d := some 145) (v := .bool false) rfl rfl (by kernel_rfl) (by kernel_rfl) (by kernel_rfl) (fun _ _ _ h => h) (Or.inl ⟨by rfl, fun W hSw => by have q := (hY.out W hSw).2; go_simp⟩) (by assumption) ?_
    try simp only [Act.put, List.setIfInBounds_toArray, List.set_cons_zero, List.set_cons_succ]
    refine takeD (i := 4) (oi := _) (d := some 146) (v := .bool false) rfl rfl (by kernel_rfl) (by kernel_rfl) (by kernel_rfl) (fun _ _ _ h => h) (Or.inl ⟨by rfl, fun W hSw => by go_simp⟩) (by assumption) ?_
    try simp only [Act.put, List.setIfInBounds_toArray, List.set_cons_zero, List.set_cons_succ]
    refine takeD (i := 5) (oi := _) (d := some 147) (v := .int .i64 er) rfl rfl (by kernel_rfl) (by kernel_rfl) (by kernel_rfl) (fun _ _ _ h => h) (Or.inl ⟨by rfl, fun W hSw => by go_simp⟩) (by assumption) ?_
    try simp only [Act.put, List.setIfInBounds_toArray, List.set_cons_zero, List.set_cons_succ]
    refine takeD (i := 6) (oi := _) (d := some 148) (v := .bool false) rfl rfl (by kernel_rfl) (by kernel_rfl) (by kernel_rfl) (fun _ _ _ h => h) (Or.inl ⟨by rfl, fun W hSw => by go_simp⟩) (by assumption) ?_
    try simp only [Act.put, List.setIfInBounds_toArray, List.set_cons_zero, List.set_cons_succ]
    refine takeD (i := 7) (oi := _) (d := some 149) (v := .bool false) rfl rfl (by kernel_rfl) (by kernel_rfl) (by kernel_rfl) (fun _ _ _ h => h) (Or.inl ⟨by rfl, fun W hSw => by go_simp⟩) (by assumption) ?_
    try simp only [Act.put, List.setIfInBounds_toArray, List.set_cons_zero, List.set_cons_succ]
    refine takeD (i := 8) (oi := _) (d := some 150) (v := .bool false) rfl rfl (by kernel_rfl) (by kernel_rfl) (by kernel_rfl) (fun _ _ _ h => h) (Or.inl ⟨by rfl, fun W hSw => by go_simp⟩) (by assumption) ?_
    try simp only [Act.put, List.setIfInBounds_toArray, List.set_cons_zero, List.set_cons_succ]
    refine takeD (i := 9) (oi := _) (d := some 151) (v := .int .i64 nx) rfl rfl (by kernel_rfl) (by kernel_rfl) (by kernel_rfl) (fun _ _ _ h => h) (Or.inl ⟨by rfl, fun W hSw => by go_simp⟩) (by assumption) ?_
    try simp only [Act.put, List.setIfInBounds_toArray, List.set_cons_zero, List.set_cons_succ]
    refine takeD (i := 10) (oi := _) (d := some 152) (v := .int .i64 (k : Int)) rfl rfl (by kernel_rfl) (by kernel_rfl) (by kernel_rfl) (fun _ _ _ h => h) (Or.inl ⟨by rfl, fun W hSw => by go_simp⟩) (by assumption) ?_
    try simp only [Act.put, List.setIfInBounds_toArray, List.set_cons_zero, List.set_cons_succ]
    refine takeD (i := 11) (oi := _) (d := some 153) (v := .bool (nx != (k : Int))) rfl rfl (by kernel_rfl) (by kernel_rfl) (by kernel_rfl) (fun _ _ _ h => h) (Or.inl ⟨by rfl, fun W hSw => by go_simp⟩) (by assumption) ?_
    try simp only [Act.put, List.setIfInBounds_toArray, List.set_cons_zero, List.set_cons_succ]
    refine takeD (i := 12) (oi := _) (d := some 154) (v := .bool (nx != (k : Int))) rfl rfl (by kernel_rfl) (by kernel_rfl) (by kernel_rfl) (fun _ _ _ h => h) (Or.inl ⟨by rfl, fun W hSw => by go_simp⟩) (by assumption) ?_
    try simp only [Act.put, List.setIfInBounds_toArray, List.set_cons_zero, List.set_cons_succ]
    refine takeD (i := 13) (oi := _) (d := some 155) (v := .agg (cellsI ⟨yS, nx != (k : Int)⟩)) rfl rfl (by kernel_rfl) (by kernel_rfl) (by kernel_rfl) (fun _ _ _ h => h) (Or.inl ⟨by rfl, fun W hSw => by go_simp; rfl⟩) (by assumption) ?_
    try simp only [Act.put, List.setIfInBounds_toArray, List.set_cons_zero, List.set_cons_succ]
    refine takeD (i := 14) (oi := _) (d := some 156) (v := .agg (cellsB mm)) rfl rfl (by kernel_rfl) (by kernel_rfl) (by kernel_rfl) (fun _ _ _ h => h) (yieldsIf_load_row (by rfl) 30 _ rfl (w.heap.size + 1) rfl (cellsB mm) (fun W h => load_msg h.rs.msB)) (by assumption) ?_
    try simp only [Act.put, List.setIfInBounds_toArray, List.set_cons_zero, List.set_cons_succ]
    obtain ⟨f1, f2, f3, f4, f5⟩ := hS4.out.finY (⟨yS, nx != (k : Int)⟩)
    refine wpAnyH_ready (rs := [15]) (by kernel_rfl) (by simp) ?_
    refine AllReadyH.cons (o := _) rfl (fun K hK => ?_) AllReadyH.nil
    rw [if_pos (by rfl)]
    refine wp_store_row 66 _ _ rfl (w.heap.size + 1 + 1) (cellsI (⟨yS, nx != (k : Int)⟩)) rfl rfl 66 (cellsI zeroX) f1 (info_inC _) rfl (oneI _) ?_
    refine hK.out _ _ (hSset.out _ _ (by assumption) (by omega) (by omega) _) (fun hHeld2 => ?_)
    clear hK K
    try simp only [Act.put, List.setIfInBounds_toArray]
    refine wpAnyH_ready (rs := [16]) (by kernel_rfl) (by simp) ?_
    refine AllReadyH.cons (o := _) rfl (fun K hK => ?_) AllReadyH.nil
    rw [if_pos (by rfl)]
    refine wp_store_row 30 _ _ rfl (w.heap.size + 1 + 1 + 1) (cellsB mm) rfl rfl 30 (cellsB noM) f2 (info_msgC _) rfl hone.out ?_
    refine hK.out _ _ (hSset.out _ _ hHeld2 (by omega) (by omega) _) (fun hHeld3 => ?_)
    clear hK K
    try simp only [Act.put]
    refine wpAnyH_done (by kernel_rfl) ?_ _
    go_wp2
    refine bodyPost_ret (results_IM rfl rfl rfl f3 f4) rfl ⟨rfl, f5⟩
  · refine takeD (i := 0) (oi := _) (d := some 142) (v := .pointer (some ⟨W3.heap.size, 0, none⟩)) rfl rfl (by kernel_rfl) (by kernel_rfl) (by kernel_rfl) (fun _ _ _ h => h) (Or.inl ⟨by rfl, fun W hSw => by go_simp⟩) (by assumption) ?_
    try simp only [Act.put, List.setIfInBounds_toArray, List.set_cons_zero, List.set_cons_succ]
    refine takeD (i := 1) (oi := _) (d := some 143) (v := .string (mk yS)) rfl rfl (by kernel_rfl) (by kernel_rfl) (by kernel_rfl) (fun _ _ _ h => h) (Or.inl ⟨by rfl, fun W hSw => by have q := (hY.out W hSw).1; go_simp⟩) (by assumption) ?_
    try simp only [Act.put, List.setIfInBounds_toArray, List.set_cons_zero, List.set_cons_succ]
    refine takeD (i := 2) (oi := _) (d := some 144) (v := .pointer (some ⟨W3.heap.size, 1, none⟩)) rfl rfl (by kernel_rfl) (by kernel_rfl) (by kernel_rfl) (fun _ _ _ h => h) (Or.inl ⟨by rfl, fun W hSw => by go_simp⟩) (by assumption) ?_
    try simp only [Act.put, List.setIfInBounds_toArray, List.set_cons_zero, List.set_cons_succ]
    refine takeD (i := 3) (oi := _) (d := some 145) (v := .bool true) rfl rfl (by kernel_rfl) (by kernel_rfl) (by kernel_rfl) (fun _ _ _ h => h) (Or.inl ⟨by rfl, fun W hSw => by have q := (hY.out W hSw).2; go_simp⟩) (by assumption) ?_
    try simp only [Act.put, List.setIfInBounds_toArray, List.set_cons_zero, List.set_cons_succ]
    refine takeD (i := 4) (oi := _) (d := some 146) (v := .bool true) rfl rfl (by kernel_rfl) (by kernel_rfl) (by kernel_rfl) (fun _ _ _ h => h) (Or.inl ⟨by rfl, fun W hSw => by go_simp⟩) (by assumption) ?_
    try simp only [Act.put, List.setIfInBounds_toArray, List.set_cons_zero, List.set_cons_succ]
    refine takeD (i := 5) (oi := _) (d := some 147) (v := undef) rfl rfl (by kernel_rfl) (by kernel_rfl) (by kernel_rfl) (fun _ _ _ h => h) (Or.inr ⟨by rfl, rfl⟩) (by assumption) ?_
    try simp only [Act.put, List.setIfInBounds_toArray, List.set_cons_zero, List.set_cons_succ]
    refine takeD (i := 6) (oi := _) (d := some 148) (v := undef) rfl rfl (by kernel_rfl) (by kernel_rfl) (by kernel_rfl) (fun _ _ _ h => h) (Or.inr ⟨by rfl, rfl⟩) (by assumption) ?_
    try simp only [Act.put, List.setIfInBounds_toArray, List.set_cons_zero, List.set_cons_succ]
    refine takeD (i := 7) (oi := _) (d := some 149) (v := .bool true) rfl rfl (by kernel_rfl) (by kernel_rfl) (by kernel_rfl) (fun _ _ _ h => h) (Or.inl ⟨by rfl, fun W hSw => by go_simp⟩) (by assumption) ?_
    try simp only [Act.put, List.setIfInBounds_toArray, List.set_cons_zero, List.set_cons_succ]
    refine takeD (i := 8) (oi := _) (d := some 150) (v := .bool true) rfl rfl (by kernel_rfl) (by kernel_rfl) (by kernel_rfl) (fun _ _ _ h => h) (Or.inl ⟨by rfl, fun W hSw => by go_simp⟩) (by assumption) ?_
    try simp only [Act.put, List.setIfInBounds_toArray, List.set_cons_zero, List.set_cons_succ]
    refine takeD (i := 9) (oi := _) (d := some 151) (v := undef) rfl rfl (by kernel_rfl) (by kernel_rfl) (by kernel_rfl) (fun _ _ _ h => h) (Or.inr ⟨by rfl, rfl⟩) (by assumption) ?_
    try simp only [Act.put, List.setIfInBounds_toArray, List.set_cons_zero, List.set_cons_succ]
    refine takeD (i := 10) (oi := _) (d := some 152) (v := undef) rfl rfl (by kernel_rfl) (by kernel_rfl) (by kernel_rfl) (fun _ _ _ h => h) (Or.inr ⟨by rfl, rfl⟩) (by assumption) ?_
    try simp only [Act.put, List.setIfInBounds_toArray, List.set_cons_zero, List.set_cons_succ]
    refine takeD (i := 11) (oi := _) (d := some 153) (v := undef) rfl rfl (by kernel_rfl) (by kernel_rfl) (by kernel_rfl) (fun _ _ _ h => h) (Or.inr ⟨by rfl, rfl⟩) (by assumption) ?_
    try simp only [Act.put, List.setIfInBounds_toArray, List.set_cons_zero, List.set_cons_succ]
    refine takeD (i := 12) (oi := _) (d := some 154) (v := .bool true) rfl rfl (by kernel_rfl) (by kernel_rfl) (by kernel_rfl) (fun _ _ _ h => h) (Or.inl ⟨by rfl, fun W hSw => by go_simp⟩) (by assumption) ?_
    try simp only [Act.put, List.setIfInBounds_toArray, List.set_cons_zero, List.set_cons_succ]
    refine takeD (i := 13) (oi := _) (d := some 155) (v := .agg (cellsI ⟨yS, true⟩)) rfl rfl (by kernel_rfl) (by kernel_rfl) (by kernel_rfl) (fun _ _ _ h => h) (Or.inl ⟨by rfl, fun W hSw => by go_simp; rfl⟩) (by assumption) ?_
    try simp only [Act.put, List.setIfInBounds_toArray, List.set_cons_zero, List.set_cons_succ]
    refine takeD (i := 14) (oi := _) (d := some 156) (v := .agg (cellsB mm)) rfl rfl (by kernel_rfl) (by kernel_rfl) (by kernel_rfl) (fun _ _ _ h => h) (yieldsIf_load_row (by rfl) 30 _ rfl (w.heap.size + 1) rfl (cellsB mm) (fun W h => load_msg h.rs.msB)) (by assumption) ?_
    try simp only [Act.put, List.setIfInBounds_toArray, List.set_cons_zero, List.set_cons_succ]
    obtain ⟨f1, f2, f3, f4, f5⟩ := hS4.out.finY (⟨yS, true⟩)
    refine wpAnyH_ready (rs := [15]) (by kernel_rfl) (by simp) ?_
    refine AllReadyH.cons (o := _) rfl (fun K hK => ?_) AllReadyH.nil
    rw [if_pos (by rfl)]
    refine wp_store_row 66 _ _ rfl (w.heap.size + 1 + 1) (cellsI (⟨yS, true⟩)) rfl rfl 66 (cellsI zeroX) f1 (info_inC _) rfl (oneI _) ?_
    refine hK.out _ _ (hSset.out _ _ (by assumption) (by omega) (by omega) _) (fun hHeld2 => ?_)
    clear hK K
    try simp only [Act.put, List.setIfInBounds_toArray]
    refine wpAnyH_ready (rs := [16]) (by kernel_rfl) (by simp) ?_
    refine AllReadyH.cons (o := _) rfl (fun K hK => ?_) AllReadyH.nil
    rw [if_pos (by rfl)]
    refine wp_store_row 30 _ _ rfl (w.heap.size + 1 + 1 + 1) (cellsB mm) rfl rfl 30 (cellsB noM) f2 (info_msgC _) rfl hone.out ?_
    refine hK.out _ _ (hSset.out _ _ hHeld2 (by omega) (by omega) _) (fun hHeld3 => ?_)
    clear hK K
    try simp only [Act.put]
    refine wpAnyH_done (by kernel_rfl) ?_ _
    go_wp2
    refine bodyPost_ret (results_IM rfl rfl rfl f3 f4) rfl ⟨rfl, f5⟩
  · refine takeD (i := 0) (oi := _) (d := some 142) (v := .pointer (some ⟨W3.heap.size, 0, none⟩)) rfl rfl (by kernel_rfl) (by kernel_rfl) (by kernel_rfl) (fun _ _ _ h => h) (Or.inl ⟨by rfl, fun W hSw => by go_simp⟩) (by assumption) ?_
    try simp only [Act.put, List.setIfInBounds_toArray, List.set_cons_zero, List.set_cons_succ]
    refine takeD (i := 1) (oi := _) (d := some 143) (v := .string (mk yS)) rfl rfl (by kernel_rfl) (by kernel_rfl) (by kernel_rfl) (fun _ _ _ h => h) (Or.inl ⟨by rfl, fun W hSw => by have q := (hY.out W hSw).1; go_simp⟩) (by assumption) ?_
    try simp only [Act.put, List.setIfInBounds_toArray, List.set_cons_zero, List.set_cons_succ]
    refine takeD (i := 2) (oi := _) (d := some 144) (v := .pointer (some ⟨W3.heap.size, 1, none⟩)) rfl rfl (by kernel_rfl) (by kernel_rfl) (by kernel_rfl) (fun _ _ _ h => h) (Or.inl ⟨by rfl, fun W hSw => by go_simp⟩) (by assumption) ?_
    try simp only [Act.put, List.setIfInBounds_toArray, List.set_cons_zero, List.set_cons_succ]
    refine takeD (i := 3) (oi := _) (d := some 145) (v := .bool false) rfl rfl (by kernel_rfl) (by kernel_rfl) (by kernel_rfl) (fun _ _ _ h => h) (Or.inl ⟨by rfl, fun W hSw => by have q := (hY.out W hSw).2; go_simp⟩) (by assumption) ?_
    try simp only [Act.put, List.setIfInBounds_toArray, List.set_cons_zero, List.set_cons_succ]
    refine takeD (i := 4) (oi := _) (d := some 146) (v := .bool false) rfl rfl (by kernel_rfl) (by kernel_rfl) (by kernel_rfl) (fun _ _ _ h => h) (Or.inl ⟨by rfl, fun W hSw => by go_simp⟩) (by assumption) ?_
    try simp only [Act.put, List.setIfInBounds_toArray, List.set_cons_zero, List.set_cons_succ]
    refine takeD (i := 5) (oi := _) (d := some 147) (v := .int .i64 er) rfl rfl (by kernel_rfl) (by kernel_rfl) (by kernel_rfl) (fun _ _ _ h => h) (Or.inl ⟨by rfl, fun W hSw => by go_simp⟩) (by assumption) ?_
    try simp only [Act.put, List.setIfInBounds_toArray, List.set_cons_zero, List.set_cons_succ]
    refine takeD (i := 6) (oi := _) (d := some 148) (v := .bool true) rfl rfl (by kernel_rfl) (by kernel_rfl) (by kernel_rfl) (fun _ _ _ h => h) (Or.inl ⟨by rfl, fun W hSw => by go_simp⟩) (by assumption) ?_
    try simp only [Act.put, List.setIfInBounds_toArray, List.set_cons_zero, List.set_cons_succ]
    refine takeD (i := 7) (oi := _) (d := some 149) (v := .bool true) rfl rfl (by kernel_rfl) (by kernel_rfl) (by kernel_rfl) (fun _ _ _ h => h) (Or.inl ⟨by rfl, fun W hSw => by go_simp⟩) (by assumption) ?_
    try simp only [Act.put, List.setIfInBounds_toArray, List.set_cons_zero, List.set_cons_succ]
    refine takeD (i := 8) (oi := _) (d := some 150) (v := .bool true) rfl rfl (by kernel_rfl) (by kernel_rfl) (by kernel_rfl) (fun _ _ _ h => h) (Or.inl ⟨by rfl, fun W hSw => by go_simp⟩) (by assumption) ?_
    try simp only [Act.put, List.setIfInBounds_toArray, List.set_cons_zero, List.set_cons_succ]
    refine takeD (i := 9) (oi := _) (d := some 151) (v := undef) rfl rfl (by kernel_rfl) (by kernel_rfl) (by kernel_rfl) (fun _ _ _ h => h) (Or.inr ⟨by rfl, rfl⟩) (by assumption) ?_
    try simp only [Act.put, List.setIfInBounds_toArray, List.set_cons_zero, List.set_cons_succ]
    refine takeD (i := 10) (oi := _) (d := some 152) (v := undef) rfl rfl (by kernel_rfl) (by kernel_rfl) (by kernel_rfl) (fun _ _ _ h => h) (Or.inr ⟨by rfl, rfl⟩) (by assumption) ?_
    try simp only [Act.put, List.setIfInBounds_toArray, List.set_cons_zero, List.set_cons_succ]
    refine takeD (i := 11) (oi := _) (d := some 153) (v := undef) rfl rfl (by kernel_rfl) (by kernel_rfl) (by kernel_rfl) (fun _ _ _ h => h) (Or.inr ⟨by rfl, rfl⟩) (by assumption) ?_
    try simp only [Act.put, List.setIfInBounds_toArray, List.set_cons_zero, List.set_cons_succ]
    refine takeD (i := 12) (oi := _) (d := some 154) (v := .bool true) rfl rfl (by kernel_rfl) (by kernel_rfl) (by kernel_rfl) (fun _ _ _ h => h) (Or.inl ⟨by rfl, fun W hSw => by go_simp⟩) (by assumption) ?_
    try simp only [Act.put, List.setIfInBounds_toArray, List.set_cons_zero, List.set_cons_succ]
    refine takeD (i := 13) (oi := _) (d := some 155) (v := .agg (cellsI ⟨yS, true⟩)) rfl rfl (by kernel_rfl) (by kernel_rfl) (by kernel_rfl) (fun _ _ _ h => h) (Or.inl ⟨by rfl, fun W hSw => by go_simp; rfl⟩) (by assumption) ?_
    try simp only [Act.put, List.setIfInBounds_toArray, List.set_cons_zero, List.set_cons_succ]
    refine takeD (i := 14) (oi := _) (d := some 156) (v := .agg (cellsB mm)) rfl rfl (by kernel_rfl) (by kernel_rfl) (by kernel_rfl) (fun _ _ _ h => h) (yieldsIf_load_row (by rfl) 30 _ rfl (w.heap.size + 1) rfl (cellsB mm) (fun W h => load_msg h.rs.msB)) (by assumption) ?_
    try simp only [Act.put, List.setIfInBounds_toArray, List.set_cons_zero, List.set_cons_succ]
    obtain ⟨f1, f2, f3, f4, f5⟩ := hS4.out.finY (⟨yS, true⟩)
    refine wpAnyH_ready (rs := [15]) (by kernel_rfl) (by simp) ?_
    refine AllReadyH.cons (o := _) rfl (fun K hK => ?_) AllReadyH.nil
    rw [if_pos (by rfl)]
    refine wp_store_row 66 _ _ rfl (w.heap.size + 1 + 1) (cellsI (⟨yS, true⟩)) rfl rfl 66 (cellsI zeroX) f1 (info_inC _) rfl (oneI _) ?_
    refine hK.out _ _ (hSset.out _ _ (by assumption) (by omega) (by omega) _) (fun hHeld2 => ?_)
    clear hK K
    try simp only [Act.put, List.setIfInBounds_toArray]
    refine wpAnyH_ready (rs := [16]) (by kernel_rfl) (by simp) ?_
    refine AllReadyH.cons (o := _) rfl (fun K hK => ?_) AllReadyH.nil
    rw [if_pos (by rfl)]
    refine wp_store_row 30 _ _ rfl (w.heap.size + 1 + 1 + 1) (cellsB mm) rfl rfl 30 (cellsB noM) f2 (info_msgC _) rfl hone.out ?_
    refine hK.out _ _ (hSset.out _ _ hHeld2 (by omega) (by omega) _) (fun hHeld3 => ?_)
    clear hK K
    try simp only [Act.put]
    refine wpAnyH_done (by kernel_rfl) ?_ _
    go_wp2
    refine bodyPost_ret (results_IM rfl rfl rfl f3 f4) rfl ⟨rfl, f5⟩
  · refine takeD (i := 0) (oi := _) (d := some 142) (v := .pointer (some ⟨W3.heap.size, 0, none⟩)) rfl rfl (by kernel_rfl) (by kernel_rfl) (by kernel_rfl) (fun _ _ _ h => h) (Or.inl ⟨by rfl, fun W hSw => by go_simp⟩) (by assumption) ?_
    try simp only [Act.put, List.setIfInBounds_toArray, List.set_cons_zero, List.set_cons_succ]
    refine takeD (i := 1) (oi := _) (d := some 143) (v := .string (mk yS)) rfl rfl (by kernel_rfl) (by kernel_rfl) (by kernel_rfl) (fun _ _ _ h => h) (Or.inl ⟨by rfl, fun W hSw => by have q := (hY.out W hSw).1; go_simp⟩) (by assumption) ?_
    try simp only [Act.put, List.setIfInBounds_toArray, List.set_cons_zero, List.set_cons_succ]
    refine takeD (i := 2) (oi := _) (d := some 144) (v := .pointer (some ⟨W3.heap.size, 1, none⟩)) rfl rfl (by kernel_rfl) (by kernel_rfl) (by kernel_rfl) (fun _ _ _ h => h) (Or.inl ⟨by rfl, fun W hSw => by go_simp⟩) (by assumption) ?_
    try simp only [Act.put, List.setIfInBounds_toArray, List.set_cons_zero, List.set_cons_succ]
    refine takeD (i := 3) (oi := _) (d := some 145) (v := .bool true) rfl rfl (by kernel_rfl) (by kernel_rfl) (by kernel_rfl) (fun _ _ _ h => h) (Or.inl ⟨by rfl, fun W hSw => by have q := (hY.out W hSw).2; go_simp⟩) (by assumption) ?_
    try simp only [Act.put, List.setIfInBounds_toArray, List.set_cons_zero, List.set_cons_succ]
    refine takeD (i := 4) (oi := _) (d := some 146) (v := .bool true) rfl rfl (by kernel_rfl) (by kernel_rfl) (by kernel_rfl) (fun _ _ _ h => h) (Or.inl ⟨by rfl, fun W hSw => by go_simp⟩) (by assumption) ?_
    try simp only [Act.put, List.setIfInBounds_toArray, List.set_cons_zero, List.set_cons_succ]
    refine takeD (i := 5) (oi := _) (d := some 147) (v := undef) rfl rfl (by kernel_rfl) (by kernel_rfl) (by kernel_rfl) (fun _ _ _ h => h) (Or.inr ⟨by rfl, rfl⟩) (by assumption) ?_
    try simp only [Act.put, List.setIfInBounds_toArray, List.set_cons_zero, List.set_cons_succ]
    refine takeD (i := 6) (oi := _) (d := some 148) (v := undef) rfl rfl (by kernel_rfl) (by kernel_rfl) (by kernel_rfl) (fun _ _ _ h => h) (Or.inr ⟨by rfl, rfl⟩) (by assumption) ?_
    try simp only [Act.put, List.setIfInBounds_toArray, List.set_cons_zero, List.set_cons_succ]
    refine takeD (i := 7) (oi := _) (d := some 149) (v := .bool true) rfl rfl (by kernel_rfl) (by kernel_rfl) (by kernel_rfl) (fun _ _ _ h => h) (Or.inl ⟨by rfl, fun W hSw => by go_simp⟩) (by assumption) ?_
    try simp only [Act.put, List.setIfInBounds_toArray, List.set_cons_zero, List.set_cons_succ]
    refine takeD (i := 8) (oi := _) (d := some 150) (v := .bool true) rfl rfl (by kernel_rfl) (by kernel_rfl) (by kernel_rfl) (fun _ _ _ h => h) (Or.inl ⟨by rfl, fun W hSw => by go_simp⟩) (by assumption) ?_
    try simp only [Act.put, List.setIfInBounds_toArray, List.set_cons_zero, List.set_cons_succ]
    refine takeD (i := 9) (oi := _) (d := some 151) (v := undef) rfl rfl (by kernel_rfl) (by kernel_rfl) (by kernel_rfl) (fun _ _ _ h => h) (Or.inr ⟨by rfl, rfl⟩) (by assumption) ?_
    try simp only [Act.put, List.setIfInBounds_toArray, List.set_cons_zero, List.set_cons_succ]
    refine takeD (i := 10) (oi := _) (d := some 152) (v := undef) rfl rfl (by kernel_rfl) (by kernel_rfl) (by kernel_rfl) (fun _ _ _ h => h) (Or.inr ⟨by rfl, rfl⟩) (by assumption) ?_
    try simp only [Act.put, List.setIfInBounds_toArray, List.set_cons_zero, List.set_cons_succ]
    refine takeD (i := 11) (oi := _) (d := some 153) (v := undef) rfl rfl (by kernel_rfl) (by kernel_rfl) (by kernel_rfl) (fun _ _ _ h => h) (Or.inr ⟨by rfl, rfl⟩) (by assumption) ?_
    try simp only [Act.put, List.setIfInBounds_toArray, List.set_cons_zero, List.set_cons_succ]
    refine takeD (i := 12) (oi := _) (d := some 154) (v := .bool true) rfl rfl (by kernel_rfl) (by kernel_rfl) (by kernel_rfl) (fun _ _ _ h => h) (Or.inl ⟨by rfl, fun W hSw => by go_simp⟩) (by assumption) ?_
    try simp only [Act.put, List.setIfInBounds_toArray, List.set_cons_zero, List.set_cons_succ]
    refine takeD (i := 13) (oi := _) (d := some 155) (v := .agg (cellsI ⟨yS, true⟩)) rfl rfl (by kernel_rfl) (by kernel_rfl) (by kernel_rfl) (fun _ _ _ h => h) (Or.inl ⟨by rfl, fun W hSw => by go_simp; rfl⟩) (by assumption) ?_
    try simp only [Act.put, List.setIfInBounds_toArray, List.set_cons_zero, List.set_cons_succ]
    refine takeD (i := 14) (oi := _) (d := some 156) (v := .agg (cellsB mm)) rfl rfl (by kernel_rfl) (by kernel_rfl) (by kernel_rfl) (fun _ _ _ h => h) (yieldsIf_load_row (by rfl) 30 _ rfl (w.heap.size + 1) rfl (cellsB mm) (fun W h => load_msg h.rs.msB)) (by assumption) ?_
    try simp only [Act.put, List.setIfInBounds_toArray, List.set_cons_zero, List.set_cons_succ]
    obtain ⟨f1, f2, f3, f4, f5⟩ := hS4.out.finY (⟨yS, true⟩)
    refine wpAnyH_ready (rs := [15]) (by kernel_rfl) (by simp) ?_
    refine AllReadyH.cons (o := _) rfl (fun K hK => ?_) AllReadyH.nil
    rw [if_pos (by rfl)]
    refine wp_store_row 66 _ _ rfl (w.heap.size + 1 + 1) (cellsI (⟨yS, true⟩)) rfl rfl 66 (cellsI zeroX) f1 (info_inC _) rfl (oneI _) ?_
    refine hK.out _ _ (hSset.out _ _ (by assumption) (by omega) (by omega) _) (fun hHeld2 => ?_)
    clear hK K
    try simp only [Act.put, List.setIfInBounds_toArray]
    refine wpAnyH_ready (rs := [16]) (by kernel_rfl) (by simp) ?_
    refine AllReadyH.cons (o := _) rfl (fun K hK => ?_) AllReadyH.nil
    rw [if_pos (by rfl)]
    refine wp_store_row 30 _ _ rfl (w.heap.size + 1 + 1 + 1) (cellsB mm) rfl rfl 30 (cellsB noM) f2 (info_msgC _) rfl hone.out ?_
    refine hK.out _ _ (hSset.out _ _ hHeld2 (by omega) (by omega) _) (fun hHeld3 => ?_)
    clear hK K
    try simp only [Act.put]
    refine wpAnyH_done (by kernel_rfl) ?_ _
    go_wp2
    refine bodyPost_ret (results_IM rfl rfl rfl f3 f4) rfl ⟨rfl, f5⟩
end Go.Proofs.YtlfdmbfbfadifaaGreatDoor
