/-
  The reference's field: a field of a message is appended.
  The reference's field: errors; its list: data, a description.
-/
import Derived.Test.YtlfdmbfbfadifaaGreatDoorYv
namespace Go.Proofs.YtlfdmbfbfadifaaGreatDoor
open Go.RowKit

set_option maxHeartbeats 4000000 in
set_option maxRecDepth 100000 in
theorem Rf_11 (s : List UInt8) (m : MM) (w : World) (hf : 0 ≤ m.io ∧ m.io ≤ 8192) (hs : (mk s).size ≤ 700000) :
    Calls Tryz.prog 24 #[outV s, msgV m, .int .i64 15] w fun e w' => e = .returned (outV (s ++ encF m 11)) ∧ Below w.heap.size w w' := by
  have L := Lib.hid (fun W => RnumI s m.io 4 4 W rfl (by omega) ⟨by omega, by omega⟩ ⟨by omega, by omega⟩ (by omega))
  have HE : Hid (s ++ le 4 m.io.toNat = s ++ encF m 11) := rfl
  have x : (cellsB m)[15]? = some (.int .i64 m.io) := rfl
  generalize s ++ le 4 m.io.toNat = s1 at *
  have HK := Lib.hid (fun W1 hB => three_kept (w := w) (c1 := #[.string (mk s), .int .i64 0]) (c2 := cellsB m) (c3 := #[.string ⟨#[]⟩, .int .i64 0]) (t1 := 56) (t2 := 30) (t3 := 56) (W1 := W1) hB)
  generalize encF m 11 = en at *
  unfold outV msgV at *
  generalize cellsB m = ca at *
  clear hf hs
  go_enter Tryz.func24, Tryz.ntmps24
  go_wp2_with fail
  refine (L.out _).mono ?_
  rintro e W1 ⟨rfl, hB⟩
  obtain ⟨hR, hB1⟩ := HK.out W1 hB
  have HR := Lib.hid hR
  have HB := Lib.hid hB1
  have z0 := Lib.frozen_of_heap hR 0
  have z1 := Lib.frozen_of_heap hR 1
  have y0 := (Lib.cell_of_heap hR 0).trans (show _ = some (.string ⟨#[]⟩) from rfl)
  have y1 := (Lib.cell_of_heap hR 1).trans (show _ = some (.int .i64 0) from rfl)
  clear hB hR hB1
  go_wp2
  refine bodyPost_ret (results_cell_row rfl _ _ (w.heap.size + 1 + 1) 56 #[.string (mk s1), .int .i64 0] (0, 0) _ rfl (set2 HR.out) Tryz.underlying56 rfl (by kernel_rfl)) rfl ⟨by rw [HE.out], ?_⟩
  exact (HB.out.setCell (p := ⟨w.heap.size + 1 + 1, 0, none⟩) (by show _ ≤ _ + 1 + 1; omega) _).setCell (p := ⟨w.heap.size + 1 + 1, 1, none⟩) (by show _ ≤ _ + 1 + 1; omega) _

set_option maxHeartbeats 4000000 in
set_option maxRecDepth 100000 in
theorem Rf_12 (s : List UInt8) (m : MM) (w : World) (hf : 0 ≤ m.mo ∧ m.mo ≤ 255) (hs : (mk s).size ≤ 700000) :
    Calls Tryz.prog 24 #[outV s, msgV m, .int .i64 14] w fun e w' => e = .returned (outV (s ++ encF m 12)) ∧ Below w.heap.size w w' := by
  have L := Lib.hid (fun W => RnumI s m.mo 1 1 W rfl (by omega) ⟨by omega, by omega⟩ ⟨by omega, by omega⟩ (by omega))
  have HE : Hid (s ++ le 1 m.mo.toNat = s ++ encF m 12) := rfl
  have x : (cellsB m)[16]? = some (.int .i64 m.mo) := rfl
  generalize s ++ le 1 m.mo.toNat = s1 at *
  have HK := Lib.hid (fun W1 hB => three_kept (w := w) (c1 := #[.string (mk s), .int .i64 0]) (c2 := cellsB m) (c3 := #[.string ⟨#[]⟩, .int .i64 0]) (t1 := 56) (t2 := 30) (t3 := 56) (W1 := W1) hB)
  generalize encF m 12 = en at *
  unfold outV msgV at *
  generalize cellsB m = ca at *
  clear hf hs
  go_enter Tryz.func24, Tryz.ntmps24
  go_wp2_with fail
  refine (L.out _).mono ?_
  rintro e W1 ⟨rfl, hB⟩
  obtain ⟨hR, hB1⟩ := HK.out W1 hB
  have HR := Lib.hid hR
  have HB := Lib.hid hB1
  have z0 := Lib.frozen_of_heap hR 0
  have z1 := Lib.frozen_of_heap hR 1
  have y0 := (Lib.cell_of_heap hR 0).trans (show _ = some (.string ⟨#[]⟩) from rfl)
  have y1 := (Lib.cell_of_heap hR 1).trans (show _ = some (.int .i64 0) from rfl)
  clear hB hR hB1
  go_wp2
  refine bodyPost_ret (results_cell_row rfl _ _ (w.heap.size + 1 + 1) 56 #[.string (mk s1), .int .i64 0] (0, 0) _ rfl (set2 HR.out) Tryz.underlying56 rfl (by kernel_rfl)) rfl ⟨by rw [HE.out], ?_⟩
  exact (HB.out.setCell (p := ⟨w.heap.size + 1 + 1, 0, none⟩) (by show _ ≤ _ + 1 + 1; omega) _).setCell (p := ⟨w.heap.size + 1 + 1, 1, none⟩) (by show _ ≤ _ + 1 + 1; omega) _

set_option maxHeartbeats 4000000 in
set_option maxRecDepth 100000 in
theorem Rf_13 (s : List UInt8) (m : MM) (w : World) (hf : 0 ≤ m.pe ∧ m.pe ≤ 4294967295) (hs : (mk s).size ≤ 700000) :
    Calls Tryz.prog 24 #[outV s, msgV m, .int .i64 17] w fun e w' => e = .returned (outV (s ++ encF m 13)) ∧ Below w.heap.size w w' := by
  have L := Lib.hid (fun W => RnumI s m.pe 4 4 W rfl (by omega) ⟨by omega, by omega⟩ ⟨by omega, by omega⟩ (by omega))
  have HE : Hid (s ++ le 4 m.pe.toNat = s ++ encF m 13) := rfl
  have x : (cellsB m)[17]? = some (.int .i64 m.pe) := rfl
  generalize s ++ le 4 m.pe.toNat = s1 at *
  have HK := Lib.hid (fun W1 hB => three_kept (w := w) (c1 := #[.string (mk s), .int .i64 0]) (c2 := cellsB m) (c3 := #[.string ⟨#[]⟩, .int .i64 0]) (t1 := 56) (t2 := 30) (t3 := 56) (W1 := W1) hB)
  generalize encF m 13 = en at *
  unfold outV msgV at *
  generalize cellsB m = ca at *
  clear hf hs
  go_enter Tryz.func24, Tryz.ntmps24
  go_wp2_with fail
  refine (L.out _).mono ?_
  rintro e W1 ⟨rfl, hB⟩
  obtain ⟨hR, hB1⟩ := HK.out W1 hB
  have HR := Lib.hid hR
  have HB := Lib.hid hB1
  have z0 := Lib.frozen_of_heap hR 0
  have z1 := Lib.frozen_of_heap hR 1
  have y0 := (Lib.cell_of_heap hR 0).trans (show _ = some (.string ⟨#[]⟩) from rfl)
  have y1 := (Lib.cell_of_heap hR 1).trans (show _ = some (.int .i64 0) from rfl)
  clear hB hR hB1
  go_wp2
  refine bodyPost_ret (results_cell_row rfl _ _ (w.heap.size + 1 + 1) 56 #[.string (mk s1), .int .i64 0] (0, 0) _ rfl (set2 HR.out) Tryz.underlying56 rfl (by kernel_rfl)) rfl ⟨by rw [HE.out], ?_⟩
  exact (HB.out.setCell (p := ⟨w.heap.size + 1 + 1, 0, none⟩) (by show _ ≤ _ + 1 + 1; omega) _).setCell (p := ⟨w.heap.size + 1 + 1, 1, none⟩) (by show _ ≤ _ + 1 + 1; omega) _

set_option maxHeartbeats 4000000 in
set_option maxRecDepth 100000 in
theorem Rf_14 (s : List UInt8) (m : MM) (w : World) (hf : m.na.length ≤ 64) (hs : (mk s).size ≤ 700000) :
    Calls Tryz.prog 24 #[outV s, msgV m, .int .i64 16] w fun e w' => e = .returned (outV (s ++ encF m 14)) ∧ Below w.heap.size w w' := by
  have L := Lib.hid (fun W => Rtext s m.na W (by omega) (by omega))
  have HE : Hid (s ++ counted m.na = s ++ encF m 14) := rfl
  have x : (cellsB m)[18]? = some (.string (mk m.na)) := rfl
  generalize s ++ counted m.na = s1 at *
  have HK := Lib.hid (fun W1 hB => three_kept (w := w) (c1 := #[.string (mk s), .int .i64 0]) (c2 := cellsB m) (c3 := #[.string ⟨#[]⟩, .int .i64 0]) (t1 := 56) (t2 := 30) (t3 := 56) (W1 := W1) hB)
  generalize encF m 14 = en at *
  unfold outV msgV at *
  generalize cellsB m = ca at *
  clear hf hs
  go_enter Tryz.func24, Tryz.ntmps24
  go_wp2_with fail
  refine (L.out _).mono ?_
  rintro e W1 ⟨rfl, hB⟩
  obtain ⟨hR, hB1⟩ := HK.out W1 hB
  have HR := Lib.hid hR
  have HB := Lib.hid hB1
  have z0 := Lib.frozen_of_heap hR 0
  have z1 := Lib.frozen_of_heap hR 1
  have y0 := (Lib.cell_of_heap hR 0).trans (show _ = some (.string ⟨#[]⟩) from rfl)
  have y1 := (Lib.cell_of_heap hR 1).trans (show _ = some (.int .i64 0) from rfl)
  clear hB hR hB1
  go_wp2
  refine bodyPost_ret (results_cell_row rfl _ _ (w.heap.size + 1 + 1) 56 #[.string (mk s1), .int .i64 0] (0, 0) _ rfl (set2 HR.out) Tryz.underlying56 rfl (by kernel_rfl)) rfl ⟨by rw [HE.out], ?_⟩
  exact (HB.out.setCell (p := ⟨w.heap.size + 1 + 1, 0, none⟩) (by show _ ≤ _ + 1 + 1; omega) _).setCell (p := ⟨w.heap.size + 1 + 1, 1, none⟩) (by show _ ≤ _ + 1 + 1; omega) _

set_option maxHeartbeats 4000000 in
set_option maxRecDepth 100000 in
theorem Rf_15 (s : List UInt8) (m : MM) (w : World) (hf : 0 ≤ m.os ∧ m.os ≤ 9007199254740991) (hs : (mk s).size ≤ 700000) :
    Calls Tryz.prog 24 #[outV s, msgV m, .int .i64 18] w fun e w' => e = .returned (outV (s ++ encF m 15)) ∧ Below w.heap.size w w' := by
  have L := Lib.hid (fun W => RnumI s m.os 8 8 W rfl (by omega) ⟨by omega, by omega⟩ ⟨by omega, by omega⟩ (by omega))
  have HE : Hid (s ++ le 8 m.os.toNat = s ++ encF m 15) := rfl
  have x : (cellsB m)[19]? = some (.int .i64 m.os) := rfl
  generalize s ++ le 8 m.os.toNat = s1 at *
  have HK := Lib.hid (fun W1 hB => three_kept (w := w) (c1 := #[.string (mk s), .int .i64 0]) (c2 := cellsB m) (c3 := #[.string ⟨#[]⟩, .int .i64 0]) (t1 := 56) (t2 := 30) (t3 := 56) (W1 := W1) hB)
  generalize encF m 15 = en at *
  unfold outV msgV at *
  generalize cellsB m = ca at *
  clear hf hs
  go_enter Tryz.func24, Tryz.ntmps24
  go_wp2_with fail
  refine (L.out _).mono ?_
  rintro e W1 ⟨rfl, hB⟩
  obtain ⟨hR, hB1⟩ := HK.out W1 hB
  have HR := Lib.hid hR
  have HB := Lib.hid hB1
  have z0 := Lib.frozen_of_heap hR 0
  have z1 := Lib.frozen_of_heap hR 1
  have y0 := (Lib.cell_of_heap hR 0).trans (show _ = some (.string ⟨#[]⟩) from rfl)
  have y1 := (Lib.cell_of_heap hR 1).trans (show _ = some (.int .i64 0) from rfl)
  clear hB hR hB1
  go_wp2
  refine bodyPost_ret (results_cell_row rfl _ _ (w.heap.size + 1 + 1) 56 #[.string (mk s1), .int .i64 0] (0, 0) _ rfl (set2 HR.out) Tryz.underlying56 rfl (by kernel_rfl)) rfl ⟨by rw [HE.out], ?_⟩
  exact (HB.out.setCell (p := ⟨w.heap.size + 1 + 1, 0, none⟩) (by show _ ≤ _ + 1 + 1; omega) _).setCell (p := ⟨w.heap.size + 1 + 1, 1, none⟩) (by show _ ≤ _ + 1 + 1; omega) _

set_option maxHeartbeats 4000000 in
set_option maxRecDepth 100000 in
theorem Rf_16 (s : List UInt8) (m : MM) (w : World) (hf : 0 ≤ m.co ∧ m.co ≤ 8192) (hs : (mk s).size ≤ 700000) :
    Calls Tryz.prog 24 #[outV s, msgV m, .int .i64 19] w fun e w' => e = .returned (outV (s ++ encF m 16)) ∧ Below w.heap.size w w' := by
  have L := Lib.hid (fun W => RnumI s m.co 4 4 W rfl (by omega) ⟨by omega, by omega⟩ ⟨by omega, by omega⟩ (by omega))
  have HE : Hid (s ++ le 4 m.co.toNat = s ++ encF m 16) := rfl
  have x : (cellsB m)[20]? = some (.int .i64 m.co) := rfl
  generalize s ++ le 4 m.co.toNat = s1 at *
  have HK := Lib.hid (fun W1 hB => three_kept (w := w) (c1 := #[.string (mk s), .int .i64 0]) (c2 := cellsB m) (c3 := #[.string ⟨#[]⟩, .int .i64 0]) (t1 := 56) (t2 := 30) (t3 := 56) (W1 := W1) hB)
  generalize encF m 16 = en at *
  unfold outV msgV at *
  generalize cellsB m = ca at *
  clear hf hs
  go_enter Tryz.func24, Tryz.ntmps24
  go_wp2_with fail
  refine (L.out _).mono ?_
  rintro e W1 ⟨rfl, hB⟩
  obtain ⟨hR, hB1⟩ := HK.out W1 hB
  have HR := Lib.hid hR
  have HB := Lib.hid hB1
  have z0 := Lib.frozen_of_heap hR 0
  have z1 := Lib.frozen_of_heap hR 1
  have y0 := (Lib.cell_of_heap hR 0).trans (show _ = some (.string ⟨#[]⟩) from rfl)
  have y1 := (Lib.cell_of_heap hR 1).trans (show _ = some (.int .i64 0) from rfl)
  clear hB hR hB1
  go_wp2
  refine bodyPost_ret (results_cell_row rfl _ _ (w.heap.size + 1 + 1) 56 #[.string (mk s1), .int .i64 0] (0, 0) _ rfl (set2 HR.out) Tryz.underlying56 rfl (by kernel_rfl)) rfl ⟨by rw [HE.out], ?_⟩
  exact (HB.out.setCell (p := ⟨w.heap.size + 1 + 1, 0, none⟩) (by show _ ≤ _ + 1 + 1; omega) _).setCell (p := ⟨w.heap.size + 1 + 1, 1, none⟩) (by show _ ≤ _ + 1 + 1; omega) _

set_option maxHeartbeats 4000000 in
set_option maxRecDepth 100000 in
theorem Rf_20 (s : List UInt8) (m : MM) (w : World) (hf : 0 ≤ m.lz ∧ m.lz ≤ 2) (hs : (mk s).size ≤ 700000) :
    Calls Tryz.prog 24 #[outV s, msgV m, .int .i64 22] w fun e w' => e = .returned (outV (s ++ encF m 20)) ∧ Below w.heap.size w w' := by
  have L := Lib.hid (fun W => RnumI s m.lz 1 1 W rfl (by omega) ⟨by omega, by omega⟩ ⟨by omega, by omega⟩ (by omega))
  have HE : Hid (s ++ le 1 m.lz.toNat = s ++ encF m 20) := rfl
  have x : (cellsB m)[36]? = some (.int .i64 m.lz) := rfl
  generalize s ++ le 1 m.lz.toNat = s1 at *
  have HK := Lib.hid (fun W1 hB => three_kept (w := w) (c1 := #[.string (mk s), .int .i64 0]) (c2 := cellsB m) (c3 := #[.string ⟨#[]⟩, .int .i64 0]) (t1 := 56) (t2 := 30) (t3 := 56) (W1 := W1) hB)
  generalize encF m 20 = en at *
  unfold outV msgV at *
  generalize cellsB m = ca at *
  clear hf hs
  go_enter Tryz.func24, Tryz.ntmps24
  go_wp2_with fail
  refine (L.out _).mono ?_
  rintro e W1 ⟨rfl, hB⟩
  obtain ⟨hR, hB1⟩ := HK.out W1 hB
  have HR := Lib.hid hR
  have HB := Lib.hid hB1
  have z0 := Lib.frozen_of_heap hR 0
  have z1 := Lib.frozen_of_heap hR 1
  have y0 := (Lib.cell_of_heap hR 0).trans (show _ = some (.string ⟨#[]⟩) from rfl)
  have y1 := (Lib.cell_of_heap hR 1).trans (show _ = some (.int .i64 0) from rfl)
  clear hB hR hB1
  go_wp2
  refine bodyPost_ret (results_cell_row rfl _ _ (w.heap.size + 1 + 1) 56 #[.string (mk s1), .int .i64 0] (0, 0) _ rfl (set2 HR.out) Tryz.underlying56 rfl (by kernel_rfl)) rfl ⟨by rw [HE.out], ?_⟩
  exact (HB.out.setCell (p := ⟨w.heap.size + 1 + 1, 0, none⟩) (by show _ ≤ _ + 1 + 1; omega) _).setCell (p := ⟨w.heap.size + 1 + 1, 1, none⟩) (by show _ ≤ _ + 1 + 1; omega) _

set_option maxHeartbeats 4000000 in
set_option maxRecDepth 100000 in
theorem Rf_21 (s : List UInt8) (m : MM) (w : World) (hf : 0 ≤ m.te ∧ m.te ≤ 1048576) (hs : (mk s).size ≤ 700000) :
    Calls Tryz.prog 24 #[outV s, msgV m, .int .i64 23] w fun e w' => e = .returned (outV (s ++ encF m 21)) ∧ Below w.heap.size w w' := by
  have L := Lib.hid (fun W => RnumI s m.te 4 4 W rfl (by omega) ⟨by omega, by omega⟩ ⟨by omega, by omega⟩ (by omega))
  have HE : Hid (s ++ le 4 m.te.toNat = s ++ encF m 21) := rfl
  have x : (cellsB m)[37]? = some (.int .i64 m.te) := rfl
  generalize s ++ le 4 m.te.toNat = s1 at *
  have HK := Lib.hid (fun W1 hB => three_kept (w := w) (c1 := #[.string (mk s), .int .i64 0]) (c2 := cellsB m) (c3 := #[.string ⟨#[]⟩, .int .i64 0]) (t1 := 56) (t2 := 30) (t3 := 56) (W1 := W1) hB)
  generalize encF m 21 = en at *
  unfold outV msgV at *
  generalize cellsB m = ca at *
  clear hf hs
  go_enter Tryz.func24, Tryz.ntmps24
  go_wp2_with fail
  refine (L.out _).mono ?_
  rintro e W1 ⟨rfl, hB⟩
  obtain ⟨hR, hB1⟩ := HK.out W1 hB
  have HR := Lib.hid hR
  have HB := Lib.hid hB1
  have z0 := Lib.frozen_of_heap hR 0
  have z1 := Lib.frozen_of_heap hR 1
  have y0 := (Lib.cell_of_heap hR 0).trans (show _ = some (.string ⟨#[]⟩) from rfl)
  have y1 := (Lib.cell_of_heap hR 1).trans (show _ = some (.int .i64 0) from rfl)
  clear hB hR hB1
  go_wp2
  refine bodyPost_ret (results_cell_row rfl _ _ (w.heap.size + 1 + 1) 56 #[.string (mk s1), .int .i64 0] (0, 0) _ rfl (set2 HR.out) Tryz.underlying56 rfl (by kernel_rfl)) rfl ⟨by rw [HE.out], ?_⟩
  exact (HB.out.setCell (p := ⟨w.heap.size + 1 + 1, 0, none⟩) (by show _ ≤ _ + 1 + 1; omega) _).setCell (p := ⟨w.heap.size + 1 + 1, 1, none⟩) (by show _ ≤ _ + 1 + 1; omega) _

set_option maxHeartbeats 4000000 in
set_option maxRecDepth 100000 in
theorem Rf_22 (s : List UInt8) (m : MM) (w : World) (hf : m.se.length ≤ 64) (hs : (mk s).size ≤ 700000) :
    Calls Tryz.prog 24 #[outV s, msgV m, .int .i64 3] w fun e w' => e = .returned (outV (s ++ encF m 22)) ∧ Below w.heap.size w w' := by
  have L := Lib.hid (fun W => Rtext s m.se W (by omega) (by omega))
  have HE : Hid (s ++ counted m.se = s ++ encF m 22) := rfl
  have x : (cellsB m)[38]? = some (.string (mk m.se)) := rfl
  generalize s ++ counted m.se = s1 at *
  have HK := Lib.hid (fun W1 hB => three_kept (w := w) (c1 := #[.string (mk s), .int .i64 0]) (c2 := cellsB m) (c3 := #[.string ⟨#[]⟩, .int .i64 0]) (t1 := 56) (t2 := 30) (t3 := 56) (W1 := W1) hB)
  generalize encF m 22 = en at *
  unfold outV msgV at *
  generalize cellsB m = ca at *
  clear hf hs
  go_enter Tryz.func24, Tryz.ntmps24
  go_wp2_with fail
  refine (L.out _).mono ?_
  rintro e W1 ⟨rfl, hB⟩
  obtain ⟨hR, hB1⟩ := HK.out W1 hB
  have HR := Lib.hid hR
  have HB := Lib.hid hB1
  have z0 := Lib.frozen_of_heap hR 0
  have z1 := Lib.frozen_of_heap hR 1
  have y0 := (Lib.cell_of_heap hR 0).trans (show _ = some (.string ⟨#[]⟩) from rfl)
  have y1 := (Lib.cell_of_heap hR 1).trans (show _ = some (.int .i64 0) from rfl)
  clear hB hR hB1
  go_wp2
  refine bodyPost_ret (results_cell_row rfl _ _ (w.heap.size + 1 + 1) 56 #[.string (mk s1), .int .i64 0] (0, 0) _ rfl (set2 HR.out) Tryz.underlying56 rfl (by kernel_rfl)) rfl ⟨by rw [HE.out], ?_⟩
  exact (HB.out.setCell (p := ⟨w.heap.size + 1 + 1, 0, none⟩) (by show _ ≤ _ + 1 + 1; omega) _).setCell (p := ⟨w.heap.size + 1 + 1, 1, none⟩) (by show _ ≤ _ + 1 + 1; omega) _
end Go.Proofs.YtlfdmbfbfadifaaGreatDoor

namespace Go.Proofs.YtlfdmbfbfadifaaGreatDoor
open Go.RowKit

set_option maxHeartbeats 4000000 in
set_option maxRecDepth 100000 in
theorem Rf_19 (s : List UInt8) (m : MM) (w : World) (hf : 1 ≤ m.er ∧ m.er ≤ 59) (hs : (mk s).size ≤ 700000) :
    Calls Tryz.prog 24 #[outV s, msgV m, .int .i64 9] w fun e w' => e = .returned (outV (s ++ encF m 19)) ∧ Below w.heap.size w w' := by
  have ht := Ft.textL_len m.er
  have L0 := Lib.hid (fun W => qfText m.er ⟨by omega, by omega⟩ W)
  have L := Lib.hid (fun W => Rtext s (Ft.textL m.er) W (by omega) (by omega))
  have HE : Hid (s ++ counted (Ft.textL m.er) = s ++ encF m 19) := rfl
  generalize s ++ counted (Ft.textL m.er) = s1 at *
  generalize Ft.textL m.er = tx at *
  obtain ⟨W0, hW0, hz, hB0, hO, hM, hR⟩ := three_out w #[.string (mk s), .int .i64 0] (cellsB m) #[.string ⟨#[]⟩, .int .i64 0] 56 30 56
  have HW0 := Lib.hid hW0
  have HC : Hid (∀ W, Below W0.heap.size W0 W → W.heap[w.heap.size]? = some (.cells #[.string (mk s), .int .i64 0] 56 (0, 0)) ∧ W.heap[w.heap.size + 1]? = some (.cells (cellsB m) 30 (0, 0)) ∧ W.heap[w.heap.size + 1 + 1]? = some (.cells #[.string ⟨#[]⟩, .int .i64 0] 56 (0, 0))) :=
    fun W h => ⟨(h.block _ (by omega)).trans hO, (h.block _ (by omega)).trans hM, (h.block _ (by omega)).trans hR⟩
  have HB0 := Lib.hid hB0
  have HM : Hid (∀ W : World, W.heap[w.heap.size + 1]? = some (.cells (cellsB m) 30 (0, 0)) → W.cell? ⟨w.heap.size + 1, 35, none⟩ = some (.int .i64 m.er)) := fun W h => BlkM.cell (m := m) h 35
  clear hW0 hO hM hR hB0 hz hs hf ht
  unfold outV msgV at *
  generalize cellsB m = ca at *
  generalize encF m 19 = en at *
  go_enter Tryz.func24, Tryz.ntmps24
  go_upto_region 19 with fail
  simp only [HW0.out]
  have H0 := Lib.hid (below_drew (Below.refl W0.heap.size W0))
  have hkA : Hid (∀ W, Below W0.heap.size W0 W → W.cell? ⟨w.heap.size, 0, none⟩ = some (.string (mk s)) ∧ W.cell? ⟨w.heap.size, 1, none⟩ = some (.int .i64 0) ∧ W.cell? ⟨w.heap.size + 1, 35, none⟩ = some (.int .i64 m.er)) := fun W h =>
    ⟨Lib.cell_of_heap (HC.out W h).1 0, Lib.cell_of_heap (HC.out W h).1 1, HM.out W (HC.out W h).2.1⟩
  have hkB : Hid (∀ W, Below W0.heap.size W0 W → W.frozen? ⟨w.heap.size + 1 + 1, 0, none⟩ = false ∧ W.frozen? ⟨w.heap.size + 1 + 1, 1, none⟩ = false ∧ W.cell? ⟨w.heap.size + 1 + 1, 0, none⟩ = some (.string ⟨#[]⟩) ∧ W.cell? ⟨w.heap.size + 1 + 1, 1, none⟩ = some (.int .i64 0)) := fun W h =>
    ⟨Lib.frozen_of_heap (HC.out W h).2.2 0, Lib.frozen_of_heap (HC.out W h).2.2 1, Lib.cell_of_heap (HC.out W h).2.2 0, Lib.cell_of_heap (HC.out W h).2.2 1⟩
  have hkS : Hid (∀ W u v, Below W0.heap.size W0 W → ((W.setCell ⟨w.heap.size + 1 + 1, 0, none⟩ u).setCell ⟨w.heap.size + 1 + 1, 1, none⟩ v).cell? ⟨w.heap.size, 0, none⟩ = some (.string (mk s)) ∧ ((W.setCell ⟨w.heap.size + 1 + 1, 0, none⟩ u).setCell ⟨w.heap.size + 1 + 1, 1, none⟩ v).cell? ⟨w.heap.size, 1, none⟩ = some (.int .i64 0) ∧ ((W.setCell ⟨w.heap.size + 1 + 1, 0, none⟩ u).setCell ⟨w.heap.size + 1 + 1, 1, none⟩ v).cell? ⟨w.heap.size + 1, 35, none⟩ = some (.int .i64 m.er)) := fun W u v h =>
    ⟨Lib.cell_of_heap (setO (by omega) (setO (by omega) (HC.out W h).1)) 0, Lib.cell_of_heap (setO (by omega) (setO (by omega) (HC.out W h).1)) 1, HM.out _ (setO (by omega) (setO (by omega) (HC.out W h).2.1))⟩
  go_region_held3 (fun W => W.cell? ⟨w.heap.size, 0, none⟩ = some (.string (mk s)) ∧ W.cell? ⟨w.heap.size, 1, none⟩ = some (.int .i64 0) ∧ W.cell? ⟨w.heap.size + 1, 35, none⟩ = some (.int .i64 m.er)) (first | exact hkA.out _ H0.out | exact hkA.out _ H1.out | exact hkA.out _ H2.out | exact hkS.out _ _ _ H2.out) (first | (go_at_call 48; with_reducible refine (L0.out _).mono ?_; rintro e W1 ⟨rfl, hB⟩; have H1 := Lib.hid (H0.out.trans (hB.mono H0.out.size)); clear hB) | (go_at_call 46; with_reducible refine (L.out _).mono ?_; rintro e W2 ⟨rfl, hB⟩; have H2 := Lib.hid (H1.out.trans (hB.mono H1.out.size)); clear hB; have z0 := (hkB.out _ H2.out).1; have z1 := (hkB.out _ H2.out).2.1; have y0 := (hkB.out _ H2.out).2.2.1; have y1 := (hkB.out _ H2.out).2.2.2))
  clear z0 z1 y0 y1
  go_wp2
  refine bodyPost_ret (results_cell_row rfl _ _ (w.heap.size + 1 + 1) 56 #[.string (mk s1), .int .i64 0] (0, 0) _ rfl (set2 (HC.out _ H2.out).2.2) Tryz.underlying56 rfl (by kernel_rfl)) rfl ⟨by rw [HE.out], ?_⟩
  exact ((HB0.out.trans (H2.out.mono HB0.out.size)).setCell (p := ⟨w.heap.size + 1 + 1, 0, none⟩) (by show _ ≤ _ + 1 + 1; omega) _).setCell (p := ⟨w.heap.size + 1 + 1, 1, none⟩) (by show _ ≤ _ + 1 + 1; omega) _
end Go.Proofs.YtlfdmbfbfadifaaGreatDoor
