/-
  The reference's reader: what read leaves to readList.
  The reference's reader: a field.
-/
import Derived.Test.YtlfdmbfbfadifaaGreatDoorVr
import Derived.Test.YtlfdmbfbfadifaaGreatDoorVm
import Derived.Test.YtlfdmbfbfadifaaGreatDoorZb
namespace Go.Proofs.YtlfdmbfbfadifaaGreatDoor
open Go.RowKit

theorem RSt.finZ {w W : World} {x : XS} {m : MM} (h : RSt w W x m) (y : XS) (n : MM) :
    BlkI W (w.heap.size + 1 + 1) zeroX ∧ BlkM (W.setRow (w.heap.size + 1 + 1) (cellsI y)) (w.heap.size + 1 + 1 + 1) noM ∧ BlkI ((W.setRow (w.heap.size + 1 + 1) (cellsI y)).setRow (w.heap.size + 1 + 1 + 1) (cellsB n)) (w.heap.size + 1 + 1) y ∧ BlkM ((W.setRow (w.heap.size + 1 + 1) (cellsI y)).setRow (w.heap.size + 1 + 1 + 1) (cellsB n)) (w.heap.size + 1 + 1 + 1) n ∧ Below w.heap.size w ((W.setRow (w.heap.size + 1 + 1) (cellsI y)).setRow (w.heap.size + 1 + 1 + 1) (cellsB n)) := by
  have h1 : BlkI W (w.heap.size + 1 + 1) zeroX := h.inR
  have h2 : BlkM W (w.heap.size + 1 + 1 + 1) noM := h.msR
  have h3 : BlkM (W.setRow (w.heap.size + 1 + 1) (cellsI y)) (w.heap.size + 1 + 1 + 1) noM := (setRow_ne (by omega)).trans h2
  exact ⟨h1, h3, (setRow_ne (by omega)).trans (setRow_heap _ _ _ _ _ _ h1), setRow_heap _ _ _ _ _ _ h3, below_setRow (below_setRow h.base (by omega) _) (by omega) _⟩
theorem RowA.finZ {w W0 W : World} {m : MM} {c1 c2 : Array Value} (h : RowA (W0.heap.size + 4) W m) (h4 : w.heap.size + 4 ≤ W0.heap.size + 4) : RowA (w.heap.size + 4) ((W.setRow (w.heap.size + 1 + 1) c1).setRow (w.heap.size + 1 + 1 + 1) c2) m :=
  (RowA.to (h.mono h4) (by rw [setRow_size, setRow_size]; exact Nat.le_refl _) (fun j hj _ => (setRow_ne (by omega)).trans (setRow_ne (by omega))))
set_option maxHeartbeats 4000000 in
set_option maxRecDepth 100000 in
theorem rd_8 (m : MM) (x : XS) (hs : x.S.length ≤ 1000000) (hfr : Fresh m) (w : World) :
    Calls Tryz.prog 30 #[inV x, msgV m, .int .i64 12] w fun e w' => ∃ v, e = .returned (.tuple #[inV (qNames x).2, msgV { m with nv := v, nl := (qNames x).1 }]) ∧ RowA (w.heap.size + 4) w' { m with nv := v, nl := (qNames x).1 } ∧ Below w.heap.size w w' := by
  have HL := Lib.hid (fun W => rl_8 m x hs hfr W)
  have hz := zero_in
  have hzm := zero_msgW
  obtain ⟨W0, hW0, hS0⟩ := RSt.new w x m
  generalize (qNames x).1 = lst at *
  generalize (qNames x).2 = y at *
  replace hW0 := Lib.hid hW0
  replace hS0 := Lib.hid hS0
  unfold inV msgV at *
  go_enter Tryz.func30, Tryz.ntmps30
  go_wp2_with (first
    | (simp only [hz.out, hzm.out, hW0.out])
    | (refine wpList_load_row rfl 66 _ rfl w.heap.size rfl 66 (cellsI x) (0, 0) _ hS0.out.inB Tryz.underlying66 rfl (info_inC x) ?_)
    | (refine wpList_load_row rfl 30 _ rfl (w.heap.size + 1) rfl 30 (cellsB m) (0, 0) _ hS0.out.msB Tryz.underlying30 rfl (info_msgC m) ?_))
  refine (HL.out _).mono ?_
  rintro e W1 ⟨v, rfl, hrow, hB1⟩
  have h4 := hS0.out.msR.lt
  have hone := Lib.hid (cellsB_one _ hrow.row.one.1 hrow.row.one.2)
  have hfin := fun c1 c2 => hrow.finZ (w := w) (c1 := c1) (c2 := c2) (by omega)
  obtain ⟨mm, hmm⟩ : ∃ mm, ({ m with nv := v, nl := lst } : MM) = mm := ⟨_, rfl⟩
  rw [hmm] at hone hfin ⊢
  have HR := Lib.hid hfin
  replace hmm := Lib.hid hmm
  have f := Lib.hid ((hS0.out.go hB1).finZ y mm)
  clear hB1 hrow hfin h4
  go_wp2_with (first
    | (refine wpList_store_row rfl 66 _ _ rfl (w.heap.size + 1 + 1) (cellsI y) rfl rfl 66 (cellsI zeroX) f.out.1 (info_inC y) rfl (oneI y) ?_)
    | (refine wpList_store_row rfl 30 _ _ rfl (w.heap.size + 1 + 1 + 1) (cellsB mm) rfl rfl 30 (cellsB noM) f.out.2.1 (info_msgC mm) rfl hone.out ?_))
  refine bodyPost_ret (results_IM rfl rfl rfl f.out.2.2.1 f.out.2.2.2.1) rfl ⟨v, ?_, ?_, f.out.2.2.2.2⟩
  · rw [hmm.out]; rfl
  · rw [hmm.out]; exact HR.out _ _

set_option maxHeartbeats 4000000 in
set_option maxRecDepth 100000 in
theorem rd_9 (m : MM) (x : XS) (hs : x.S.length ≤ 1000000) (hfr : Fresh m) (w : World) :
    Calls Tryz.prog 30 #[inV x, msgV m, .int .i64 13] w fun e w' => ∃ v, e = .returned (.tuple #[inV (qQids x).2, msgV { m with qv := v, ql := (qQids x).1 }]) ∧ RowA (w.heap.size + 4) w' { m with qv := v, ql := (qQids x).1 } ∧ Below w.heap.size w w' := by
  have HL := Lib.hid (fun W => rl_9 m x hs hfr W)
  have hz := zero_in
  have hzm := zero_msgW
  obtain ⟨W0, hW0, hS0⟩ := RSt.new w x m
  generalize (qQids x).1 = lst at *
  generalize (qQids x).2 = y at *
  replace hW0 := Lib.hid hW0
  replace hS0 := Lib.hid hS0
  unfold inV msgV at *
  go_enter Tryz.func30, Tryz.ntmps30
  go_wp2_with (first
    | (simp only [hz.out, hzm.out, hW0.out])
    | (refine wpList_load_row rfl 66 _ rfl w.heap.size rfl 66 (cellsI x) (0, 0) _ hS0.out.inB Tryz.underlying66 rfl (info_inC x) ?_)
    | (refine wpList_load_row rfl 30 _ rfl (w.heap.size + 1) rfl 30 (cellsB m) (0, 0) _ hS0.out.msB Tryz.underlying30 rfl (info_msgC m) ?_))
  refine (HL.out _).mono ?_
  rintro e W1 ⟨v, rfl, hrow, hB1⟩
  have h4 := hS0.out.msR.lt
  have hone := Lib.hid (cellsB_one _ hrow.row.one.1 hrow.row.one.2)
  have hfin := fun c1 c2 => hrow.finZ (w := w) (c1 := c1) (c2 := c2) (by omega)
  obtain ⟨mm, hmm⟩ : ∃ mm, ({ m with qv := v, ql := lst } : MM) = mm := ⟨_, rfl⟩
  rw [hmm] at hone hfin ⊢
  have HR := Lib.hid hfin
  replace hmm := Lib.hid hmm
  have f := Lib.hid ((hS0.out.go hB1).finZ y mm)
  clear hB1 hrow hfin h4
  go_wp2_with (first
    | (refine wpList_store_row rfl 66 _ _ rfl (w.heap.size + 1 + 1) (cellsI y) rfl rfl 66 (cellsI zeroX) f.out.1 (info_inC y) rfl (oneI y) ?_)
    | (refine wpList_store_row rfl 30 _ _ rfl (w.heap.size + 1 + 1 + 1) (cellsB mm) rfl rfl 30 (cellsB noM) f.out.2.1 (info_msgC mm) rfl hone.out ?_))
  refine bodyPost_ret (results_IM rfl rfl rfl f.out.2.2.1 f.out.2.2.2.1) rfl ⟨v, ?_, ?_, f.out.2.2.2.2⟩
  · rw [hmm.out]; rfl
  · rw [hmm.out]; exact HR.out _ _

set_option maxHeartbeats 4000000 in
set_option maxRecDepth 100000 in
theorem rd_17 (m : MM) (x : XS) (hs : x.S.length ≤ 1000000) (hv : m.nv.oneCell' = true ∧ m.qv.oneCell' = true) (w : World) :
    Calls Tryz.prog 30 #[inV x, msgV m, .int .i64 20] w fun e w' => e = .returned (.tuple #[inV (qF m x 17).2, msgV (qF m x 17).1]) ∧ Below w.heap.size w w' := by
  have HL := Lib.hid (fun W => rl_17 m x hs hv W)
  have hz := zero_in
  have hzm := zero_msgW
  obtain ⟨W0, hW0, hS0⟩ := RSt.new w x m
  have hone := Lib.hid (cellsB_one (qF m x 17).1 hv.1 hv.2)
  generalize (qF m x 17).1 = mm at *
  generalize (qF m x 17).2 = y at *
  replace hW0 := Lib.hid hW0
  replace hS0 := Lib.hid hS0
  unfold inV msgV at *
  go_enter Tryz.func30, Tryz.ntmps30
  go_wp2_with (first
    | (simp only [hz.out, hzm.out, hW0.out])
    | (refine wpList_load_row rfl 66 _ rfl w.heap.size rfl 66 (cellsI x) (0, 0) _ hS0.out.inB Tryz.underlying66 rfl (info_inC x) ?_)
    | (refine wpList_load_row rfl 30 _ rfl (w.heap.size + 1) rfl 30 (cellsB m) (0, 0) _ hS0.out.msB Tryz.underlying30 rfl (info_msgC m) ?_))
  refine (HL.out _).mono ?_
  rintro e W1 ⟨rfl, hB1⟩
  have f := Lib.hid ((hS0.out.go hB1).finZ y mm)
  clear hB1
  go_wp2_with (first
    | (refine wpList_store_row rfl 66 _ _ rfl (w.heap.size + 1 + 1) (cellsI y) rfl rfl 66 (cellsI zeroX) f.out.1 (info_inC y) rfl (oneI y) ?_)
    | (refine wpList_store_row rfl 30 _ _ rfl (w.heap.size + 1 + 1 + 1) (cellsB mm) rfl rfl 30 (cellsB noM) f.out.2.1 (info_msgC mm) rfl hone.out ?_))
  refine bodyPost_ret (results_IM rfl rfl rfl f.out.2.2.1 f.out.2.2.2.1) rfl ⟨rfl, f.out.2.2.2.2⟩

set_option maxHeartbeats 4000000 in
set_option maxRecDepth 100000 in
theorem rd_18 (m : MM) (x : XS) (hs : x.S.length ≤ 1000000) (hv : m.nv.oneCell' = true ∧ m.qv.oneCell' = true) (w : World) :
    Calls Tryz.prog 30 #[inV x, msgV m, .int .i64 21] w fun e w' => e = .returned (.tuple #[inV (qF m x 18).2, msgV (qF m x 18).1]) ∧ Below w.heap.size w w' := by
  have HL := Lib.hid (fun W => rl_18 m x hs hv W)
  have hz := zero_in
  have hzm := zero_msgW
  obtain ⟨W0, hW0, hS0⟩ := RSt.new w x m
  have hone := Lib.hid (cellsB_one (qF m x 18).1 hv.1 hv.2)
  generalize (qF m x 18).1 = mm at *
  generalize (qF m x 18).2 = y at *
  replace hW0 := Lib.hid hW0
  replace hS0 := Lib.hid hS0
  unfold inV msgV at *
  go_enter Tryz.func30, Tryz.ntmps30
  go_wp2_with (first
    | (simp only [hz.out, hzm.out, hW0.out])
    | (refine wpList_load_row rfl 66 _ rfl w.heap.size rfl 66 (cellsI x) (0, 0) _ hS0.out.inB Tryz.underlying66 rfl (info_inC x) ?_)
    | (refine wpList_load_row rfl 30 _ rfl (w.heap.size + 1) rfl 30 (cellsB m) (0, 0) _ hS0.out.msB Tryz.underlying30 rfl (info_msgC m) ?_))
  refine (HL.out _).mono ?_
  rintro e W1 ⟨rfl, hB1⟩
  have f := Lib.hid ((hS0.out.go hB1).finZ y mm)
  clear hB1
  go_wp2_with (first
    | (refine wpList_store_row rfl 66 _ _ rfl (w.heap.size + 1 + 1) (cellsI y) rfl rfl 66 (cellsI zeroX) f.out.1 (info_inC y) rfl (oneI y) ?_)
    | (refine wpList_store_row rfl 30 _ _ rfl (w.heap.size + 1 + 1 + 1) (cellsB mm) rfl rfl 30 (cellsB noM) f.out.2.1 (info_msgC mm) rfl hone.out ?_))
  refine bodyPost_ret (results_IM rfl rfl rfl f.out.2.2.1 f.out.2.2.2.1) rfl ⟨rfl, f.out.2.2.2.2⟩

set_option maxHeartbeats 4000000 in
set_option maxRecDepth 100000 in
theorem rd_19 (m : MM) (x : XS) (hs : x.S.length ≤ 1000000) (hv : m.nv.oneCell' = true ∧ m.qv.oneCell' = true) (w : World) :
    Calls Tryz.prog 30 #[inV x, msgV m, .int .i64 9] w fun e w' => e = .returned (.tuple #[inV (qF m x 19).2, msgV (qF m x 19).1]) ∧ Below w.heap.size w w' := by
  have HL := Lib.hid (fun W => rl_19 m x hs hv W)
  have hz := zero_in
  have hzm := zero_msgW
  obtain ⟨W0, hW0, hS0⟩ := RSt.new w x m
  have hone := Lib.hid (cellsB_one (qF m x 19).1 hv.1 hv.2)
  generalize (qF m x 19).1 = mm at *
  generalize (qF m x 19).2 = y at *
  replace hW0 := Lib.hid hW0
  replace hS0 := Lib.hid hS0
  unfold inV msgV at *
  go_enter Tryz.func30, Tryz.ntmps30
  go_wp2_with (first
    | (simp only [hz.out, hzm.out, hW0.out])
    | (refine wpList_load_row rfl 66 _ rfl w.heap.size rfl 66 (cellsI x) (0, 0) _ hS0.out.inB Tryz.underlying66 rfl (info_inC x) ?_)
    | (refine wpList_load_row rfl 30 _ rfl (w.heap.size + 1) rfl 30 (cellsB m) (0, 0) _ hS0.out.msB Tryz.underlying30 rfl (info_msgC m) ?_))
  refine (HL.out _).mono ?_
  rintro e W1 ⟨rfl, hB1⟩
  have f := Lib.hid ((hS0.out.go hB1).finZ y mm)
  clear hB1
  go_wp2_with (first
    | (refine wpList_store_row rfl 66 _ _ rfl (w.heap.size + 1 + 1) (cellsI y) rfl rfl 66 (cellsI zeroX) f.out.1 (info_inC y) rfl (oneI y) ?_)
    | (refine wpList_store_row rfl 30 _ _ rfl (w.heap.size + 1 + 1 + 1) (cellsB mm) rfl rfl 30 (cellsB noM) f.out.2.1 (info_msgC mm) rfl hone.out ?_))
  refine bodyPost_ret (results_IM rfl rfl rfl f.out.2.2.1 f.out.2.2.2.1) rfl ⟨rfl, f.out.2.2.2.2⟩
end Go.Proofs.YtlfdmbfbfadifaaGreatDoor

namespace Go.Proofs.YtlfdmbfbfadifaaGreatDoor
open Go.RowKit

theorem fresh_qF {m : MM} {x : XS} {f : Nat} (hf : f < 23) (h8 : f ≠ 8) (h9 : f ≠ 9) (h : Fresh m) : Fresh (qF m x f).1 := by
  obtain ⟨a, b, c, d⟩ := h
  rcases k23 hf with rfl | rfl | rfl | rfl | rfl | rfl | rfl | rfl | rfl | rfl | rfl | rfl | rfl | rfl | rfl | rfl | rfl | rfl | rfl | rfl | rfl | rfl | rfl
  case inr.inr.inr.inr.inr.inr.inr.inr.inl => exact absurd rfl h8
  case inr.inr.inr.inr.inr.inr.inr.inr.inr.inl => exact absurd rfl h9
  all_goals exact ⟨a, b, c, d⟩
/-- What read leaves. -/
def RdPost (m : MM) (x : XS) (f : Nat) (w : World) (e : Ending) (w' : World) : Prop :=
  ∃ v1 v2, e = .returned (.tuple #[inV (qF m x f).2, msgV (withV (qF m x f).1 v1 v2)]) ∧ RowA (w.heap.size + 4) w' (withV (qF m x f).1 v1 v2) ∧ Below w.heap.size w w' ∧ (f ≠ 8 ∧ f ≠ 9 → v1 = nilS ∧ v2 = nilS)
theorem RdPost.of {m : MM} {x : XS} {f : Nat} {w : World} (hf : f < 23) (h8 : f ≠ 8) (h9 : f ≠ 9) (hfr : Fresh m) {e : Ending} {w' : World} (h : e = .returned (.tuple #[inV (qF m x f).2, msgV (qF m x f).1]) ∧ Below w.heap.size w w') : RdPost m x f w e w' := by
  have hq := fresh_qF (x := x) hf h8 h9 hfr
  refine ⟨nilS, nilS, ?_, ?_, h.2, fun _ => ⟨rfl, rfl⟩⟩
  · rw [fresh_with hq]; exact h.1
  · rw [fresh_with hq]; exact fresh_row w' hq
theorem fresh_one {m : MM} (h : Fresh m) : m.nv.oneCell' = true ∧ m.qv.oneCell' = true := by
  obtain ⟨a, b, _, _⟩ := h
  rw [a, b]
  exact ⟨rfl, rfl⟩
theorem Xread (m : MM) (x : XS) (f : Nat) (hf : f < 23) (hs : x.S.length ≤ 1000000) (hfr : Fresh m) (w : World) :
    Calls Tryz.prog 30 #[inV x, msgV m, .int .i64 (refF f : Int)] w fun e w' => RdPost m x f w e w' := by
  have hv := fresh_one hfr
  rcases k23 hf with rfl | rfl | rfl | rfl | rfl | rfl | rfl | rfl | rfl | rfl | rfl | rfl | rfl | rfl | rfl | rfl | rfl | rfl | rfl | rfl | rfl | rfl | rfl
  · exact (rd_0 m x hs hv w).mono fun e w' h => RdPost.of (by decide) (by decide) (by decide) hfr h
  · exact (rd_1 m x hs hv w).mono fun e w' h => RdPost.of (by decide) (by decide) (by decide) hfr h
  · exact (rd_2 m x hs hv w).mono fun e w' h => RdPost.of (by decide) (by decide) (by decide) hfr h
  · exact (rd_3 m x hs hv w).mono fun e w' h => RdPost.of (by decide) (by decide) (by decide) hfr h
  · exact (rd_4 m x hs hv w).mono fun e w' h => RdPost.of (by decide) (by decide) (by decide) hfr h
  · exact (rd_5 m x hs hv w).mono fun e w' h => RdPost.of (by decide) (by decide) (by decide) hfr h
  · exact (rd_6 m x hs hv w).mono fun e w' h => RdPost.of (by decide) (by decide) (by decide) hfr h
  · exact (rd_7 m x hs hv w).mono fun e w' h => RdPost.of (by decide) (by decide) (by decide) hfr h
  · refine (rd_8 m x hs hfr w).mono fun e w' h => ?_
    obtain ⟨v, h1, h2, h3⟩ := h
    have he : ({ m with nv := v, nl := (qNames x).1 } : MM) = withV (qF m x 8).1 v nilS := by
      obtain ⟨_, b, _, _⟩ := hfr
      cases m; dsimp only at b; subst b; rfl
    rw [he] at h1 h2
    exact ⟨v, nilS, h1, h2, h3, fun h => absurd rfl h.1⟩
  · refine (rd_9 m x hs hfr w).mono fun e w' h => ?_
    obtain ⟨v, h1, h2, h3⟩ := h
    have he : ({ m with qv := v, ql := (qQids x).1 } : MM) = withV (qF m x 9).1 nilS v := by
      obtain ⟨a, _, _, _⟩ := hfr
      cases m; dsimp only at a; subst a; rfl
    rw [he] at h1 h2
    exact ⟨nilS, v, h1, h2, h3, fun h => absurd rfl h.2⟩
  · exact (rd_10 m x hs hv w).mono fun e w' h => RdPost.of (by decide) (by decide) (by decide) hfr h
  · exact (rd_11 m x hs hv w).mono fun e w' h => RdPost.of (by decide) (by decide) (by decide) hfr h
  · exact (rd_12 m x hs hv w).mono fun e w' h => RdPost.of (by decide) (by decide) (by decide) hfr h
  · exact (rd_13 m x hs hv w).mono fun e w' h => RdPost.of (by decide) (by decide) (by decide) hfr h
  · exact (rd_14 m x hs hv w).mono fun e w' h => RdPost.of (by decide) (by decide) (by decide) hfr h
  · exact (rd_15 m x hs hv w).mono fun e w' h => RdPost.of (by decide) (by decide) (by decide) hfr h
  · exact (rd_16 m x hs hv w).mono fun e w' h => RdPost.of (by decide) (by decide) (by decide) hfr h
  · exact (rd_17 m x hs hv w).mono fun e w' h => RdPost.of (by decide) (by decide) (by decide) hfr h
  · exact (rd_18 m x hs hv w).mono fun e w' h => RdPost.of (by decide) (by decide) (by decide) hfr h
  · exact (rd_19 m x hs hv w).mono fun e w' h => RdPost.of (by decide) (by decide) (by decide) hfr h
  · exact (rd_20 m x hs hv w).mono fun e w' h => RdPost.of (by decide) (by decide) (by decide) hfr h
  · exact (rd_21 m x hs hv w).mono fun e w' h => RdPost.of (by decide) (by decide) (by decide) hfr h
  · exact (rd_22 m x hs hv w).mono fun e w' h => RdPost.of (by decide) (by decide) (by decide) hfr h
theorem qD_len (x : XS) : (qD x).2.S.length ≤ x.S.length := Nat.le_trans (qRaw_len _ _).1 (qN_len x 2)
theorem qNs_len : ∀ (n : Nat) (acc : List (List UInt8)) (x : XS), (qNs n acc x).2.S.length ≤ x.S.length
  | 0, _, _ => Nat.le_refl _
  | n + 1, acc, x => by
    rw [qNs]
    split
    · exact Nat.le_trans (qNs_len n _ _) (qT_len x)
    · exact Nat.le_refl _
theorem qQs_len : ∀ (n : Nat) (acc : List QQ) (x : XS), (qQs n acc x).2.S.length ≤ x.S.length
  | 0, _, _ => Nat.le_refl _
  | n + 1, acc, x => by
    rw [qQs]
    split
    · exact Nat.le_trans (qQs_len n _ _) (qQ_len x)
    · exact Nat.le_refl _
theorem qF_len (m : MM) (x : XS) {f : Nat} (hf : f < 23) : (qF m x f).2.S.length ≤ x.S.length := by
  rcases k23 hf with rfl | rfl | rfl | rfl | rfl | rfl | rfl | rfl | rfl | rfl | rfl | rfl | rfl | rfl | rfl | rfl | rfl | rfl | rfl | rfl | rfl | rfl | rfl
  case inr.inr.inr.inr.inr.inr.inr.inr.inl => exact Nat.le_trans (qNs_len _ _ _) (qN_len x 2)
  case inr.inr.inr.inr.inr.inr.inr.inr.inr.inl => exact Nat.le_trans (qQs_len _ _ _) (qN_len x 2)
  case inr.inr.inr.inr.inr.inr.inr.inr.inr.inr.inl => exact qQ_len x
  case inr.inr.inr.inr.inr.inr.inr.inr.inr.inr.inr.inr.inr.inr.inr.inr.inr.inl => exact Nat.le_trans (qRaw_len _ _).1 (qN_len x 4)
  case inr.inr.inr.inr.inr.inr.inr.inr.inr.inr.inr.inr.inr.inr.inr.inr.inr.inr.inl => exact qD_len x
  case inr.inr.inr.inr.inr.inr.inr.inr.inr.inr.inr.inr.inr.inr.inr.inr.inr.inr.inr.inl => exact qT_len x
  all_goals first | exact qT_len x | exact qN_len x 4 | exact qN_len x 2 | exact qN_len x 1 | exact qN_len x 8
theorem qTo_len {b : List UInt8} (hb : b.length ≤ 1000000) : ∀ j, (qTo b j).2.S.length ≤ 1000000
  | 0 => Nat.le_trans (qN_len _ 2) (Nat.le_trans (qN_len _ 1) hb)
  | j + 1 => Nat.le_trans (qF_len _ _ (fld_lt _ _)) (qTo_len hb j)
/-- What has been read, the lists' values aside. -/
def QTo (b : List UInt8) (j : Nat) (m : MM) : Prop := (∃ v1 v2, m = withV (qTo b j).1 v1 v2) ∧ (j < (fieldsL (headX b).1.kd).length → m = (qTo b j).1 ∧ Fresh m)
theorem headX_fresh (b : List UInt8) : Fresh (headX b).1 := ⟨rfl, rfl, rfl, rfl⟩
theorem QTo.zero (b : List UInt8) : QTo b 0 (headX b).1 := ⟨⟨nilS, nilS, (fresh_with (headX_fresh b)).symm⟩, fun _ => ⟨rfl, headX_fresh b⟩⟩
theorem QTo.succ {b : List UInt8} {j : Nat} {v1 v2 : Value} (hj : j < (fieldsL (headX b).1.kd).length) (hfr : Fresh (qTo b j).1) (hv : (fieldsL (headX b).1.kd).getD j 0 ≠ 8 ∧ (fieldsL (headX b).1.kd).getD j 0 ≠ 9 → v1 = nilS ∧ v2 = nilS) : QTo b (j + 1) (withV (qTo b (j + 1)).1 v1 v2) := by
  refine ⟨⟨v1, v2, rfl⟩, fun h => ?_⟩
  have h8 : (fieldsL (headX b).1.kd).getD j 0 ≠ 8 ∧ (fieldsL (headX b).1.kd).getD j 0 ≠ 9 := by
    constructor
    · intro e; have := lists_last _ (.inl e) hj; omega
    · intro e; have := lists_last _ (.inr e) hj; omega
  obtain ⟨rfl, rfl⟩ := hv h8
  have hf : Fresh (qTo b (j + 1)).1 := fresh_qF (fld_lt _ _) h8.1 h8.2 hfr
  rw [fresh_with hf]
  exact ⟨rfl, hf⟩
end Go.Proofs.YtlfdmbfbfadifaaGreatDoor
