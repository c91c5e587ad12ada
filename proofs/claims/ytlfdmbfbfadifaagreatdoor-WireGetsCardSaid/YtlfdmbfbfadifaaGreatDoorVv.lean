/-
  The reference's Get where it fails ahead of the fields.
  The reference's Get: its fields.
  The reference's Get.
-/
import Derived.Test.YtlfdmbfbfadifaaGreatDoorVt
import Derived.Test.YtlfdmbfbfadifaaGreatDoorZp
namespace Go.Proofs.YtlfdmbfbfadifaaGreatDoor
open Go.RowKit

set_option maxHeartbeats 6400000 in
set_option maxRecDepth 100000 in
theorem RGet_neg (l : List UInt8) (a : Int) (_hl : l.length ≤ 1000000) (h : a < 0) (w : World) :
    Calls Tryz.prog 13 #[.string (mk l), .int .i64 a] w fun e W => ∃ v1 v2, e = .returned (.tuple #[msgV (withV noM v1 v2), .int .i64 0, .int .i64 1]) ∧ RowA (w.heap.size + 1) W (withV noM v1 v2) ∧ Below w.heap.size w W := by
  have d1 : decide (a < 0) = true := by simpa using h
  have hz := zero_msgW
  obtain ⟨W0, hW0, hB0, hK0⟩ : ∃ W, w.alloc (.cells (cellsB noM) 30) = W ∧ Below w.heap.size w W ∧ BlkM W w.heap.size noM := ⟨_, rfl, (Below.refl _ w).alloc (Nat.le_refl _) _, BlkM.new w noM⟩
  replace hW0 := Lib.hid hW0
  replace hB0 := Lib.hid hB0
  replace hK0 := Lib.hid hK0
  have HX := Lib.hid (hK0.out.setRow noM)
  have HNR : Hid (∀ W, RowA (w.heap.size + 1) W (withV noM nilS nilS)) := Lib.hid fun W => fresh_row W noM_fresh
  go_enter Tryz.func13, Tryz.ntmps13
  go_wp2_with (first | (simp only [hz.out, hW0.out]) | (refine wpList_store_row rfl 30 _ _ rfl w.heap.size (cellsB noM) rfl rfl 30 (cellsB noM) hK0.out (by kernel_rfl) rfl (cellsB_one noM rfl rfl) ?_))
  refine bodyPost_ret (results_msg3 rfl rfl HX.out) rfl ?_
  exact ⟨nilS, nilS, rfl, HNR.out _, below_setRow hB0.out (Nat.le_refl _) _⟩
set_option maxHeartbeats 6400000 in
set_option maxRecDepth 100000 in
theorem RGet_out (l : List UInt8) (a : Int) (_hl : l.length ≤ 1000000) (h0 : 0 ≤ a) (h : (l.length : Int) < a) (w : World) :
    Calls Tryz.prog 13 #[.string (mk l), .int .i64 a] w fun e W => ∃ v1 v2, e = .returned (.tuple #[msgV (withV noM v1 v2), .int .i64 0, .int .i64 1]) ∧ RowA (w.heap.size + 1) W (withV noM v1 v2) ∧ Below w.heap.size w W := by
  have d1 : decide (a < 0) = false := by simp; omega
  have d2 : decide (((mk l).size : Int) < a) = true := by rw [mk_size]; simpa using h
  have hz := zero_msgW
  obtain ⟨W0, hW0, hB0, hK0⟩ : ∃ W, w.alloc (.cells (cellsB noM) 30) = W ∧ Below w.heap.size w W ∧ BlkM W w.heap.size noM := ⟨_, rfl, (Below.refl _ w).alloc (Nat.le_refl _) _, BlkM.new w noM⟩
  replace hW0 := Lib.hid hW0
  replace hB0 := Lib.hid hB0
  replace hK0 := Lib.hid hK0
  have HX := Lib.hid (hK0.out.setRow noM)
  have HNR : Hid (∀ W, RowA (w.heap.size + 1) W (withV noM nilS nilS)) := Lib.hid fun W => fresh_row W noM_fresh
  go_enter Tryz.func13, Tryz.ntmps13
  go_wp2_with (first | (simp only [hz.out, hW0.out]) | (refine wpList_store_row rfl 30 _ _ rfl w.heap.size (cellsB noM) rfl rfl 30 (cellsB noM) hK0.out (by kernel_rfl) rfl (cellsB_one noM rfl rfl) ?_))
  refine bodyPost_ret (results_msg3 rfl rfl HX.out) rfl ?_
  exact ⟨nilS, nilS, rfl, HNR.out _, below_setRow hB0.out (Nat.le_refl _) _⟩
set_option maxHeartbeats 6400000 in
set_option maxRecDepth 100000 in
theorem RGet_err (l : List UInt8) (a : Int) (hl : l.length ≤ 1000000) (h0 : 0 ≤ a) (h : a ≤ (l.length : Int)) (he : (getR l a 4).2.2 ≠ 0) (w : World) :
    Calls Tryz.prog 13 #[.string (mk l), .int .i64 a] w fun e W => ∃ v1 v2, e = .returned (.tuple #[msgV (withV noM v1 v2), .int .i64 0, .int .i64 (getR l a 4).2.2]) ∧ RowA (w.heap.size + 1) W (withV noM v1 v2) ∧ Below w.heap.size w W := by
  have hG := Lib.hid (fun W => qGet l a 4 (by unfold maxLen; omega) W)
  have d1 : decide (a < 0) = false := by simp; omega
  have d2 : decide (((mk l).size : Int) < a) = false := by rw [mk_size]; simp; omega
  generalize getR l a 4 = gr at *
  obtain ⟨n, nx, er⟩ := gr
  dsimp only at hG he ⊢
  have hne : (er != 0) = true := by simpa using he
  clear he h h0 hl
  have hz := zero_msgW
  obtain ⟨W0, hW0, hB0, hK0⟩ : ∃ W, w.alloc (.cells (cellsB noM) 30) = W ∧ Below w.heap.size w W ∧ BlkM W w.heap.size noM := ⟨_, rfl, (Below.refl _ w).alloc (Nat.le_refl _) _, BlkM.new w noM⟩
  replace hW0 := Lib.hid hW0
  replace hB0 := Lib.hid hB0
  replace hK0 := Lib.hid hK0
  have HX := Lib.hid (hK0.out.setRow noM)
  have HNR : Hid (∀ W, RowA (w.heap.size + 1) W (withV noM nilS nilS)) := Lib.hid fun W => fresh_row W noM_fresh
  go_enter Tryz.func13, Tryz.ntmps13
  go_wp2_with (simp only [hz.out, hW0.out])
  refine (hG.out _).mono ?_
  rintro e W1 ⟨rfl, rfl⟩
  go_wp2_with (refine wpList_store_row rfl 30 _ _ rfl w.heap.size (cellsB noM) rfl rfl 30 (cellsB noM) hK0.out (by kernel_rfl) rfl (cellsB_one noM rfl rfl) ?_)
  refine bodyPost_ret (results_msg3 rfl rfl HX.out) rfl ?_
  exact ⟨nilS, nilS, rfl, HNR.out _, below_setRow hB0.out (Nat.le_refl _) _⟩
set_option maxHeartbeats 6400000 in
set_option maxRecDepth 100000 in
theorem RGet_long (l : List UInt8) (a : Int) (hl : l.length ≤ 1000000) (h0 : 0 ≤ a) (h : a ≤ (l.length : Int)) (he : (getR l a 4).2.2 = 0) (hn : 0 ≤ (getR l a 4).1) (h1 : 8192 < (getR l a 4).1) (w : World) :
    Calls Tryz.prog 13 #[.string (mk l), .int .i64 a] w fun e W => ∃ v1 v2, e = .returned (.tuple #[msgV (withV noM v1 v2), .int .i64 0, .int .i64 4]) ∧ RowA (w.heap.size + 1) W (withV noM v1 v2) ∧ Below w.heap.size w W := by
  have hG := Lib.hid (fun W => qGet l a 4 (by unfold maxLen; omega) W)
  have d1 : decide (a < 0) = false := by simp; omega
  have d2 : decide (((mk l).size : Int) < a) = false := by rw [mk_size]; simp; omega
  generalize getR l a 4 = gr at *
  obtain ⟨n, nx, er⟩ := gr
  dsimp only at hG he hn h1  ⊢
  subst he
  have e1 : decide ((8192 : Int) < n) = true := by simpa using h1
  clear h h0 hl hn h1
  have hz := zero_msgW
  obtain ⟨W0, hW0, hB0, hK0⟩ : ∃ W, w.alloc (.cells (cellsB noM) 30) = W ∧ Below w.heap.size w W ∧ BlkM W w.heap.size noM := ⟨_, rfl, (Below.refl _ w).alloc (Nat.le_refl _) _, BlkM.new w noM⟩
  replace hW0 := Lib.hid hW0
  replace hB0 := Lib.hid hB0
  replace hK0 := Lib.hid hK0
  have HX := Lib.hid (hK0.out.setRow noM)
  have HNR : Hid (∀ W, RowA (w.heap.size + 1) W (withV noM nilS nilS)) := Lib.hid fun W => fresh_row W noM_fresh
  go_enter Tryz.func13, Tryz.ntmps13
  go_wp2_with (simp only [hz.out, hW0.out])
  refine (hG.out _).mono ?_
  rintro e W1 ⟨rfl, rfl⟩
  go_wp2_with (refine wpList_store_row rfl 30 _ _ rfl w.heap.size (cellsB noM) rfl rfl 30 (cellsB noM) hK0.out (by kernel_rfl) rfl (cellsB_one noM rfl rfl) ?_)
  refine bodyPost_ret (results_msg3 rfl rfl HX.out) rfl ?_
  exact ⟨nilS, nilS, rfl, HNR.out _, below_setRow hB0.out (Nat.le_refl _) _⟩
set_option maxHeartbeats 6400000 in
set_option maxRecDepth 100000 in
theorem RGet_form (l : List UInt8) (a : Int) (hl : l.length ≤ 1000000) (h0 : 0 ≤ a) (h : a ≤ (l.length : Int)) (he : (getR l a 4).2.2 = 0) (hn : 0 ≤ (getR l a 4).1) (h1 : (getR l a 4).1 < 7) (w : World) :
    Calls Tryz.prog 13 #[.string (mk l), .int .i64 a] w fun e W => ∃ v1 v2, e = .returned (.tuple #[msgV (withV noM v1 v2), .int .i64 0, .int .i64 2]) ∧ RowA (w.heap.size + 1) W (withV noM v1 v2) ∧ Below w.heap.size w W := by
  have hG := Lib.hid (fun W => qGet l a 4 (by unfold maxLen; omega) W)
  have d1 : decide (a < 0) = false := by simp; omega
  have d2 : decide (((mk l).size : Int) < a) = false := by rw [mk_size]; simp; omega
  generalize getR l a 4 = gr at *
  obtain ⟨n, nx, er⟩ := gr
  dsimp only at hG he hn h1  ⊢
  subst he
  have e1 : decide ((8192 : Int) < n) = false := by simp; omega
  have e2 : decide (n < 7) = true := by simpa using h1
  clear h h0 hl hn h1
  have hz := zero_msgW
  obtain ⟨W0, hW0, hB0, hK0⟩ : ∃ W, w.alloc (.cells (cellsB noM) 30) = W ∧ Below w.heap.size w W ∧ BlkM W w.heap.size noM := ⟨_, rfl, (Below.refl _ w).alloc (Nat.le_refl _) _, BlkM.new w noM⟩
  replace hW0 := Lib.hid hW0
  replace hB0 := Lib.hid hB0
  replace hK0 := Lib.hid hK0
  have HX := Lib.hid (hK0.out.setRow noM)
  have HNR : Hid (∀ W, RowA (w.heap.size + 1) W (withV noM nilS nilS)) := Lib.hid fun W => fresh_row W noM_fresh
  go_enter Tryz.func13, Tryz.ntmps13
  go_wp2_with (simp only [hz.out, hW0.out])
  refine (hG.out _).mono ?_
  rintro e W1 ⟨rfl, rfl⟩
  go_wp2_with (refine wpList_store_row rfl 30 _ _ rfl w.heap.size (cellsB noM) rfl rfl 30 (cellsB noM) hK0.out (by kernel_rfl) rfl (cellsB_one noM rfl rfl) ?_)
  refine bodyPost_ret (results_msg3 rfl rfl HX.out) rfl ?_
  exact ⟨nilS, nilS, rfl, HNR.out _, below_setRow hB0.out (Nat.le_refl _) _⟩
set_option maxHeartbeats 6400000 in
set_option maxRecDepth 100000 in
theorem RGet_short (l : List UInt8) (a : Int) (hl : l.length ≤ 1000000) (h0 : 0 ≤ a) (h : a ≤ (l.length : Int)) (he : (getR l a 4).2.2 = 0) (hn : ¬ (getR l a 4).1 < 7) (h1 : ¬ 8192 < (getR l a 4).1) (h3 : (l.length : Int) - a < (getR l a 4).1) (w : World) :
    Calls Tryz.prog 13 #[.string (mk l), .int .i64 a] w fun e W => ∃ v1 v2, e = .returned (.tuple #[msgV (withV noM v1 v2), .int .i64 0, .int .i64 3]) ∧ RowA (w.heap.size + 1) W (withV noM v1 v2) ∧ Below w.heap.size w W := by
  have hG := Lib.hid (fun W => qGet l a 4 (by unfold maxLen; omega) W)
  have d1 : decide (a < 0) = false := by simp; omega
  have d2 : decide (((mk l).size : Int) < a) = false := by rw [mk_size]; simp; omega
  generalize getR l a 4 = gr at *
  obtain ⟨n, nx, er⟩ := gr
  dsimp only at hG he hn h1 h3 ⊢
  subst he
  have e1 : decide ((8192 : Int) < n) = false := by simpa using h1
  have e2 : decide (n < 7) = false := by simpa using hn
  have e3 : decide (((mk l).size : Int) - a < n) = true := by rw [mk_size]; simpa using h3
  have b1 : a ≤ ((mk l).size : Int) := by rw [mk_size]; exact h
  have b2 : (mk l).size ≤ 1000000 := by rw [mk_size]; exact hl
  clear h hl hn h1 h3
  have hz := zero_msgW
  obtain ⟨W0, hW0, hB0, hK0⟩ : ∃ W, w.alloc (.cells (cellsB noM) 30) = W ∧ Below w.heap.size w W ∧ BlkM W w.heap.size noM := ⟨_, rfl, (Below.refl _ w).alloc (Nat.le_refl _) _, BlkM.new w noM⟩
  replace hW0 := Lib.hid hW0
  replace hB0 := Lib.hid hB0
  replace hK0 := Lib.hid hK0
  have HX := Lib.hid (hK0.out.setRow noM)
  have HNR : Hid (∀ W, RowA (w.heap.size + 1) W (withV noM nilS nilS)) := Lib.hid fun W => fresh_row W noM_fresh
  go_enter Tryz.func13, Tryz.ntmps13
  go_wp2_with (simp only [hz.out, hW0.out])
  refine (hG.out _).mono ?_
  rintro e W1 ⟨rfl, rfl⟩
  go_wp2_with (refine wpList_store_row rfl 30 _ _ rfl w.heap.size (cellsB noM) rfl rfl 30 (cellsB noM) hK0.out (by kernel_rfl) rfl (cellsB_one noM rfl rfl) ?_)
  refine bodyPost_ret (results_msg3 rfl rfl HX.out) rfl ?_
  exact ⟨nilS, nilS, rfl, HNR.out _, below_setRow hB0.out (Nat.le_refl _) _⟩
theorem RGet_bad (l : List UInt8) (a : Int) (hl : l.length ≤ 1000000) (hb : (bodyR l a).2.2 ≠ 0) (w : World) :
    Calls Tryz.prog 13 #[.string (mk l), .int .i64 a] w fun e W => ∃ v1 v2, e = .returned (.tuple #[msgV (withV (getW l a).1 v1 v2), .int .i64 (getW l a).2.1, .int .i64 (getW l a).2.2]) ∧ RowA (w.heap.size + 1) W (withV (getW l a).1 v1 v2) ∧ Below w.heap.size w W := by
  rw [getW_err hb]
  dsimp only
  by_cases h0 : 0 ≤ a
  case neg =>
    have hg : (getR l a 4).2.2 = 1 := by unfold getR; rw [if_pos (by omega)]
    rw [bodyR_err (by rw [hg]; decide), hg]
    exact RGet_neg l a hl (by omega) w
  case pos =>
    by_cases h1 : a ≤ (l.length : Int)
    case neg =>
      have hg : (getR l a 4).2.2 = 1 := by unfold getR; rw [if_pos (by omega)]
      rw [bodyR_err (by rw [hg]; decide), hg]
      exact RGet_out l a hl h0 (by omega) w
    case pos =>
      by_cases he : (getR l a 4).2.2 = 0
      case neg => rw [bodyR_err he]; exact RGet_err l a hl h0 h1 he w
      case pos =>
        have hn := (getR_at he).2.2.2.1
        by_cases g1 : 8192 < (getR l a 4).1
        · rw [bodyR_long he g1]; exact RGet_long l a hl h0 h1 he hn g1 w
        · by_cases g2 : (getR l a 4).1 < 7
          · rw [bodyR_form he g1 g2]; exact RGet_form l a hl h0 h1 he hn g2 w
          · by_cases g3 : (l.length : Int) - a < (getR l a 4).1
            · rw [bodyR_short he g1 g2 g3]; exact RGet_short l a hl h0 h1 he g2 g1 g3 w
            · exact absurd (by rw [bodyR_ok he g1 g2 g3]) hb
end Go.Proofs.YtlfdmbfbfadifaaGreatDoor

namespace Go.Proofs.YtlfdmbfbfadifaaGreatDoor
open Go.RowKit

/-- The two messages' blocks, at the start. -/
structure Ba (w W : World) (g : Nat) : Prop where
  base : Below w.heap.size w W
  res : BlkM W w.heap.size noM
  msg : BlkM W g noM
  wg : w.heap.size < g
theorem Ba.go {w W W' : World} {g : Nat} (h : Ba w W g) (hB : Below W.heap.size W W') : Ba w W' g :=
  ⟨h.base.trans (hB.mono h.base.size), h.res.below hB h.res.lt, h.msg.below hB h.msg.lt, h.wg⟩
theorem Ba.alloc {w W : World} {g : Nat} (h : Ba w W g) (o : Obj) : Ba w (W.alloc o) g := h.go ((Below.refl _ W).alloc (Nat.le_refl _) o)
structure Gfs (w W : World) (g k : Nat) (x : XS) (m : MM) (v : Value) (L : List Nat) : Prop where
  base : Below w.heap.size w W
  res : BlkM W w.heap.size noM
  msg : BlkM W g m
  cur : BlkI W k x
  wg : w.heap.size < g
  gk : g < k
  lst : IBlk W v L
  row : RowA (k + 1) W m
theorem Gfs.go {w W W' : World} {g k : Nat} {x : XS} {m : MM} {v : Value} {L : List Nat} (h : Gfs w W g k x m v L) (hB : Below W.heap.size W W') : Gfs w W' g k x m v L :=
  ⟨h.base.trans (hB.mono h.base.size), h.res.below hB h.res.lt, h.msg.below hB h.msg.lt, h.cur.below hB h.cur.lt, h.wg, h.gk, h.lst.below hB, h.row.below hB⟩
theorem Gfs.drew {w W : World} {g k : Nat} {x : XS} {m : MM} {v : Value} {L : List Nat} (h : Gfs w W g k x m v L) : Gfs w W.drew g k x m v L :=
  h.go (below_drew (Below.refl _ W))
theorem IBlk.ne {W : World} {v : Value} {L : List Nat} {k : Nat} {cs : Array Value} {T : TypeId} (h : IBlk W v L) (hk : W.heap[k]? = some (.cells cs T (0, 0))) (hT : T ≠ 3) {W' : World} (hs : W.heap.size ≤ W'.heap.size) (hW : ∀ b, b ≠ k → W'.heap[b]? = W.heap[b]?) : IBlk W' v L := by
  obtain ⟨p, rfl, hl, h⟩ := h
  refine ⟨p, rfl, hl, fun hL => ?_⟩
  obtain ⟨b, rfl, hb, hh⟩ := h hL
  have hne : b ≠ k := by
    rintro rfl
    rw [hh] at hk
    injection hk with hk
    injection hk with h1 h2
    exact hT h2.symm
  exact ⟨b, rfl, Nat.lt_of_lt_of_le hb hs, (hW b hne).trans hh⟩
theorem Gfs.step {w W W' : World} {g k : Nat} {x y : XS} {m m' : MM} {v : Value} {L : List Nat} (h : Gfs w W g k x m v L) (hB : Below W.heap.size W W') (hr : RowA (W.heap.size + 4) W' m') :
    BlkI W' k x ∧ BlkM (W'.setRow k (cellsI y)) g m ∧ Gfs w ((W'.setRow k (cellsI y)).setRow g (cellsB m')) g k y m' v L := by
  have h1 := h.go hB
  have wg := h.wg
  have gk := h.gk
  have hk := h.cur.lt
  have h2 : BlkM (W'.setRow k (cellsI y)) g m := (setRow_ne (by omega)).trans h1.msg
  refine ⟨h1.cur, h2, below_setRow (below_setRow h1.base (by omega) _) (by omega) _, (setRow_ne (by omega)).trans ((setRow_ne (by omega)).trans h1.res), setRow_heap _ _ _ _ _ _ h2, (setRow_ne (by omega)).trans (setRow_heap _ _ _ _ _ _ h1.cur), wg, gk, ?_, ?_⟩
  · refine IBlk.ne (IBlk.ne h1.lst h1.cur (by decide) (W' := W'.setRow k (cellsI y)) (by rw [setRow_size]; exact Nat.le_refl _) (fun b hb => setRow_ne hb)) h2 (by decide) (by simp) (fun b hb => setRow_ne hb)
  · exact RowA.to (hr.mono (by omega)) (by rw [setRow_size, setRow_size]; exact Nat.le_refl _) (fun j hj _ => (setRow_ne (by omega)).trans (setRow_ne (by omega)))
theorem Gfs.start {w W : World} {g k : Nat} {x : XS} {v : Value} {L : List Nat} (h : Ba w W g) (hk : BlkI W k x) (gk : g < k) (hL : IBlk W v L) (kd tg : Int) :
    Gfs w ((W.setCell ⟨g, 0, none⟩ (.int .i64 kd)).setCell ⟨g, 1, none⟩ (.int .i64 tg)) g k x { noM with kd := kd, tg := tg } v L := by
  have wg := h.wg
  have e1 := set_heap (o := 0) (v := .int .i64 kd) h.msg
  rw [setB_kd] at e1
  have e2 := set_heap (o := 1) (v := .int .i64 tg) e1
  rw [setB_tg] at e2
  refine ⟨(h.base.setCell (p := ⟨g, 0, none⟩) (Nat.le_of_lt wg) _).setCell (p := ⟨g, 1, none⟩) (Nat.le_of_lt wg) _, (Below.heap_setCell _ _ _ _ (by show _ ≠ g; omega)).trans ((Below.heap_setCell _ _ _ _ (by show _ ≠ g; omega)).trans h.res), e2, (Below.heap_setCell _ _ _ _ (by show _ ≠ g; omega)).trans ((Below.heap_setCell _ _ _ _ (by show _ ≠ g; omega)).trans hk), wg, gk, ?_, fresh_row _ ⟨rfl, rfl, rfl, rfl⟩⟩
  exact IBlk.ne (IBlk.ne hL h.msg (by decide) (W' := W.setCell ⟨g, 0, none⟩ (.int .i64 kd)) (by simp [World.setCell]) (fun b hb => Below.heap_setCell _ _ _ _ hb)) e1 (by decide) (by simp [World.setCell]) (fun b hb => Below.heap_setCell _ _ _ _ hb)
theorem Gfs.c {w W : World} {g k : Nat} {x : XS} {m : MM} {v : Value} {L : List Nat} (h : Gfs w W g k x m v L) : W.cell? ⟨k, 0, none⟩ = some (.string (Go.Proofs.YtlfdmbfbfadifaaGreatDoor.mk x.S)) ∧ W.cell? ⟨k, 1, none⟩ = some (.bool x.bad) :=
  ⟨(Lib.cell_of_heap h.cur 0).trans rfl, (Lib.cell_of_heap h.cur 1).trans rfl⟩
theorem Ba.c {w W : World} {g : Nat} (h : Ba w W g) : W.cell? ⟨g, 0, none⟩ = some (.int .i64 0) ∧ W.cell? ⟨g, 1, none⟩ = some (.int .i64 0) ∧ W.frozen? ⟨g, 0, none⟩ = false ∧ W.frozen? ⟨g, 1, none⟩ = false :=
  ⟨(h.msg.cell 0).trans rfl, (h.msg.cell 1).trans rfl, h.msg.frozen 0, h.msg.frozen 1⟩
theorem BlkI.drew {W : World} {k : Nat} {x : XS} (h : BlkI W k x) : BlkI W.drew k x := h

set_option maxHeartbeats 12800000 in
set_option maxRecDepth 100000 in
theorem RGet_good (l b : List UInt8) (ka kn : Nat) (hl : l.length ≤ 1000000) (hg : getR l (ka : Int) 4 = ((kn : Int), (ka : Int) + 4, 0)) (h1 : kn ≤ 8192) (h2 : 7 ≤ kn) (h3 : ka + kn ≤ l.length) (hb : b = cut l (ka + 4) (kn - 4))
    (res : MM × Int × Int) (H2 : okX b = false → res = (noM, 0, 2)) (H3 : okX b = true → checkM (qAll b).1 ≠ 0 → res = (noM, 0, checkM (qAll b).1)) (H4 : okX b = true → checkM (qAll b).1 = 0 → res = ((qAll b).1, (ka : Int) + (kn : Int), 0)) (H5 : okX b = true → inM (qAll b).1) (w : World) :
    Calls Tryz.prog 13 #[.string (mk l), .int .i64 (ka : Int)] w fun e W => ∃ v1 v2, e = .returned (.tuple #[msgV (withV res.1 v1 v2), .int .i64 res.2.1, .int .i64 res.2.2]) ∧ RowA (w.heap.size + 1) W (withV res.1 v1 v2) ∧ Below w.heap.size w W := by
  have hz := zero_msgW
  have hzi := zero_in
  have hbl : b.length ≤ 1000000 := by rw [hb]; unfold cut; simp only [List.length_take, List.length_drop]; omega
  have hG := Lib.hid (fun W => qGet l (ka : Int) 4 (by unfold maxLen; omega) W)
  rw [hg] at hG
  have e6 := mk_slice l (ka + 4) (kn - 4)
  rw [show ka + 4 + (kn - 4) = ka + kn by omega, ← hb] at e6
  have hN1 : Hid (∀ W, Calls Tryz.prog 29 #[.agg #[.string (mk b), .bool false], .int .i64 1] W fun e w' => e = .returned (.tuple #[.agg (cellsI (qN ⟨b, false⟩ 1).2), .int .i64 (headX b).1.kd]) ∧ Below W.heap.size W w') := fun W => Xnum ⟨b, false⟩ 1 1 rfl hbl W
  rw [← e6] at hN1
  have hN2 : Hid (∀ W, Calls Tryz.prog 29 #[.agg (cellsI (qN ⟨b, false⟩ 1).2), .int .i64 2] W fun e w' => e = .returned (.tuple #[.agg (cellsI (headX b).2), .int .i64 (headX b).1.tg]) ∧ Below W.heap.size W w') := fun W => Xnum (qN ⟨b, false⟩ 1).2 2 2 rfl (Nat.le_trans (qN_len _ 1) hbl) W
  have hFl : Hid (∀ W, Calls Tryz.prog 22 #[.int .i64 (headX b).1.kd] W fun e w' => ∃ v, e = .returned (.tuple #[v, .bool (kindB (headX b).1.kd)]) ∧ IBlk w' v ((fieldsL (headX b).1.kd).map refF) ∧ Below W.heap.size W w') := fun W => layL_eq (headX b).1.kd ▸ RFields9_any (headX b).1.kd W
  have hF : Hid (∀ j m, j < (fieldsL (headX b).1.kd).length → QTo b j m → ∀ W, Calls Tryz.prog 30 #[.agg (cellsI (qTo b j).2), .agg (cellsB m), .int .i64 (refF ((fieldsL (headX b).1.kd).getD j 0) : Int)] W fun e w' => ∃ v1 v2, e = .returned (.tuple #[.agg (cellsI (qTo b (j + 1)).2), .agg (cellsB (withV (qTo b (j + 1)).1 v1 v2))]) ∧ RowA (W.heap.size + 4) w' (withV (qTo b (j + 1)).1 v1 v2) ∧ Below W.heap.size W w' ∧ QTo b (j + 1) (withV (qTo b (j + 1)).1 v1 v2)) := by
    intro j m hj hm W
    obtain ⟨e1, e2⟩ := hm.2 hj
    subst e1
    refine (Xread (qTo b j).1 (qTo b j).2 _ (fld_lt _ _) (qTo_len hbl j) e2 W).mono ?_
    rintro e w' ⟨v1, v2, p1, p2, p3, p4⟩
    exact ⟨v1, v2, p1, p2, p3, QTo.succ hj e2 p4⟩
  have hE : Hid (qTo b (fieldsL (headX b).1.kd).length = qAll b) := rfl
  have hZ : Hid (QTo b 0 { noM with kd := (headX b).1.kd, tg := (headX b).1.tg } ∧ (qTo b 0).2 = (headX b).2) := ⟨QTo.zero b, rfl⟩
  have hO : Hid (okX b = (kindB (headX b).1.kd && (!(qAll b).2.bad && decide ((qAll b).2.S = [])))) := rfl
  have hl4 : (fieldsL (headX b).1.kd).length ≤ 4 := by have := layL_len (headX b).1.kd; rwa [layL_eq] at this
  obtain ⟨W0, hW0, hB0, hK0⟩ : ∃ W, w.alloc (.cells (cellsB noM) 30) = W ∧ Below w.heap.size w W ∧ BlkM W w.heap.size noM := ⟨_, rfl, (Below.refl _ w).alloc (Nat.le_refl _) _, BlkM.new w noM⟩
  have hBa : Hid (Ba w (W0.alloc (.cells (cellsB noM) 30)) W0.heap.size) := ⟨hB0.alloc hB0.size _, hK0.alloc _, BlkM.new W0 noM, hK0.lt⟩
  have hgl : Hid (W0.heap.size < (W0.alloc (.cells (cellsB noM) 30)).heap.size) := Lib.hid (by simp)
  replace hW0 := Lib.hid hW0
  replace H2 := Lib.hid H2
  replace H3 := Lib.hid H3
  replace H4 := Lib.hid H4
  replace H5 := Lib.hid H5
  have hsz := mk_len l
  have hd0 : decide ((ka : Int) < 0) = false := by simp
  have hd1 : decide (((mk l).size : Int) < (ka : Int)) = false := by rw [hsz]; simp; omega
  have hd2 : decide ((8192 : Int) < (kn : Int)) = false := by simp; omega
  have hd3 : decide ((kn : Int) < 7) = false := by simp; omega
  have hd4 : decide (((mk l).size : Int) - (ka : Int) < (kn : Int)) = false := by rw [hsz]; simp; omega
  have hb1 : (ka : Int) ≤ ((mk l).size : Int) := by omega
  have hb2 : (mk l).size ≤ 1000000 := by omega
  have hb3 : ka + kn ≤ (mk l).size := by omega
  have e3 : ((ka : Int) + (kn : Int)).toNat = ka + kn := by omega
  have e4 : ((ka : Int) + 4).toNat = ka + 4 := by omega
  have e5 : ka + 4 ≤ ka + kn := by omega
  clear hg hbl hb e6 hB0 hK0 hl hsz
  generalize (qN ⟨b, false⟩ 1).2 = x1 at *
  generalize (headX b).1.kd = kd at *
  generalize (headX b).1.tg = tg at *
  generalize (headX b).2 = x2 at *
  generalize kindB kd = ok at *
  go_enter Tryz.func13, Tryz.ntmps13
  go_wp2_with (simp only [hz.out, hW0.out])
  refine (hG.out _).mono ?_
  rintro e W1 ⟨rfl, rfl⟩
  go_wp2_with (simp only [hz.out])
  refine (hN1.out _).mono ?_
  rintro e W1 ⟨rfl, hB1⟩
  have hA1 := Lib.hid (hBa.out.go hB1)
  have hg1 := Lib.hid (Nat.lt_of_lt_of_le hgl.out hB1.size)
  clear hB1
  go_wp2_with (first
    | (simp only [hzi.out])
    | (refine wpList_store_row rfl 66 _ _ rfl W1.heap.size (cellsI x1) rfl rfl 66 (cellsI zeroX) (heap_alloc_new W1 _) (info_inC x1) rfl (oneI x1) ?_; rw [World.setRow_alloc_new])
    | (refine wpList_load_row rfl 66 _ rfl W1.heap.size rfl 66 (cellsI x1) (0, 0) _ (heap_alloc_new W1 _) Tryz.underlying66 rfl (info_inC x1) ?_))
  refine (hN2.out _).mono ?_
  rintro e W2 ⟨rfl, hB2⟩
  have hA2 := Lib.hid ((hA1.out.alloc _).go hB2)
  have hg2 := Lib.hid (Nat.lt_of_lt_of_le (Nat.lt_succ_of_lt hg1.out) (by simpa using hB2.size))
  clear hB2
  go_wp2_with (first
    | (simp only [hzi.out])
    | (refine wpList_store_row rfl 66 _ _ rfl W2.heap.size (cellsI x2) rfl rfl 66 (cellsI zeroX) (heap_alloc_new W2 _) (info_inC x2) rfl (oneI x2) ?_; rw [World.setRow_alloc_new]))
  refine (hFl.out _).mono ?_
  rintro e W3 ⟨v, rfl, hv, hB3⟩
  have hA3 := Lib.hid ((hA2.out.alloc _).go hB3)
  have hI3 := Lib.hid ((BlkI.new W2 x2).below hB3 (by simp))
  have hV := Lib.hid hv
  obtain ⟨p, hvv, -, -⟩ := id hv
  rw [List.length_map] at hvv
  subst hvv
  clear hv hB3
  obtain ⟨c0, c1, c2, c3⟩ := hA3.out.c
  have hS := Lib.hid (Gfs.start hA3.out hI3.out hg2.out hV.out kd tg)
  go_wp2
  go_loopw [17] (fun vj wr => ∃ (j : Nat) (m : MM), vj = .int .i64 (j : Int) ∧ j ≤ (fieldsL kd).length ∧ Hid (QTo b j m) ∧ Hid (Gfs w wr W0.heap.size W2.heap.size (qTo b j).2 m (.slice p (fieldsL kd).length (fieldsL kd).length) ((fieldsL kd).map refF))) (fun vj _ => (fieldsL kd).length - (intOf vj).toNat)
  case atStart => exact ⟨0, _, rfl, by omega, hZ.out.1, by rw [hZ.out.2]; exact hS⟩
  case round =>
    clear c0 c1 c2 c3 hS hA1 hA2 hA3 hg1 hI3 hV
    obtain ⟨j, m, rfl, hj, hm, hP⟩ := hrel
    by_cases hlt : j < (fieldsL kd).length
    · obtain ⟨jb, hpp, hb4, hb5, hcj⟩ := hP.out.lst.at_ (k := j) (by rw [List.length_map]; exact hlt)
      obtain rfl : p = some ⟨jb, 0, none⟩ := by injection hpp with h1 h2 h3
      rw [mapF_getD _ hlt] at hcj
      have hcall := Lib.hid (fun W => hF.out j m hlt hm.out W)
      have hone := Lib.hid (cellsB_one m hP.out.row.row.one.1 hP.out.row.row.one.2)
      clear hpp hb4 hb5
      generalize (fieldsL kd).getD j 0 = f at *
      go_wp2
      refine wp_region_held_drew (S := fun _ => True) (by kernel_rfl) trivial (fun _ => ?_)
      have hPd := Lib.hid hP.out.drew
      have hcd : wr.drew.cell? ⟨jb, j, none⟩ = _ := hcj
      clear hcj hP
      generalize wr.drew = wd at *
      have k0 : (0 : Int) ≤ (j : Int) := by omega
      have k1 : (j : Int) < ((fieldsL kd).length : Int) := by omega
      refine takeD (i := 2) (oi := _) (d := some 87) (v := .slice (some ⟨jb, 0, none⟩) (fieldsL kd).length (fieldsL kd).length) rfl rfl (by kernel_rfl) (by kernel_rfl) (by kernel_rfl) (fun _ _ _ h => h) (Or.inl ⟨by rfl, fun W hSw => by go_simp⟩) trivial ?_
      try simp only [Act.put, List.setIfInBounds_toArray, List.set_cons_zero, List.set_cons_succ]
      refine takeD (i := 3) (oi := _) (d := some 88) (v := .int .i64 (j : Int)) rfl rfl (by kernel_rfl) (by kernel_rfl) (by kernel_rfl) (fun _ _ _ h => h) (Or.inl ⟨by rfl, fun W hSw => by go_simp⟩) trivial ?_
      try simp only [Act.put, List.setIfInBounds_toArray, List.set_cons_zero, List.set_cons_succ]
      refine takeD (i := 4) (oi := _) (d := some 89) (v := .pointer (some ⟨jb, j, none⟩)) rfl rfl (by kernel_rfl) (by kernel_rfl) (by kernel_rfl) (fun _ _ _ h => h) (Or.inl ⟨by rfl, fun W hSw => by go_simp⟩) trivial ?_
      try simp only [Act.put, List.setIfInBounds_toArray, List.set_cons_zero, List.set_cons_succ]
      refine wpAnyH_ready (rs := [0, 1, 5]) (by kernel_rfl) (by simp) ?_
      refine AllReadyH.cons (o := _) rfl (fun K hK => ?_) (AllReadyH.cons (o := _) rfl (fun K hK => ?_) (AllReadyH.cons (o := _) rfl (fun K hK => ?_) AllReadyH.nil))
      · rw [if_pos (by rfl)]
        refine wp_load_row 66 _ rfl W2.heap.size rfl 66 (cellsI (qTo b j).2) (0, 0) _ hPd.out.cur Tryz.underlying66 rfl (info_inC (qTo b j).2) ?_
        refine hK.out _ _ trivial (fun _ => ?_)
        clear hK K
        try simp only [Act.put, List.setIfInBounds_toArray]
        refine wpAnyH_ready (rs := [1, 5]) (by kernel_rfl) (by simp) ?_
        refine AllReadyH.cons (o := _) rfl (fun K hK => ?_) (AllReadyH.cons (o := _) rfl (fun K hK => ?_) AllReadyH.nil)
        · rw [if_pos (by rfl)]
          refine wp_load_row 30 _ rfl W0.heap.size rfl 30 (cellsB m) (0, 0) _ hPd.out.msg Tryz.underlying30 rfl (info_msgC m) ?_
          refine hK.out _ _ trivial (fun _ => ?_)
          clear hK K
          try simp only [Act.put]
          refine wpAnyH_ready (rs := [5]) (by kernel_rfl) (by simp) ?_
          refine AllReadyH.cons (o := _) rfl (fun K hK => ?_) AllReadyH.nil
          · go_simp
            refine hK.out _ _ trivial (fun _ => ?_)
            clear hK K
            try simp only [Act.put, List.setIfInBounds_toArray, List.set_cons_zero, List.set_cons_succ]
            refine wpAnyH_ready (rs := [6]) (by kernel_rfl) (by simp) ?_
            refine AllReadyH.cons (o := _) rfl (fun K hK => ?_) AllReadyH.nil
            go_simp
            refine (hcall.out wd).mono ?_
            rintro e W6 ⟨v1, v2, rfl, hrow, hB6, hq⟩
            refine hK.out _ _ trivial (fun _ => ?_)
            clear hK K
            try simp only [Act.put, List.setIfInBounds_toArray, List.set_cons_zero, List.set_cons_succ]
            obtain ⟨s1, s2, s3⟩ := hPd.out.step (y := (qTo b (j + 1)).2) hB6 hrow
            have hn := Lib.hid (cellsB_one _ hrow.row.one.1 hrow.row.one.2)
            have hm6 := Lib.hid hq
            have hw6 := Lib.hid s3
            have S1 := Lib.hid s1
            have S2 := Lib.hid s2
            clear hB6 hrow hq s1 s2 s3
            generalize hmm : withV (qTo b (j + 1)).1 v1 v2 = mm at *
            replace hmm := Lib.hid hmm
            generalize hy : (qTo b (j + 1)).2 = y at *
            replace hy := Lib.hid hy
            refine takeD (i := 7) (oi := _) (d := some 84) (v := .tuple #[.agg (cellsI y), .agg (cellsB mm)]) rfl rfl (by kernel_rfl) (by kernel_rfl) (by kernel_rfl) (fun _ _ _ h => h) (Or.inl ⟨by rfl, fun W hSw => by go_simp⟩) trivial ?_
            try simp only [Act.put, List.setIfInBounds_toArray, List.set_cons_zero, List.set_cons_succ]
            refine takeD (i := 8) (oi := _) (d := some 92) (v := .agg (cellsI y)) rfl rfl (by kernel_rfl) (by kernel_rfl) (by kernel_rfl) (fun _ _ _ h => h) (Or.inl ⟨by rfl, fun W hSw => by go_simp⟩) trivial ?_
            try simp only [Act.put, List.setIfInBounds_toArray, List.set_cons_zero, List.set_cons_succ]
            refine takeD (i := 9) (oi := _) (d := some 93) (v := .agg (cellsB mm)) rfl rfl (by kernel_rfl) (by kernel_rfl) (by kernel_rfl) (fun _ _ _ h => h) (Or.inl ⟨by rfl, fun W hSw => by go_simp⟩) trivial ?_
            try simp only [Act.put, List.setIfInBounds_toArray, List.set_cons_zero, List.set_cons_succ]
            refine wpAnyH_ready (rs := [10]) (by kernel_rfl) (by simp) ?_
            refine AllReadyH.cons (o := _) rfl (fun K hK => ?_) AllReadyH.nil
            rw [if_pos (by rfl)]
            refine wp_store_row 66 _ _ rfl W2.heap.size (cellsI y) rfl rfl 66 (cellsI (qTo b j).2) S1.out (info_inC y) rfl (oneI y) ?_
            refine hK.out _ _ trivial (fun _ => ?_)
            clear hK K
            try simp only [Act.put, List.setIfInBounds_toArray]
            refine wpAnyH_ready (rs := [11]) (by kernel_rfl) (by simp) ?_
            refine AllReadyH.cons (o := _) rfl (fun K hK => ?_) AllReadyH.nil
            rw [if_pos (by rfl)]
            refine wp_store_row 30 _ _ rfl W0.heap.size (cellsB mm) rfl rfl 30 (cellsB m) S2.out (info_msgC mm) rfl hn.out ?_
            refine hK.out _ _ trivial (fun _ => ?_)
            clear hK K
            try simp only [Act.put]
            refine wpAnyH_done (by kernel_rfl) ?_ _
            go_wp2
            exact ⟨⟨j + 1, _, by go_num, by omega, hm6, by rw [hy.out]; exact hw6⟩, by simp [intOf]; omega⟩
        · go_simp
          refine hK.out _ _ trivial (fun _ => ?_)
          clear hK K
          try simp only [Act.put, List.setIfInBounds_toArray, List.set_cons_zero, List.set_cons_succ]
          refine wpAnyH_ready (rs := [1]) (by kernel_rfl) (by simp) ?_
          refine AllReadyH.cons (o := _) rfl (fun K hK => ?_) AllReadyH.nil
          · rw [if_pos (by rfl)]
            refine wp_load_row 30 _ rfl W0.heap.size rfl 30 (cellsB m) (0, 0) _ hPd.out.msg Tryz.underlying30 rfl (info_msgC m) ?_
            refine hK.out _ _ trivial (fun _ => ?_)
            clear hK K
            try simp only [Act.put, List.setIfInBounds_toArray]
            refine wpAnyH_ready (rs := [6]) (by kernel_rfl) (by simp) ?_
            refine AllReadyH.cons (o := _) rfl (fun K hK => ?_) AllReadyH.nil
            go_simp
            refine (hcall.out wd).mono ?_
            rintro e W6 ⟨v1, v2, rfl, hrow, hB6, hq⟩
            refine hK.out _ _ trivial (fun _ => ?_)
            clear hK K
            try simp only [Act.put, List.setIfInBounds_toArray, List.set_cons_zero, List.set_cons_succ]
            obtain ⟨s1, s2, s3⟩ := hPd.out.step (y := (qTo b (j + 1)).2) hB6 hrow
            have hn := Lib.hid (cellsB_one _ hrow.row.one.1 hrow.row.one.2)
            have hm6 := Lib.hid hq
            have hw6 := Lib.hid s3
            have S1 := Lib.hid s1
            have S2 := Lib.hid s2
            clear hB6 hrow hq s1 s2 s3
            generalize hmm : withV (qTo b (j + 1)).1 v1 v2 = mm at *
            replace hmm := Lib.hid hmm
            generalize hy : (qTo b (j + 1)).2 = y at *
            replace hy := Lib.hid hy
            refine takeD (i := 7) (oi := _) (d := some 84) (v := .tuple #[.agg (cellsI y), .agg (cellsB mm)]) rfl rfl (by kernel_rfl) (by kernel_rfl) (by kernel_rfl) (fun _ _ _ h => h) (Or.inl ⟨by rfl, fun W hSw => by go_simp⟩) trivial ?_
            try simp only [Act.put, List.setIfInBounds_toArray, List.set_cons_zero, List.set_cons_succ]
            refine takeD (i := 8) (oi := _) (d := some 92) (v := .agg (cellsI y)) rfl rfl (by kernel_rfl) (by kernel_rfl) (by kernel_rfl) (fun _ _ _ h => h) (Or.inl ⟨by rfl, fun W hSw => by go_simp⟩) trivial ?_
            try simp only [Act.put, List.setIfInBounds_toArray, List.set_cons_zero, List.set_cons_succ]
            refine takeD (i := 9) (oi := _) (d := some 93) (v := .agg (cellsB mm)) rfl rfl (by kernel_rfl) (by kernel_rfl) (by kernel_rfl) (fun _ _ _ h => h) (Or.inl ⟨by rfl, fun W hSw => by go_simp⟩) trivial ?_
            try simp only [Act.put, List.setIfInBounds_toArray, List.set_cons_zero, List.set_cons_succ]
            refine wpAnyH_ready (rs := [10]) (by kernel_rfl) (by simp) ?_
            refine AllReadyH.cons (o := _) rfl (fun K hK => ?_) AllReadyH.nil
            rw [if_pos (by rfl)]
            refine wp_store_row 66 _ _ rfl W2.heap.size (cellsI y) rfl rfl 66 (cellsI (qTo b j).2) S1.out (info_inC y) rfl (oneI y) ?_
            refine hK.out _ _ trivial (fun _ => ?_)
            clear hK K
            try simp only [Act.put, List.setIfInBounds_toArray]
            refine wpAnyH_ready (rs := [11]) (by kernel_rfl) (by simp) ?_
            refine AllReadyH.cons (o := _) rfl (fun K hK => ?_) AllReadyH.nil
            rw [if_pos (by rfl)]
            refine wp_store_row 30 _ _ rfl W0.heap.size (cellsB mm) rfl rfl 30 (cellsB m) S2.out (info_msgC mm) rfl hn.out ?_
            refine hK.out _ _ trivial (fun _ => ?_)
            clear hK K
            try simp only [Act.put]
            refine wpAnyH_done (by kernel_rfl) ?_ _
            go_wp2
            exact ⟨⟨j + 1, _, by go_num, by omega, hm6, by rw [hy.out]; exact hw6⟩, by simp [intOf]; omega⟩
      · rw [if_pos (by rfl)]
        refine wp_load_row 30 _ rfl W0.heap.size rfl 30 (cellsB m) (0, 0) _ hPd.out.msg Tryz.underlying30 rfl (info_msgC m) ?_
        refine hK.out _ _ trivial (fun _ => ?_)
        clear hK K
        try simp only [Act.put, List.setIfInBounds_toArray]
        refine wpAnyH_ready (rs := [0, 5]) (by kernel_rfl) (by simp) ?_
        refine AllReadyH.cons (o := _) rfl (fun K hK => ?_) (AllReadyH.cons (o := _) rfl (fun K hK => ?_) AllReadyH.nil)
        · rw [if_pos (by rfl)]
          refine wp_load_row 66 _ rfl W2.heap.size rfl 66 (cellsI (qTo b j).2) (0, 0) _ hPd.out.cur Tryz.underlying66 rfl (info_inC (qTo b j).2) ?_
          refine hK.out _ _ trivial (fun _ => ?_)
          clear hK K
          try simp only [Act.put]
          refine wpAnyH_ready (rs := [5]) (by kernel_rfl) (by simp) ?_
          refine AllReadyH.cons (o := _) rfl (fun K hK => ?_) AllReadyH.nil
          · go_simp
            refine hK.out _ _ trivial (fun _ => ?_)
            clear hK K
            try simp only [Act.put, List.setIfInBounds_toArray, List.set_cons_zero, List.set_cons_succ]
            refine wpAnyH_ready (rs := [6]) (by kernel_rfl) (by simp) ?_
            refine AllReadyH.cons (o := _) rfl (fun K hK => ?_) AllReadyH.nil
            go_simp
            refine (hcall.out wd).mono ?_
            rintro e W6 ⟨v1, v2, rfl, hrow, hB6, hq⟩
            refine hK.out _ _ trivial (fun _ => ?_)
            clear hK K
            try simp only [Act.put, List.setIfInBounds_toArray, List.set_cons_zero, List.set_cons_succ]
            obtain ⟨s1, s2, s3⟩ := hPd.out.step (y := (qTo b (j + 1)).2) hB6 hrow
            have hn := Lib.hid (cellsB_one _ hrow.row.one.1 hrow.row.one.2)
            have hm6 := Lib.hid hq
            have hw6 := Lib.hid s3
            have S1 := Lib.hid s1
            have S2 := Lib.hid s2
            clear hB6 hrow hq s1 s2 s3
            generalize hmm : withV (qTo b (j + 1)).1 v1 v2 = mm at *
            replace hmm := Lib.hid hmm
            generalize hy : (qTo b (j + 1)).2 = y at *
            replace hy := Lib.hid hy
            refine takeD (i := 7) (oi := _) (d := some 84) (v := .tuple #[.agg (cellsI y), .agg (cellsB mm)]) rfl rfl (by kernel_rfl) (by kernel_rfl) (by kernel_rfl) (fun _ _ _ h => h) (Or.inl ⟨by rfl, fun W hSw => by go_simp⟩) trivial ?_
            try simp only [Act.put, List.setIfInBounds_toArray, List.set_cons_zero, List.set_cons_succ]
            refine takeD (i := 8) (oi := _) (d := some 92) (v := .agg (cellsI y)) rfl rfl (by kernel_rfl) (by kernel_rfl) (by kernel_rfl) (fun _ _ _ h => h) (Or.inl ⟨by rfl, fun W hSw => by go_simp⟩) trivial ?_
            try simp only [Act.put, List.setIfInBounds_toArray, List.set_cons_zero, List.set_cons_succ]
            refine takeD (i := 9) (oi := _) (d := some 93) (v := .agg (cellsB mm)) rfl rfl (by kernel_rfl) (by kernel_rfl) (by kernel_rfl) (fun _ _ _ h => h) (Or.inl ⟨by rfl, fun W hSw => by go_simp⟩) trivial ?_
            try simp only [Act.put, List.setIfInBounds_toArray, List.set_cons_zero, List.set_cons_succ]
            refine wpAnyH_ready (rs := [10]) (by kernel_rfl) (by simp) ?_
            refine AllReadyH.cons (o := _) rfl (fun K hK => ?_) AllReadyH.nil
            rw [if_pos (by rfl)]
            refine wp_store_row 66 _ _ rfl W2.heap.size (cellsI y) rfl rfl 66 (cellsI (qTo b j).2) S1.out (info_inC y) rfl (oneI y) ?_
            refine hK.out _ _ trivial (fun _ => ?_)
            clear hK K
            try simp only [Act.put, List.setIfInBounds_toArray]
            refine wpAnyH_ready (rs := [11]) (by kernel_rfl) (by simp) ?_
            refine AllReadyH.cons (o := _) rfl (fun K hK => ?_) AllReadyH.nil
            rw [if_pos (by rfl)]
            refine wp_store_row 30 _ _ rfl W0.heap.size (cellsB mm) rfl rfl 30 (cellsB m) S2.out (info_msgC mm) rfl hn.out ?_
            refine hK.out _ _ trivial (fun _ => ?_)
            clear hK K
            try simp only [Act.put]
            refine wpAnyH_done (by kernel_rfl) ?_ _
            go_wp2
            exact ⟨⟨j + 1, _, by go_num, by omega, hm6, by rw [hy.out]; exact hw6⟩, by simp [intOf]; omega⟩
        · go_simp
          refine hK.out _ _ trivial (fun _ => ?_)
          clear hK K
          try simp only [Act.put, List.setIfInBounds_toArray, List.set_cons_zero, List.set_cons_succ]
          refine wpAnyH_ready (rs := [0]) (by kernel_rfl) (by simp) ?_
          refine AllReadyH.cons (o := _) rfl (fun K hK => ?_) AllReadyH.nil
          · rw [if_pos (by rfl)]
            refine wp_load_row 66 _ rfl W2.heap.size rfl 66 (cellsI (qTo b j).2) (0, 0) _ hPd.out.cur Tryz.underlying66 rfl (info_inC (qTo b j).2) ?_
            refine hK.out _ _ trivial (fun _ => ?_)
            clear hK K
            try simp only [Act.put, List.setIfInBounds_toArray]
            refine wpAnyH_ready (rs := [6]) (by kernel_rfl) (by simp) ?_
            refine AllReadyH.cons (o := _) rfl (fun K hK => ?_) AllReadyH.nil
            go_simp
            refine (hcall.out wd).mono ?_
            rintro e W6 ⟨v1, v2, rfl, hrow, hB6, hq⟩
            refine hK.out _ _ trivial (fun _ => ?_)
            clear hK K
            try simp only [Act.put, List.setIfInBounds_toArray, List.set_cons_zero, List.set_cons_succ]
            obtain ⟨s1, s2, s3⟩ := hPd.out.step (y := (qTo b (j + 1)).2) hB6 hrow
            have hn := Lib.hid (cellsB_one _ hrow.row.one.1 hrow.row.one.2)
            have hm6 := Lib.hid hq
            have hw6 := Lib.hid s3
            have S1 := Lib.hid s1
            have S2 := Lib.hid s2
            clear hB6 hrow hq s1 s2 s3
            generalize hmm : withV (qTo b (j + 1)).1 v1 v2 = mm at *
            replace hmm := Lib.hid hmm
            generalize hy : (qTo b (j + 1)).2 = y at *
            replace hy := Lib.hid hy
            refine takeD (i := 7) (oi := _) (d := some 84) (v := .tuple #[.agg (cellsI y), .agg (cellsB mm)]) rfl rfl (by kernel_rfl) (by kernel_rfl) (by kernel_rfl) (fun _ _ _ h => h) (Or.inl ⟨by rfl, fun W hSw => by go_simp⟩) trivial ?_
            try simp only [Act.put, List.setIfInBounds_toArray, List.set_cons_zero, List.set_cons_succ]
            refine takeD (i := 8) (oi := _) (d := some 92) (v := .agg (cellsI y)) rfl rfl (by kernel_rfl) (by kernel_rfl) (by kernel_rfl) (fun _ _ _ h => h) (Or.inl ⟨by rfl, fun W hSw => by go_simp⟩) trivial ?_
            try simp only [Act.put, List.setIfInBounds_toArray, List.set_cons_zero, List.set_cons_succ]
            refine takeD (i := 9) (oi := _) (d := some 93) (v := .agg (cellsB mm)) rfl rfl (by kernel_rfl) (by kernel_rfl) (by kernel_rfl) (fun _ _ _ h => h) (Or.inl ⟨by rfl, fun W hSw => by go_simp⟩) trivial ?_
            try simp only [Act.put, List.setIfInBounds_toArray, List.set_cons_zero, List.set_cons_succ]
            refine wpAnyH_ready (rs := [10]) (by kernel_rfl) (by simp) ?_
            refine AllReadyH.cons (o := _) rfl (fun K hK => ?_) AllReadyH.nil
            rw [if_pos (by rfl)]
            refine wp_store_row 66 _ _ rfl W2.heap.size (cellsI y) rfl rfl 66 (cellsI (qTo b j).2) S1.out (info_inC y) rfl (oneI y) ?_
            refine hK.out _ _ trivial (fun _ => ?_)
            clear hK K
            try simp only [Act.put, List.setIfInBounds_toArray]
            refine wpAnyH_ready (rs := [11]) (by kernel_rfl) (by simp) ?_
            refine AllReadyH.cons (o := _) rfl (fun K hK => ?_) AllReadyH.nil
            rw [if_pos (by rfl)]
            refine wp_store_row 30 _ _ rfl W0.heap.size (cellsB mm) rfl rfl 30 (cellsB m) S2.out (info_msgC mm) rfl hn.out ?_
            refine hK.out _ _ trivial (fun _ => ?_)
            clear hK K
            try simp only [Act.put]
            refine wpAnyH_done (by kernel_rfl) ?_ _
            go_wp2
            exact ⟨⟨j + 1, _, by go_num, by omega, hm6, by rw [hy.out]; exact hw6⟩, by simp [intOf]; omega⟩
      · go_simp
        refine hK.out _ _ trivial (fun _ => ?_)
        clear hK K
        try simp only [Act.put, List.setIfInBounds_toArray, List.set_cons_zero, List.set_cons_succ]
        refine wpAnyH_ready (rs := [0, 1]) (by kernel_rfl) (by simp) ?_
        refine AllReadyH.cons (o := _) rfl (fun K hK => ?_) (AllReadyH.cons (o := _) rfl (fun K hK => ?_) AllReadyH.nil)
        · rw [if_pos (by rfl)]
          refine wp_load_row 66 _ rfl W2.heap.size rfl 66 (cellsI (qTo b j).2) (0, 0) _ hPd.out.cur Tryz.underlying66 rfl (info_inC (qTo b j).2) ?_
          refine hK.out _ _ trivial (fun _ => ?_)
          clear hK K
          try simp only [Act.put, List.setIfInBounds_toArray]
          refine wpAnyH_ready (rs := [1]) (by kernel_rfl) (by simp) ?_
          refine AllReadyH.cons (o := _) rfl (fun K hK => ?_) AllReadyH.nil
          · rw [if_pos (by rfl)]
            refine wp_load_row 30 _ rfl W0.heap.size rfl 30 (cellsB m) (0, 0) _ hPd.out.msg Tryz.underlying30 rfl (info_msgC m) ?_
            refine hK.out _ _ trivial (fun _ => ?_)
            clear hK K
            try simp only [Act.put]
            refine wpAnyH_ready (rs := [6]) (by kernel_rfl) (by simp) ?_
            refine AllReadyH.cons (o := _) rfl (fun K hK => ?_) AllReadyH.nil
            go_simp
            refine (hcall.out wd).mono ?_
            rintro e W6 ⟨v1, v2, rfl, hrow, hB6, hq⟩
            refine hK.out _ _ trivial (fun _ => ?_)
            clear hK K
            try simp only [Act.put, List.setIfInBounds_toArray, List.set_cons_zero, List.set_cons_succ]
            obtain ⟨s1, s2, s3⟩ := hPd.out.step (y := (qTo b (j + 1)).2) hB6 hrow
            have hn := Lib.hid (cellsB_one _ hrow.row.one.1 hrow.row.one.2)
            have hm6 := Lib.hid hq
            have hw6 := Lib.hid s3
            have S1 := Lib.hid s1
            have S2 := Lib.hid s2
            clear hB6 hrow hq s1 s2 s3
            generalize hmm : withV (qTo b (j + 1)).1 v1 v2 = mm at *
            replace hmm := Lib.hid hmm
            generalize hy : (qTo b (j + 1)).2 = y at *
            replace hy := Lib.hid hy
            refine takeD (i := 7) (oi := _) (d := some 84) (v := .tuple #[.agg (cellsI y), .agg (cellsB mm)]) rfl rfl (by kernel_rfl) (by kernel_rfl) (by kernel_rfl) (fun _ _ _ h => h) (Or.inl ⟨by rfl, fun W hSw => by go_simp⟩) trivial ?_
            try simp only [Act.put, List.setIfInBounds_toArray, List.set_cons_zero, List.set_cons_succ]
            refine takeD (i := 8) (oi := _) (d := some 92) (v := .agg (cellsI y)) rfl rfl (by kernel_rfl) (by kernel_rfl) (by kernel_rfl) (fun _ _ _ h => h) (Or.inl ⟨by rfl, fun W hSw => by go_simp⟩) trivial ?_
            try simp only [Act.put, List.setIfInBounds_toArray, List.set_cons_zero, List.set_cons_succ]
            refine takeD (i := 9) (oi := _) (d := some 93) (v := .agg (cellsB mm)) rfl rfl (by kernel_rfl) (by kernel_rfl) (by kernel_rfl) (fun _ _ _ h => h) (Or.inl ⟨by rfl, fun W hSw => by go_simp⟩) trivial ?_
            try simp only [Act.put, List.setIfInBounds_toArray, List.set_cons_zero, List.set_cons_succ]
            refine wpAnyH_ready (rs := [10]) (by kernel_rfl) (by simp) ?_
            refine AllReadyH.cons (o := _) rfl (fun K hK => ?_) AllReadyH.nil
            rw [if_pos (by rfl)]
            refine wp_store_row 66 _ _ rfl W2.heap.size (cellsI y) rfl rfl 66 (cellsI (qTo b j).2) S1.out (info_inC y) rfl (oneI y) ?_
            refine hK.out _ _ trivial (fun _ => ?_)
            clear hK K
            try simp only [Act.put, List.setIfInBounds_toArray]
            refine wpAnyH_ready (rs := [11]) (by kernel_rfl) (by simp) ?_
            refine AllReadyH.cons (o := _) rfl (fun K hK => ?_) AllReadyH.nil
            rw [if_pos (by rfl)]
            refine wp_store_row 30 _ _ rfl W0.heap.size (cellsB mm) rfl rfl 30 (cellsB m) S2.out (info_msgC mm) rfl hn.out ?_
            refine hK.out _ _ trivial (fun _ => ?_)
            clear hK K
            try simp only [Act.put]
            refine wpAnyH_done (by kernel_rfl) ?_ _
            go_wp2
            exact ⟨⟨j + 1, _, by go_num, by omega, hm6, by rw [hy.out]; exact hw6⟩, by simp [intOf]; omega⟩
        · rw [if_pos (by rfl)]
          refine wp_load_row 30 _ rfl W0.heap.size rfl 30 (cellsB m) (0, 0) _ hPd.out.msg Tryz.underlying30 rfl (info_msgC m) ?_
          refine hK.out _ _ trivial (fun _ => ?_)
          clear hK K
          try simp only [Act.put, List.setIfInBounds_toArray]
          refine wpAnyH_ready (rs := [0]) (by kernel_rfl) (by simp) ?_
          refine AllReadyH.cons (o := _) rfl (fun K hK => ?_) AllReadyH.nil
          · rw [if_pos (by rfl)]
            refine wp_load_row 66 _ rfl W2.heap.size rfl 66 (cellsI (qTo b j).2) (0, 0) _ hPd.out.cur Tryz.underlying66 rfl (info_inC (qTo b j).2) ?_
            refine hK.out _ _ trivial (fun _ => ?_)
            clear hK K
            try simp only [Act.put]
            refine wpAnyH_ready (rs := [6]) (by kernel_rfl) (by simp) ?_
            refine AllReadyH.cons (o := _) rfl (fun K hK => ?_) AllReadyH.nil
            go_simp
            refine (hcall.out wd).mono ?_
            rintro e W6 ⟨v1, v2, rfl, hrow, hB6, hq⟩
            refine hK.out _ _ trivial (fun _ => ?_)
            clear hK K
            try simp only [Act.put, List.setIfInBounds_toArray, List.set_cons_zero, List.set_cons_succ]
            obtain ⟨s1, s2, s3⟩ := hPd.out.step (y := (qTo b (j + 1)).2) hB6 hrow
            have hn := Lib.hid (cellsB_one _ hrow.row.one.1 hrow.row.one.2)
            have hm6 := Lib.hid hq
            have hw6 := Lib.hid s3
            have S1 := Lib.hid s1
            have S2 := Lib.hid s2
            clear hB6 hrow hq s1 s2 s3
            generalize hmm : withV (qTo b (j + 1)).1 v1 v2 = mm at *
            replace hmm := Lib.hid hmm
            generalize hy : (qTo b (j + 1)).2 = y at *
            replace hy := Lib.hid hy
            refine takeD (i := 7) (oi := _) (d := some 84) (v := .tuple #[.agg (cellsI y), .agg (cellsB mm)]) rfl rfl (by kernel_rfl) (by kernel_rfl) (by kernel_rfl) (fun _ _ _ h => h) (Or.inl ⟨by rfl, fun W hSw => by go_simp⟩) trivial ?_
            try simp only [Act.put, List.setIfInBounds_toArray, List.set_cons_zero, List.set_cons_succ]
            refine takeD (i := 8) (oi := _) (d := some 92) (v := .agg (cellsI y)) rfl rfl (by kernel_rfl) (by kernel_rfl) (by kernel_rfl) (fun _ _ _ h => h) (Or.inl ⟨by rfl, fun W hSw => by go_simp⟩) trivial ?_
            try simp only [Act.put, List.setIfInBounds_toArray, List.set_cons_zero, List.set_cons_succ]
            refine takeD (i := 9) (oi := _) (d := some 93) (v := .agg (cellsB mm)) rfl rfl (by kernel_rfl) (by kernel_rfl) (by kernel_rfl) (fun _ _ _ h => h) (Or.inl ⟨by rfl, fun W hSw => by go_simp⟩) trivial ?_
            try simp only [Act.put, List.setIfInBounds_toArray, List.set_cons_zero, List.set_cons_succ]
            refine wpAnyH_ready (rs := [10]) (by kernel_rfl) (by simp) ?_
            refine AllReadyH.cons (o := _) rfl (fun K hK => ?_) AllReadyH.nil
            rw [if_pos (by rfl)]
            refine wp_store_row 66 _ _ rfl W2.heap.size (cellsI y) rfl rfl 66 (cellsI (qTo b j).2) S1.out (info_inC y) rfl (oneI y) ?_
            refine hK.out _ _ trivial (fun _ => ?_)
            clear hK K
            try simp only [Act.put, List.setIfInBounds_toArray]
            refine wpAnyH_ready (rs := [11]) (by kernel_rfl) (by simp) ?_
            refine AllReadyH.cons (o := _) rfl (fun K hK => ?_) AllReadyH.nil
            rw [if_pos (by rfl)]
            refine wp_store_row 30 _ _ rfl W0.heap.size (cellsB mm) rfl rfl 30 (cellsB m) S2.out (info_msgC mm) rfl hn.out ?_
            refine hK.out _ _ trivial (fun _ => ?_)
            clear hK K
            try simp only [Act.put]
            refine wpAnyH_done (by kernel_rfl) ?_ _
            go_wp2
            exact ⟨⟨j + 1, _, by go_num, by omega, hm6, by rw [hy.out]; exact hw6⟩, by simp [intOf]; omega⟩
    · obtain rfl : j = (fieldsL kd).length := by omega
      obtain ⟨⟨v1, v2, hmv⟩, -⟩ := hm.out
      subst hmv
      have h5 := hP.out
      rw [hE.out] at h5
      clear hP hm hF hE hZ hN1 hN2 hFl hj hlt
      have hO' := hO.out
      generalize okX b = oo at *
      generalize qAll b = qa at *
      obtain ⟨ra, yS, yb⟩ := qa
      dsimp only at H2 H3 H4 H5 hO' h5
      obtain ⟨c0, c1⟩ := h5.c
      dsimp only at c0 c1
      replace h5 := Lib.hid h5
      clear hO
      cases ok
      case false =>
        have hO := hO'
        clear hO'
        have hr := Lib.hid (H2.out (by rw [hO]; rfl))
        have hB := Lib.hid h5.out.base
        have hX := Lib.hid (h5.out.res.setRow noM)
        clear H2 H3 H4 H5 hO
        go_wp2_with (refine wpList_store_row rfl 30 _ _ rfl w.heap.size (cellsB noM) rfl rfl 30 (cellsB noM) h5.out.res (by kernel_rfl) rfl (cellsB_one noM rfl rfl) ?_)
        refine bodyPost_ret (results_msg3 rfl rfl hX.out) rfl ?_
        rw [hr.out]
        exact ⟨nilS, nilS, rfl, fresh_row _ noM_fresh, below_setRow hB.out (Nat.le_refl _) _⟩
      case true =>
      cases yb
      case true =>
        have hO := hO'
        clear hO'
        have hr := Lib.hid (H2.out (by rw [hO]; rfl))
        have hB := Lib.hid h5.out.base
        have hX := Lib.hid (h5.out.res.setRow noM)
        clear H2 H3 H4 H5 hO
        go_wp2_with (refine wpList_store_row rfl 30 _ _ rfl w.heap.size (cellsB noM) rfl rfl 30 (cellsB noM) h5.out.res (by kernel_rfl) rfl (cellsB_one noM rfl rfl) ?_)
        refine bodyPost_ret (results_msg3 rfl rfl hX.out) rfl ?_
        rw [hr.out]
        exact ⟨nilS, nilS, rfl, fresh_row _ noM_fresh, below_setRow hB.out (Nat.le_refl _) _⟩
      case false =>
      by_cases hS0 : yS = []
      case neg =>
        have hO := hO'
        have hq : ((mk yS).toList == []) = false := by rw [beq_eq_false_iff_ne]; intro h; exact hS0 (by simpa [mk] using h)
        clear hO'
        have hr := Lib.hid (H2.out (by rw [hO]; simp [hS0]))
        have hB := Lib.hid h5.out.base
        have hX := Lib.hid (h5.out.res.setRow noM)
        clear H2 H3 H4 H5 hO
        go_wp2_with (refine wpList_store_row rfl 30 _ _ rfl w.heap.size (cellsB noM) rfl rfl 30 (cellsB noM) h5.out.res (by kernel_rfl) rfl (cellsB_one noM rfl rfl) ?_)
        refine bodyPost_ret (results_msg3 rfl rfl hX.out) rfl ?_
        rw [hr.out]
        exact ⟨nilS, nilS, rfl, fresh_row _ noM_fresh, below_setRow hB.out (Nat.le_refl _) _⟩
      case pos =>
        subst hS0
        have hO : oo = true := hO'
        subst hO
        clear hO'
        have hq : ((mk ([] : List UInt8)).toList == []) = true := by rw [mk_toList]; rfl
        have hrow := h5.out.row
        have hchk := RCheckM_any (withV ra v1 v2) (withV_in v1 v2 (H5.out rfl)) wr hrow.row
        rw [withV_check] at hchk
        have hone := Lib.hid (cellsB_one (withV ra v1 v2) hrow.row.one.1 hrow.row.one.2)
        have hR := Lib.hid hrow
        have gk := h5.out.gk
        have wg := h5.out.wg
        have hg0 := Lib.hid (Nat.lt_trans wg gk)
        replace H3 := Lib.hid (H3.out rfl)
        replace H4 := Lib.hid (H4.out rfl)
        obtain ⟨mm, hmm⟩ : ∃ mm, withV ra v1 v2 = mm := ⟨_, rfl⟩
        rw [hmm] at hchk hone hR h5
        replace hmm := Lib.hid hmm
        clear H2 H5 hrow gk wg
        unfold msgV at hchk
        by_cases hck : checkM ra = 0
        case neg =>
          have hr := Lib.hid (H3.out hck)
          have hne : (checkM ra != 0) = true := by simpa using hck
          have HC := Lib.hid hchk
          clear H3 H4 hck hchk
          generalize checkM ra = cx at *
          go_wp2_with (refine wpList_load_row rfl 30 _ rfl W0.heap.size rfl 30 (cellsB mm) (0, 0) _ h5.out.msg Tryz.underlying30 rfl (info_msgC mm) ?_)
          refine HC.out.mono ?_
          rintro e W4 ⟨rfl, hB4⟩
          have h6 := Lib.hid (h5.out.go hB4)
          have hX := Lib.hid (h6.out.res.setRow noM)
          clear hB4
          go_wp2_with (refine wpList_store_row rfl 30 _ _ rfl w.heap.size (cellsB noM) rfl rfl 30 (cellsB noM) h6.out.res (by kernel_rfl) rfl (cellsB_one noM rfl rfl) ?_)
          refine bodyPost_ret (results_msg3 rfl rfl hX.out) rfl ?_
          rw [hr.out]
          exact ⟨nilS, nilS, rfl, fresh_row _ noM_fresh, below_setRow h6.out.base (Nat.le_refl _) _⟩
        case pos =>
          have hr := Lib.hid (H4.out hck)
          rw [hck] at hchk
          have HC := Lib.hid hchk
          clear H3 H4 hck hchk
          go_wp2_with (refine wpList_load_row rfl 30 _ rfl W0.heap.size rfl 30 (cellsB mm) (0, 0) _ h5.out.msg Tryz.underlying30 rfl (info_msgC mm) ?_)
          refine HC.out.mono ?_
          rintro e W4 ⟨rfl, hB4⟩
          have h6 := Lib.hid (h5.out.go hB4)
          have hR6 := Lib.hid (hR.out.below hB4)
          have hX := Lib.hid (h6.out.res.setRow mm)
          clear hB4
          go_wp2_with (first
            | (refine wpList_load_row rfl 30 _ rfl W0.heap.size rfl 30 (cellsB mm) (0, 0) _ h6.out.msg Tryz.underlying30 rfl (info_msgC mm) ?_)
            | (refine wpList_store_row rfl 30 _ _ rfl w.heap.size (cellsB mm) rfl rfl 30 (cellsB noM) h6.out.res (info_msgC mm) rfl hone.out ?_))
          refine bodyPost_ret (results_msg3 rfl rfl hX.out) rfl ?_
          rw [hr.out]
          refine ⟨v1, v2, ?_, ?_, below_setRow h6.out.base (Nat.le_refl _) _⟩
          · dsimp only; rw [hmm.out]; rfl
          · dsimp only; rw [hmm.out]
            have := hg0.out
            exact RowA.to (hR6.out.mono (by omega)) (Nat.le_of_eq (setRow_size _ _ _).symm) (fun j hj _ => setRow_ne (by omega))
end Go.Proofs.YtlfdmbfbfadifaaGreatDoor

namespace Go.Proofs.YtlfdmbfbfadifaaGreatDoor
open Go.RowKit

/-- The reference's Get. -/
theorem RGet_msg (l : List UInt8) (a : Int) (hl : l.length ≤ 1000000) (w : World) :
    Calls Tryz.prog 13 #[.string (mk l), .int .i64 a] w fun e W => ∃ v1 v2, e = .returned (.tuple #[msgV (withV (getW l a).1 v1 v2), .int .i64 (getW l a).2.1, .int .i64 (getW l a).2.2]) ∧ RowA (w.heap.size + 1) W (withV (getW l a).1 v1 v2) ∧ Below w.heap.size w W := by
  by_cases hb : (bodyR l a).2.2 = 0
  case neg => exact RGet_bad l a hl hb w
  case pos =>
    by_cases he : (getR l a 4).2.2 = 0
    case neg => rw [bodyR_err he] at hb; exact absurd hb he
    case pos =>
      obtain ⟨a0, a1, hnx, n0, n1⟩ := getR_at he
      by_cases g1 : 8192 < (getR l a 4).1
      · rw [bodyR_long he g1] at hb; exact absurd hb (by decide)
      by_cases g2 : (getR l a 4).1 < 7
      · rw [bodyR_form he g1 g2] at hb; exact absurd hb (by decide)
      by_cases g3 : (l.length : Int) - a < (getR l a 4).1
      · rw [bodyR_short he g1 g2 g3] at hb; exact absurd hb (by decide)
      have hB := bodyR_ok he g1 g2 g3
      have h1 := fun h => getW_form (l := l) (a := a) hb h
      have h2 := fun h h' => getW_check (l := l) (a := a) hb h h'
      have h3 := fun h h' => getW_ok (l := l) (a := a) hb h h'
      have hlen := (bodyR_len hb).1
      have hlen2 := (bodyR_len hb).2
      rw [hB] at h1 h2 h3 hlen hlen2
      dsimp only at h1 h2 h3 hlen hlen2
      obtain ⟨ka, rfl⟩ := Int.eq_ofNat_of_zero_le a0
      rcases hgr : getR l (ka : Int) 4 with ⟨n, nx, er⟩
      rw [hgr] at he hnx n0 g1 g2 g3 h1 h2 h3 hlen hlen2
      dsimp only at he hnx n0 g1 g2 g3 h1 h2 h3 hlen hlen2
      subst he hnx
      obtain ⟨kn, rfl⟩ := Int.eq_ofNat_of_zero_le n0
      obtain ⟨e1, e2⟩ := all_eqv hlen
      refine RGet_good l _ ka kn hl hgr (by omega) (by omega) (by omega) (by rfl) _ (fun h => h1 (e1 ▸ h)) (fun h h' => ?_) (fun h h' => ?_) (fun h => ?_) w
      · rw [e1] at h; rw [e2 h] at h' ⊢; exact h2 h h'
      · rw [e1] at h; rw [e2 h] at h' ⊢; exact h3 h h'
      · rw [e1] at h; rw [e2 h]; exact rdAll_in (Nat.le_trans hlen2 (by decide))
end Go.Proofs.YtlfdmbfbfadifaaGreatDoor
