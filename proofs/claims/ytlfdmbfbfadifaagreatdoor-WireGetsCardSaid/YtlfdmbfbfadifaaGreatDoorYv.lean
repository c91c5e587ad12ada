/-
  The reference's Put: its small functions.
  The reference's field: a field of a message is appended.
-/
import Derived.Test.YtlfdmbfbfadifaaGreatDoorYg
import Derived.Test.YtlfdmbfbfadifaaGreatDoorYs
import Derived.Test.YtlfdmbfbfadifaaGreatDoorSk
import Derived.Test.YtlfdmbfbfadifaaGreatDoorFe
import Derived.Test.YtlfdmbfbfadifaaGreatDoorWo
import Derived.Deep.RegionHeld3
import Derived.Deep.CutRange
namespace Go.Proofs.YtlfdmbfbfadifaaGreatDoor
open Go.RowKit

theorem qPut (n wd : Int) (hn : inI n) (w : World) :
    Calls Tryz.prog 25 #[.int .i64 n, .int .i64 wd] w fun e w' => e = .returned (.tuple #[.string (mk (putR n wd).1), .int .i64 (putR n wd).2]) ∧ Below w.heap.size w w' := St.RPutM n wd hn w
theorem qPutText (l : List UInt8) (hs : l.length ≤ maxLen) (w : World) :
    Calls Tryz.prog 75 #[.string (mk l)] w fun e w' => e = .returned (.tuple #[.string (mk (putTextR l).1), .int .i64 (putTextR l).2]) ∧ Below w.heap.size w w' := St.RPutTextM l hs w
theorem qsPut (d : DD) (hd : inD d) (hb : bigD d) (w : World) :
    Calls Tryz.prog 77 #[dirV d] w fun e w' => e = .returned (.tuple #[.string (mk (putS d).1), .int .i64 (putS d).2]) ∧ Below w.heap.size w w' := St.RPut_any d hd hb w
theorem qfText (e : Int) (he : inI e) (w : World) :
    Calls Tryz.prog 48 #[.int .i64 e] w fun x w' => x = .returned (.string (mk (Ft.textL e))) ∧ Below w.heap.size w w' := Ft.RText_any e he w

/-- What is collected: the bytes, no error. -/
def outV (s : List UInt8) : Value := .agg #[.string (mk s), .int .i64 0]
/-- Two blocks that were made at the start lie as they were. -/
theorem two_out {w w3 : World} {c1 c2 : Array Value} {t1 t2 : TypeId} (hB : Below ((w.alloc (.cells c1 t1)).alloc (.cells c2 t2)).heap.size ((w.alloc (.cells c1 t1)).alloc (.cells c2 t2)) w3) :
    w3.heap[w.heap.size]? = some (.cells c1 t1 (0, 0)) ∧ w3.heap[w.heap.size + 1]? = some (.cells c2 t2 (0, 0)) ∧ Below w.heap.size w w3 := by
  have h0 : (w.alloc (.cells c1 t1)).heap.size = w.heap.size + 1 := by simp
  have a1 := heap_alloc_new w (.cells c1 t1)
  have a2 := heap_alloc_new (w.alloc (.cells c1 t1)) (.cells c2 t2)
  rw [h0] at a2
  refine ⟨?_, ?_, ((Below.refl _ w).alloc (Nat.le_refl _) _ |>.alloc (by simp) _).trans (hB.mono (by simp; omega))⟩
  · rw [hB.block _ (by simp; omega)]; exact (Below.heap_alloc _ _ _ (by simp)).trans a1
  · rw [hB.block _ (by simp)]; exact a2

theorem set2 {W : World} {b : Nat} {T : TypeId} {x y u v : Value} (h : W.heap[b]? = some (.cells #[x, y] T (0, 0))) : ((W.setCell ⟨b, 0, none⟩ u).setCell ⟨b, 1, none⟩ v).heap[b]? = some (.cells #[u, v] T (0, 0)) := by
  simp [World.setCell, Array.getElem?_modify, h]
theorem setO {W : World} {b b' o : Nat} {x : Option Obj} {v : Value} (hb : b ≠ b') (h : W.heap[b]? = x) : (W.setCell ⟨b', o, none⟩ v).heap[b]? = x := (Below.heap_setCell _ _ _ _ hb).trans h
set_option maxHeartbeats 4000000 in
set_option maxRecDepth 100000 in
theorem Rnum (s : List UInt8) (n : Int) (wd : Nat) (w : World) (hw : 1 ≤ wd ∧ wd ≤ 8) (hi : inI n) (hn : 0 ≤ n ∧ n.toNat < 256 ^ wd) (hs : (mk s).size ≤ 900000) :
    Calls Tryz.prog 23 #[outV s, .int .i64 n, .int .i64 (wd : Int)] w fun e w' => e = .returned (outV (s ++ le wd n.toNat)) ∧ Below w.heap.size w w' := by
  have hP := fun W => qPut n wd hi W
  rw [putR_fit hw hn.1 hn.2] at hP
  have HP := Lib.hid hP
  have happ := Lib.hid (mk_app s (le wd n.toNat))
  have hz : (mk (le wd n.toNat)).size ≤ 8 := by rw [mk_len, le_len]; omega
  clear hP hn hi hw
  dsimp only at HP
  unfold outV
  generalize le wd n.toNat = L at *
  go_enter Tryz.func23, Tryz.ntmps23
  go_wp2_with fail
  refine (HP.out _).mono ?_
  rintro e w3 ⟨rfl, hb⟩
  obtain ⟨h1, h2, h3⟩ := two_out hb
  have HB := Lib.hid h3
  have x0 := (Lib.cell_of_heap h1 0).trans (show _ = some (.string (mk s)) from rfl)
  have x1 := (Lib.cell_of_heap h1 1).trans (show _ = some (.int .i64 0) from rfl)
  have f0 := Lib.frozen_of_heap h1 0
  have f1 := Lib.frozen_of_heap h1 1
  have z0 := Lib.frozen_of_heap h2 0
  have z1 := Lib.frozen_of_heap h2 1
  have y0 := (Lib.cell_of_heap h2 0).trans (show _ = some (.string ⟨#[]⟩) from rfl)
  have y1 := (Lib.cell_of_heap h2 1).trans (show _ = some (.int .i64 0) from rfl)
  have H2 := Lib.hid h2
  clear hb h1 h2 h3
  go_wp2
  refine bodyPost_ret (results_cell_row rfl _ _ (w.heap.size + 1) 56 #[.string (mk s ++ mk L), .int .i64 0] (0, 0) _ rfl (set2 (setO (by omega) (setO (by omega) H2.out))) Tryz.underlying56 rfl (by kernel_rfl)) rfl ⟨by rw [happ.out], ?_⟩
  exact (((HB.out.setCell (p := ⟨w.heap.size, 1, none⟩) (Nat.le_refl _) _).setCell (p := ⟨w.heap.size, 0, none⟩) (Nat.le_refl _) _).setCell (p := ⟨w.heap.size + 1, 0, none⟩) (Nat.le_succ _) _).setCell (p := ⟨w.heap.size + 1, 1, none⟩) (Nat.le_succ _) _
set_option maxHeartbeats 4000000 in
set_option maxRecDepth 100000 in
theorem Rtext (s t : List UInt8) (w : World) (ht : t.length < 65536) (hs : (mk s).size ≤ 900000) :
    Calls Tryz.prog 46 #[outV s, .string (mk t)] w fun e w' => e = .returned (outV (s ++ counted t)) ∧ Below w.heap.size w w' := by
  have hP := fun W => qPutText t (by unfold maxLen; omega) W
  rw [putTextR_fit ht] at hP
  have HP := Lib.hid hP
  have happ := Lib.hid (mk_app s (counted t))
  have hz : (mk (counted t)).size ≤ 65540 := by rw [mk_len, counted_len]; omega
  clear hP ht
  dsimp only at HP
  unfold outV
  generalize counted t = L at *
  go_enter Tryz.func46, Tryz.ntmps46
  go_wp2_with fail
  refine (HP.out _).mono ?_
  rintro e w3 ⟨rfl, hb⟩
  obtain ⟨h1, h2, h3⟩ := two_out hb
  have HB := Lib.hid h3
  have x0 := (Lib.cell_of_heap h1 0).trans (show _ = some (.string (mk s)) from rfl)
  have x1 := (Lib.cell_of_heap h1 1).trans (show _ = some (.int .i64 0) from rfl)
  have f0 := Lib.frozen_of_heap h1 0
  have f1 := Lib.frozen_of_heap h1 1
  have z0 := Lib.frozen_of_heap h2 0
  have z1 := Lib.frozen_of_heap h2 1
  have y0 := (Lib.cell_of_heap h2 0).trans (show _ = some (.string ⟨#[]⟩) from rfl)
  have y1 := (Lib.cell_of_heap h2 1).trans (show _ = some (.int .i64 0) from rfl)
  have H2 := Lib.hid h2
  clear hb h1 h2 h3
  go_wp2
  refine bodyPost_ret (results_cell_row rfl _ _ (w.heap.size + 1) 56 #[.string (mk s ++ mk L), .int .i64 0] (0, 0) _ rfl (set2 (setO (by omega) (setO (by omega) H2.out))) Tryz.underlying56 rfl (by kernel_rfl)) rfl ⟨by rw [happ.out], ?_⟩
  exact (((HB.out.setCell (p := ⟨w.heap.size, 1, none⟩) (Nat.le_refl _) _).setCell (p := ⟨w.heap.size, 0, none⟩) (Nat.le_refl _) _).setCell (p := ⟨w.heap.size + 1, 0, none⟩) (Nat.le_succ _) _).setCell (p := ⟨w.heap.size + 1, 1, none⟩) (Nat.le_succ _) _
theorem RnumI (s : List UInt8) (n : Int) (wd : Nat) (wi : Int) (w : World) (hwi : wi = wd) (hw : 1 ≤ wd ∧ wd ≤ 8) (hi : inI n) (hn : 0 ≤ n ∧ n.toNat < 256 ^ wd) (hs : (mk s).size ≤ 900000) :
    Calls Tryz.prog 23 #[outV s, .int .i64 n, .int .i64 wi] w fun e w' => e = .returned (outV (s ++ le wd n.toNat)) ∧ Below w.heap.size w w' := by
  subst hwi; exact Rnum s n wd w hw hi hn hs
theorem three_out (w : World) (c1 c2 c3 : Array Value) (t1 t2 t3 : TypeId) : ∃ W0, ((w.alloc (.cells c1 t1)).alloc (.cells c2 t2)).alloc (.cells c3 t3) = W0 ∧ W0.heap.size = w.heap.size + 3 ∧ Below w.heap.size w W0 ∧
    W0.heap[w.heap.size]? = some (.cells c1 t1 (0, 0)) ∧ W0.heap[w.heap.size + 1]? = some (.cells c2 t2 (0, 0)) ∧ W0.heap[w.heap.size + 2]? = some (.cells c3 t3 (0, 0)) := by
  have h0 : ((w.alloc (.cells c1 t1)).alloc (.cells c2 t2)).heap.size = w.heap.size + 2 := by simp
  obtain ⟨a1, a2, a3⟩ := two_out (Below.refl ((w.alloc (.cells c1 t1)).alloc (.cells c2 t2)).heap.size ((w.alloc (.cells c1 t1)).alloc (.cells c2 t2)))
  have b3 := heap_alloc_new ((w.alloc (.cells c1 t1)).alloc (.cells c2 t2)) (.cells c3 t3)
  rw [h0] at b3
  refine ⟨_, rfl, by simp, a3.alloc (by omega) _, (Below.heap_alloc _ _ _ (by omega)).trans a1, (Below.heap_alloc _ _ _ (by omega)).trans a2, b3⟩
/-- The cells of a qid that was boxed; of what is collected. -/
def cellsO (s : List UInt8) : Array Value := #[.string (mk s), .int .i64 0]
def cellsQ (q : QQ) : Array Value := #[.int .i64 q.t, .int .i64 q.v, .int .i64 q.p]
set_option maxHeartbeats 4000000 in
set_option maxRecDepth 100000 in
theorem Rqid (s : List UInt8) (q : QQ) (w : World) (hq : qidB q = true) (hs : (mk s).size ≤ 800000) :
    Calls Tryz.prog 47 #[outV s, .agg #[.int .i64 q.t, .int .i64 q.v, .int .i64 q.p]] w fun e w' => e = .returned (outV (s ++ encQ q)) ∧ Below w.heap.size w w' := by
  obtain ⟨⟨t1, t2⟩, ⟨v1, v2⟩, p1, p2⟩ := qidB_in hq
  have hsl := mk_len s
  have L1 := Lib.hid (fun W => RnumI s q.t 1 1 W rfl (by omega) ⟨by omega, by omega⟩ ⟨t1, by omega⟩ (by omega))
  have L2 := Lib.hid (fun W => RnumI (s ++ le 1 q.t.toNat) q.v 4 4 W rfl (by omega) ⟨by omega, by omega⟩ ⟨v1, by omega⟩ (by rw [mk_len, List.length_append, le_len]; omega))
  have L3 := Lib.hid (fun W => RnumI (s ++ le 1 q.t.toNat ++ le 4 q.v.toNat) q.p 8 8 W rfl (by omega) ⟨by omega, by omega⟩ ⟨p1, by omega⟩ (by rw [mk_len, List.length_append, List.length_append, le_len, le_len]; omega))
  have HE : Hid (s ++ le 1 q.t.toNat ++ le 4 q.v.toNat ++ le 8 q.p.toNat = s ++ encQ q) := by simp [Hid, encQ, List.append_assoc]
  obtain ⟨W0, hW0, hz, hB0, hO, hQ, hR⟩ : ∃ W0, ((w.alloc (.cells #[.string (mk s), .int .i64 0] 56)).alloc (.cells #[.int .i64 q.t, .int .i64 q.v, .int .i64 q.p] 25)).alloc (.cells #[.string ⟨#[]⟩, .int .i64 0] 56) = W0 ∧ W0.heap.size = w.heap.size + 3 ∧ Below w.heap.size w W0 ∧
      W0.heap[w.heap.size]? = some (.cells #[.string (mk s), .int .i64 0] 56 (0, 0)) ∧ W0.heap[w.heap.size + 1]? = some (.cells #[.int .i64 q.t, .int .i64 q.v, .int .i64 q.p] 25 (0, 0)) ∧ W0.heap[w.heap.size + 2]? = some (.cells #[.string ⟨#[]⟩, .int .i64 0] 56 (0, 0)) := by
    exact three_out w _ _ _ _ _ _
  have HW0 := Lib.hid hW0
  have HC : Hid (∀ W, Below W0.heap.size W0 W → W.heap[w.heap.size]? = some (.cells #[.string (mk s), .int .i64 0] 56 (0, 0)) ∧ W.heap[w.heap.size + 1]? = some (.cells #[.int .i64 q.t, .int .i64 q.v, .int .i64 q.p] 25 (0, 0)) ∧ W.heap[w.heap.size + 2]? = some (.cells #[.string ⟨#[]⟩, .int .i64 0] 56 (0, 0))) :=
    fun W h => ⟨(h.block _ (by omega)).trans hO, (h.block _ (by omega)).trans hQ, (h.block _ (by omega)).trans hR⟩
  have HB0 := Lib.hid hB0
  have HZ := Lib.hid hz
  clear hW0 hO hQ hR hB0 hz hq hs hsl t1 t2 v1 v2 p1 p2
  unfold outV at *
  generalize s ++ le 1 q.t.toNat = s1 at *
  generalize s1 ++ le 4 q.v.toNat = s2 at *
  generalize s2 ++ le 8 q.p.toNat = s3 at *
  go_enter Tryz.func47, Tryz.ntmps47
  go_upto_region 1 with fail
  simp only [HW0.out]
  have H0 := Lib.hid (below_drew (Below.refl W0.heap.size W0))
  have hkA : Hid (∀ W, Below W0.heap.size W0 W → W.cell? ⟨w.heap.size, 0, none⟩ = some (.string (mk s)) ∧ W.cell? ⟨w.heap.size, 1, none⟩ = some (.int .i64 0) ∧ W.cell? ⟨w.heap.size + 1, 0, none⟩ = some (.int .i64 q.t) ∧ W.cell? ⟨w.heap.size + 1, 1, none⟩ = some (.int .i64 q.v) ∧ W.cell? ⟨w.heap.size + 1, 2, none⟩ = some (.int .i64 q.p)) := fun W h =>
    ⟨Lib.cell_of_heap (HC.out W h).1 0, Lib.cell_of_heap (HC.out W h).1 1, Lib.cell_of_heap (HC.out W h).2.1 0, Lib.cell_of_heap (HC.out W h).2.1 1, Lib.cell_of_heap (HC.out W h).2.1 2⟩
  have hkB : Hid (∀ W, Below W0.heap.size W0 W → W.frozen? ⟨w.heap.size + 1 + 1, 0, none⟩ = false ∧ W.frozen? ⟨w.heap.size + 1 + 1, 1, none⟩ = false ∧ W.cell? ⟨w.heap.size + 1 + 1, 0, none⟩ = some (.string ⟨#[]⟩) ∧ W.cell? ⟨w.heap.size + 1 + 1, 1, none⟩ = some (.int .i64 0)) := fun W h =>
    ⟨Lib.frozen_of_heap (HC.out W h).2.2 0, Lib.frozen_of_heap (HC.out W h).2.2 1, Lib.cell_of_heap (HC.out W h).2.2 0, Lib.cell_of_heap (HC.out W h).2.2 1⟩
  have hkS : Hid (∀ W u v, Below W0.heap.size W0 W → ((W.setCell ⟨w.heap.size + 1 + 1, 0, none⟩ u).setCell ⟨w.heap.size + 1 + 1, 1, none⟩ v).cell? ⟨w.heap.size, 0, none⟩ = some (.string (mk s)) ∧ ((W.setCell ⟨w.heap.size + 1 + 1, 0, none⟩ u).setCell ⟨w.heap.size + 1 + 1, 1, none⟩ v).cell? ⟨w.heap.size, 1, none⟩ = some (.int .i64 0) ∧ ((W.setCell ⟨w.heap.size + 1 + 1, 0, none⟩ u).setCell ⟨w.heap.size + 1 + 1, 1, none⟩ v).cell? ⟨w.heap.size + 1, 0, none⟩ = some (.int .i64 q.t) ∧ ((W.setCell ⟨w.heap.size + 1 + 1, 0, none⟩ u).setCell ⟨w.heap.size + 1 + 1, 1, none⟩ v).cell? ⟨w.heap.size + 1, 1, none⟩ = some (.int .i64 q.v) ∧ ((W.setCell ⟨w.heap.size + 1 + 1, 0, none⟩ u).setCell ⟨w.heap.size + 1 + 1, 1, none⟩ v).cell? ⟨w.heap.size + 1, 2, none⟩ = some (.int .i64 q.p)) := fun W u v h =>
    ⟨Lib.cell_of_heap (setO (by omega) (setO (by omega) (HC.out W h).1)) 0, Lib.cell_of_heap (setO (by omega) (setO (by omega) (HC.out W h).1)) 1, Lib.cell_of_heap (setO (by omega) (setO (by omega) (HC.out W h).2.1)) 0, Lib.cell_of_heap (setO (by omega) (setO (by omega) (HC.out W h).2.1)) 1, Lib.cell_of_heap (setO (by omega) (setO (by omega) (HC.out W h).2.1)) 2⟩
  go_region_held3 (fun W => W.cell? ⟨w.heap.size, 0, none⟩ = some (.string (mk s)) ∧ W.cell? ⟨w.heap.size, 1, none⟩ = some (.int .i64 0) ∧ W.cell? ⟨w.heap.size + 1, 0, none⟩ = some (.int .i64 q.t) ∧ W.cell? ⟨w.heap.size + 1, 1, none⟩ = some (.int .i64 q.v) ∧ W.cell? ⟨w.heap.size + 1, 2, none⟩ = some (.int .i64 q.p)) (first | exact hkA.out _ H0.out | exact hkA.out _ H1.out | exact hkA.out _ H2.out | exact hkA.out _ H3.out | exact hkS.out _ _ _ H3.out) (first | (go_at_call 23; with_reducible refine (L1.out _).mono ?_; rintro e W1 ⟨rfl, hB⟩; have H1 := Lib.hid (H0.out.trans (hB.mono H0.out.size)); clear hB) | (go_at_call 23; with_reducible refine (L2.out _).mono ?_; rintro e W2 ⟨rfl, hB⟩; have H2 := Lib.hid (H1.out.trans (hB.mono H1.out.size)); clear hB) | (go_at_call 23; with_reducible refine (L3.out _).mono ?_; rintro e W3 ⟨rfl, hB⟩; have H3 := Lib.hid (H2.out.trans (hB.mono H2.out.size)); clear hB; have z0 := (hkB.out _ H3.out).1; have z1 := (hkB.out _ H3.out).2.1; have y0 := (hkB.out _ H3.out).2.2.1; have y1 := (hkB.out _ H3.out).2.2.2))
  clear z0 z1 y0 y1
  go_wp2
  refine bodyPost_ret (results_cell_row rfl _ _ (w.heap.size + 2) 56 #[.string (mk s3), .int .i64 0] (0, 0) _ rfl (set2 (HC.out _ H3.out).2.2) Tryz.underlying56 rfl (by kernel_rfl)) rfl ⟨by rw [HE.out], ?_⟩
  exact ((HB0.out.trans (H3.out.mono HB0.out.size)).setCell (p := ⟨w.heap.size + 1 + 1, 0, none⟩) (by show _ ≤ _ + 1 + 1; omega) _).setCell (p := ⟨w.heap.size + 1 + 1, 1, none⟩) (by show _ ≤ _ + 1 + 1; omega) _
end Go.Proofs.YtlfdmbfbfadifaaGreatDoor

namespace Go.Proofs.YtlfdmbfbfadifaaGreatDoor
open Go.RowKit

theorem three_kept {w W1 : World} {c1 c2 c3 : Array Value} {t1 t2 t3 : TypeId} (hB : Below (((w.alloc (.cells c1 t1)).alloc (.cells c2 t2)).alloc (.cells c3 t3)).heap.size (((w.alloc (.cells c1 t1)).alloc (.cells c2 t2)).alloc (.cells c3 t3)) W1) :
    W1.heap[w.heap.size + 1 + 1]? = some (.cells c3 t3 (0, 0)) ∧ Below w.heap.size w W1 := by
  obtain ⟨W0, rfl, hz, hB0, -, -, h3⟩ := three_out w c1 c2 c3 t1 t2 t3
  exact ⟨(hB.block _ (by omega)).trans h3, hB0.trans (hB.mono hB0.size)⟩
set_option maxHeartbeats 4000000 in
set_option maxRecDepth 100000 in
theorem Rf_0 (s : List UInt8) (m : MM) (w : World) (hf : 0 ≤ m.fi ∧ m.fi ≤ 4294967294) (hs : (mk s).size ≤ 700000) :
    Calls Tryz.prog 24 #[outV s, msgV m, .int .i64 8] w fun e w' => e = .returned (outV (s ++ encF m 0)) ∧ Below w.heap.size w w' := by
  have L := Lib.hid (fun W => RnumI s m.fi 4 4 W rfl (by omega) ⟨by omega, by omega⟩ ⟨by omega, by omega⟩ (by omega))
  have HE : Hid (s ++ le 4 m.fi.toNat = s ++ encF m 0) := rfl
  have x : (cellsB m)[2]? = some (.int .i64 m.fi) := rfl
  generalize s ++ le 4 m.fi.toNat = s1 at *
  have HK := Lib.hid (fun W1 hB => three_kept (w := w) (c1 := #[.string (mk s), .int .i64 0]) (c2 := cellsB m) (c3 := #[.string ⟨#[]⟩, .int .i64 0]) (t1 := 56) (t2 := 30) (t3 := 56) (W1 := W1) hB)
  generalize encF m 0 = en at *
  unfold outV msgV at *
  generalize cellsB m = ca at *
  clear hf hs
  go_enter Tryz.func24, Tryz.ntmps24
  go_wp2_with fail
  refine (L.out _).mono ?_
  rintro e W1 ⟨rfl, hB⟩
  obtain ⟨hR, hB1⟩ := HK.out W1 hB
  have HR := Lib.hid hR
  have HB := Lib.hid hB1
  have z0 := Lib.frozen_of_heap hR 0
  have z1 := Lib.frozen_of_heap hR 1
  have y0 := (Lib.cell_of_heap hR 0).trans (show _ = some (.string ⟨#[]⟩) from rfl)
  have y1 := (Lib.cell_of_heap hR 1).trans (show _ = some (.int .i64 0) from rfl)
  clear hB hR hB1
  go_wp2
  refine bodyPost_ret (results_cell_row rfl _ _ (w.heap.size + 1 + 1) 56 #[.string (mk s1), .int .i64 0] (0, 0) _ rfl (set2 HR.out) Tryz.underlying56 rfl (by kernel_rfl)) rfl ⟨by rw [HE.out], ?_⟩
  exact (HB.out.setCell (p := ⟨w.heap.size + 1 + 1, 0, none⟩) (by show _ ≤ _ + 1 + 1; omega) _).setCell (p := ⟨w.heap.size + 1 + 1, 1, none⟩) (by show _ ≤ _ + 1 + 1; omega) _

set_option maxHeartbeats 4000000 in
set_option maxRecDepth 100000 in
theorem Rf_1 (s : List UInt8) (m : MM) (w : World) (hf : 0 ≤ m.nf ∧ m.nf ≤ 4294967294) (hs : (mk s).size ≤ 700000) :
    Calls Tryz.prog 24 #[outV s, msgV m, .int .i64 11] w fun e w' => e = .returned (outV (s ++ encF m 1)) ∧ Below w.heap.size w w' := by
  have L := Lib.hid (fun W => RnumI s m.nf 4 4 W rfl (by omega) ⟨by omega, by omega⟩ ⟨by omega, by omega⟩ (by omega))
  have HE : Hid (s ++ le 4 m.nf.toNat = s ++ encF m 1) := rfl
  have x : (cellsB m)[3]? = some (.int .i64 m.nf) := rfl
  generalize s ++ le 4 m.nf.toNat = s1 at *
  have HK := Lib.hid (fun W1 hB => three_kept (w := w) (c1 := #[.string (mk s), .int .i64 0]) (c2 := cellsB m) (c3 := #[.string ⟨#[]⟩, .int .i64 0]) (t1 := 56) (t2 := 30) (t3 := 56) (W1 := W1) hB)
  generalize encF m 1 = en at *
  unfold outV msgV at *
  generalize cellsB m = ca at *
  clear hf hs
  go_enter Tryz.func24, Tryz.ntmps24
  go_wp2_with fail
  refine (L.out _).mono ?_
  rintro e W1 ⟨rfl, hB⟩
  obtain ⟨hR, hB1⟩ := HK.out W1 hB
  have HR := Lib.hid hR
  have HB := Lib.hid hB1
  have z0 := Lib.frozen_of_heap hR 0
  have z1 := Lib.frozen_of_heap hR 1
  have y0 := (Lib.cell_of_heap hR 0).trans (show _ = some (.string ⟨#[]⟩) from rfl)
  have y1 := (Lib.cell_of_heap hR 1).trans (show _ = some (.int .i64 0) from rfl)
  clear hB hR hB1
  go_wp2
  refine bodyPost_ret (results_cell_row rfl _ _ (w.heap.size + 1 + 1) 56 #[.string (mk s1), .int .i64 0] (0, 0) _ rfl (set2 HR.out) Tryz.underlying56 rfl (by kernel_rfl)) rfl ⟨by rw [HE.out], ?_⟩
  exact (HB.out.setCell (p := ⟨w.heap.size + 1 + 1, 0, none⟩) (by show _ ≤ _ + 1 + 1; omega) _).setCell (p := ⟨w.heap.size + 1 + 1, 1, none⟩) (by show _ ≤ _ + 1 + 1; omega) _

set_option maxHeartbeats 4000000 in
set_option maxRecDepth 100000 in
theorem Rf_2 (s : List UInt8) (m : MM) (w : World) (hf : 0 ≤ m.af ∧ m.af ≤ 4294967295) (hs : (mk s).size ≤ 700000) :
    Calls Tryz.prog 24 #[outV s, msgV m, .int .i64 4] w fun e w' => e = .returned (outV (s ++ encF m 2)) ∧ Below w.heap.size w w' := by
  have L := Lib.hid (fun W => RnumI s m.af 4 4 W rfl (by omega) ⟨by omega, by omega⟩ ⟨by omega, by omega⟩ (by omega))
  have HE : Hid (s ++ le 4 m.af.toNat = s ++ encF m 2) := rfl
  have x : (cellsB m)[4]? = some (.int .i64 m.af) := rfl
  generalize s ++ le 4 m.af.toNat = s1 at *
  have HK := Lib.hid (fun W1 hB => three_kept (w := w) (c1 := #[.string (mk s), .int .i64 0]) (c2 := cellsB m) (c3 := #[.string ⟨#[]⟩, .int .i64 0]) (t1 := 56) (t2 := 30) (t3 := 56) (W1 := W1) hB)
  generalize encF m 2 = en at *
  unfold outV msgV at *
  generalize cellsB m = ca at *
  clear hf hs
  go_enter Tryz.func24, Tryz.ntmps24
  go_wp2_with fail
  refine (L.out _).mono ?_
  rintro e W1 ⟨rfl, hB⟩
  obtain ⟨hR, hB1⟩ := HK.out W1 hB
  have HR := Lib.hid hR
  have HB := Lib.hid hB1
  have z0 := Lib.frozen_of_heap hR 0
  have z1 := Lib.frozen_of_heap hR 1
  have y0 := (Lib.cell_of_heap hR 0).trans (show _ = some (.string ⟨#[]⟩) from rfl)
  have y1 := (Lib.cell_of_heap hR 1).trans (show _ = some (.int .i64 0) from rfl)
  clear hB hR hB1
  go_wp2
  refine bodyPost_ret (results_cell_row rfl _ _ (w.heap.size + 1 + 1) 56 #[.string (mk s1), .int .i64 0] (0, 0) _ rfl (set2 HR.out) Tryz.underlying56 rfl (by kernel_rfl)) rfl ⟨by rw [HE.out], ?_⟩
  exact (HB.out.setCell (p := ⟨w.heap.size + 1 + 1, 0, none⟩) (by show _ ≤ _ + 1 + 1; omega) _).setCell (p := ⟨w.heap.size + 1 + 1, 1, none⟩) (by show _ ≤ _ + 1 + 1; omega) _

set_option maxHeartbeats 4000000 in
set_option maxRecDepth 100000 in
theorem Rf_3 (s : List UInt8) (m : MM) (w : World) (hf : 0 ≤ m.ot ∧ m.ot ≤ 65534) (hs : (mk s).size ≤ 700000) :
    Calls Tryz.prog 24 #[outV s, msgV m, .int .i64 10] w fun e w' => e = .returned (outV (s ++ encF m 3)) ∧ Below w.heap.size w w' := by
  have L := Lib.hid (fun W => RnumI s m.ot 2 2 W rfl (by omega) ⟨by omega, by omega⟩ ⟨by omega, by omega⟩ (by omega))
  have HE : Hid (s ++ le 2 m.ot.toNat = s ++ encF m 3) := rfl
  have x : (cellsB m)[5]? = some (.int .i64 m.ot) := rfl
  generalize s ++ le 2 m.ot.toNat = s1 at *
  have HK := Lib.hid (fun W1 hB => three_kept (w := w) (c1 := #[.string (mk s), .int .i64 0]) (c2 := cellsB m) (c3 := #[.string ⟨#[]⟩, .int .i64 0]) (t1 := 56) (t2 := 30) (t3 := 56) (W1 := W1) hB)
  generalize encF m 3 = en at *
  unfold outV msgV at *
  generalize cellsB m = ca at *
  clear hf hs
  go_enter Tryz.func24, Tryz.ntmps24
  go_wp2_with fail
  refine (L.out _).mono ?_
  rintro e W1 ⟨rfl, hB⟩
  obtain ⟨hR, hB1⟩ := HK.out W1 hB
  have HR := Lib.hid hR
  have HB := Lib.hid hB1
  have z0 := Lib.frozen_of_heap hR 0
  have z1 := Lib.frozen_of_heap hR 1
  have y0 := (Lib.cell_of_heap hR 0).trans (show _ = some (.string ⟨#[]⟩) from rfl)
  have y1 := (Lib.cell_of_heap hR 1).trans (show _ = some (.int .i64 0) from rfl)
  clear hB hR hB1
  go_wp2
  refine bodyPost_ret (results_cell_row rfl _ _ (w.heap.size + 1 + 1) 56 #[.string (mk s1), .int .i64 0] (0, 0) _ rfl (set2 HR.out) Tryz.underlying56 rfl (by kernel_rfl)) rfl ⟨by rw [HE.out], ?_⟩
  exact (HB.out.setCell (p := ⟨w.heap.size + 1 + 1, 0, none⟩) (by show _ ≤ _ + 1 + 1; omega) _).setCell (p := ⟨w.heap.size + 1 + 1, 1, none⟩) (by show _ ≤ _ + 1 + 1; omega) _

set_option maxHeartbeats 4000000 in
set_option maxRecDepth 100000 in
theorem Rf_4 (s : List UInt8) (m : MM) (w : World) (hf : 0 ≤ m.ms ∧ m.ms ≤ 4294967295) (hs : (mk s).size ≤ 700000) :
    Calls Tryz.prog 24 #[outV s, msgV m, .int .i64 1] w fun e w' => e = .returned (outV (s ++ encF m 4)) ∧ Below w.heap.size w w' := by
  have L := Lib.hid (fun W => RnumI s m.ms 4 4 W rfl (by omega) ⟨by omega, by omega⟩ ⟨by omega, by omega⟩ (by omega))
  have HE : Hid (s ++ le 4 m.ms.toNat = s ++ encF m 4) := rfl
  have x : (cellsB m)[6]? = some (.int .i64 m.ms) := rfl
  generalize s ++ le 4 m.ms.toNat = s1 at *
  have HK := Lib.hid (fun W1 hB => three_kept (w := w) (c1 := #[.string (mk s), .int .i64 0]) (c2 := cellsB m) (c3 := #[.string ⟨#[]⟩, .int .i64 0]) (t1 := 56) (t2 := 30) (t3 := 56) (W1 := W1) hB)
  generalize encF m 4 = en at *
  unfold outV msgV at *
  generalize cellsB m = ca at *
  clear hf hs
  go_enter Tryz.func24, Tryz.ntmps24
  go_wp2_with fail
  refine (L.out _).mono ?_
  rintro e W1 ⟨rfl, hB⟩
  obtain ⟨hR, hB1⟩ := HK.out W1 hB
  have HR := Lib.hid hR
  have HB := Lib.hid hB1
  have z0 := Lib.frozen_of_heap hR 0
  have z1 := Lib.frozen_of_heap hR 1
  have y0 := (Lib.cell_of_heap hR 0).trans (show _ = some (.string ⟨#[]⟩) from rfl)
  have y1 := (Lib.cell_of_heap hR 1).trans (show _ = some (.int .i64 0) from rfl)
  clear hB hR hB1
  go_wp2
  refine bodyPost_ret (results_cell_row rfl _ _ (w.heap.size + 1 + 1) 56 #[.string (mk s1), .int .i64 0] (0, 0) _ rfl (set2 HR.out) Tryz.underlying56 rfl (by kernel_rfl)) rfl ⟨by rw [HE.out], ?_⟩
  exact (HB.out.setCell (p := ⟨w.heap.size + 1 + 1, 0, none⟩) (by show _ ≤ _ + 1 + 1; omega) _).setCell (p := ⟨w.heap.size + 1 + 1, 1, none⟩) (by show _ ≤ _ + 1 + 1; omega) _

set_option maxHeartbeats 4000000 in
set_option maxRecDepth 100000 in
theorem Rf_5 (s : List UInt8) (m : MM) (w : World) (hf : m.ve.length ≤ 64) (hs : (mk s).size ≤ 700000) :
    Calls Tryz.prog 24 #[outV s, msgV m, .int .i64 2] w fun e w' => e = .returned (outV (s ++ encF m 5)) ∧ Below w.heap.size w w' := by
  have L := Lib.hid (fun W => Rtext s m.ve W (by omega) (by omega))
  have HE : Hid (s ++ counted m.ve = s ++ encF m 5) := rfl
  have x : (cellsB m)[7]? = some (.string (mk m.ve)) := rfl
  generalize s ++ counted m.ve = s1 at *
  have HK := Lib.hid (fun W1 hB => three_kept (w := w) (c1 := #[.string (mk s), .int .i64 0]) (c2 := cellsB m) (c3 := #[.string ⟨#[]⟩, .int .i64 0]) (t1 := 56) (t2 := 30) (t3 := 56) (W1 := W1) hB)
  generalize encF m 5 = en at *
  unfold outV msgV at *
  generalize cellsB m = ca at *
  clear hf hs
  go_enter Tryz.func24, Tryz.ntmps24
  go_wp2_with fail
  refine (L.out _).mono ?_
  rintro e W1 ⟨rfl, hB⟩
  obtain ⟨hR, hB1⟩ := HK.out W1 hB
  have HR := Lib.hid hR
  have HB := Lib.hid hB1
  have z0 := Lib.frozen_of_heap hR 0
  have z1 := Lib.frozen_of_heap hR 1
  have y0 := (Lib.cell_of_heap hR 0).trans (show _ = some (.string ⟨#[]⟩) from rfl)
  have y1 := (Lib.cell_of_heap hR 1).trans (show _ = some (.int .i64 0) from rfl)
  clear hB hR hB1
  go_wp2
  refine bodyPost_ret (results_cell_row rfl _ _ (w.heap.size + 1 + 1) 56 #[.string (mk s1), .int .i64 0] (0, 0) _ rfl (set2 HR.out) Tryz.underlying56 rfl (by kernel_rfl)) rfl ⟨by rw [HE.out], ?_⟩
  exact (HB.out.setCell (p := ⟨w.heap.size + 1 + 1, 0, none⟩) (by show _ ≤ _ + 1 + 1; omega) _).setCell (p := ⟨w.heap.size + 1 + 1, 1, none⟩) (by show _ ≤ _ + 1 + 1; omega) _

set_option maxHeartbeats 4000000 in
set_option maxRecDepth 100000 in
theorem Rf_6 (s : List UInt8) (m : MM) (w : World) (hf : m.us.length ≤ 32) (hs : (mk s).size ≤ 700000) :
    Calls Tryz.prog 24 #[outV s, msgV m, .int .i64 5] w fun e w' => e = .returned (outV (s ++ encF m 6)) ∧ Below w.heap.size w w' := by
  have L := Lib.hid (fun W => Rtext s m.us W (by omega) (by omega))
  have HE : Hid (s ++ counted m.us = s ++ encF m 6) := rfl
  have x : (cellsB m)[8]? = some (.string (mk m.us)) := rfl
  generalize s ++ counted m.us = s1 at *
  have HK := Lib.hid (fun W1 hB => three_kept (w := w) (c1 := #[.string (mk s), .int .i64 0]) (c2 := cellsB m) (c3 := #[.string ⟨#[]⟩, .int .i64 0]) (t1 := 56) (t2 := 30) (t3 := 56) (W1 := W1) hB)
  generalize encF m 6 = en at *
  unfold outV msgV at *
  generalize cellsB m = ca at *
  clear hf hs
  go_enter Tryz.func24, Tryz.ntmps24
  go_wp2_with fail
  refine (L.out _).mono ?_
  rintro e W1 ⟨rfl, hB⟩
  obtain ⟨hR, hB1⟩ := HK.out W1 hB
  have HR := Lib.hid hR
  have HB := Lib.hid hB1
  have z0 := Lib.frozen_of_heap hR 0
  have z1 := Lib.frozen_of_heap hR 1
  have y0 := (Lib.cell_of_heap hR 0).trans (show _ = some (.string ⟨#[]⟩) from rfl)
  have y1 := (Lib.cell_of_heap hR 1).trans (show _ = some (.int .i64 0) from rfl)
  clear hB hR hB1
  go_wp2
  refine bodyPost_ret (results_cell_row rfl _ _ (w.heap.size + 1 + 1) 56 #[.string (mk s1), .int .i64 0] (0, 0) _ rfl (set2 HR.out) Tryz.underlying56 rfl (by kernel_rfl)) rfl ⟨by rw [HE.out], ?_⟩
  exact (HB.out.setCell (p := ⟨w.heap.size + 1 + 1, 0, none⟩) (by show _ ≤ _ + 1 + 1; omega) _).setCell (p := ⟨w.heap.size + 1 + 1, 1, none⟩) (by show _ ≤ _ + 1 + 1; omega) _

set_option maxHeartbeats 4000000 in
set_option maxRecDepth 100000 in
theorem Rf_7 (s : List UInt8) (m : MM) (w : World) (hf : m.ac.length ≤ 1024) (hs : (mk s).size ≤ 700000) :
    Calls Tryz.prog 24 #[outV s, msgV m, .int .i64 6] w fun e w' => e = .returned (outV (s ++ encF m 7)) ∧ Below w.heap.size w w' := by
  have L := Lib.hid (fun W => Rtext s m.ac W (by omega) (by omega))
  have HE : Hid (s ++ counted m.ac = s ++ encF m 7) := rfl
  have x : (cellsB m)[9]? = some (.string (mk m.ac)) := rfl
  generalize s ++ counted m.ac = s1 at *
  have HK := Lib.hid (fun W1 hB => three_kept (w := w) (c1 := #[.string (mk s), .int .i64 0]) (c2 := cellsB m) (c3 := #[.string ⟨#[]⟩, .int .i64 0]) (t1 := 56) (t2 := 30) (t3 := 56) (W1 := W1) hB)
  generalize encF m 7 = en at *
  unfold outV msgV at *
  generalize cellsB m = ca at *
  clear hf hs
  go_enter Tryz.func24, Tryz.ntmps24
  go_wp2_with fail
  refine (L.out _).mono ?_
  rintro e W1 ⟨rfl, hB⟩
  obtain ⟨hR, hB1⟩ := HK.out W1 hB
  have HR := Lib.hid hR
  have HB := Lib.hid hB1
  have z0 := Lib.frozen_of_heap hR 0
  have z1 := Lib.frozen_of_heap hR 1
  have y0 := (Lib.cell_of_heap hR 0).trans (show _ = some (.string ⟨#[]⟩) from rfl)
  have y1 := (Lib.cell_of_heap hR 1).trans (show _ = some (.int .i64 0) from rfl)
  clear hB hR hB1
  go_wp2
  refine bodyPost_ret (results_cell_row rfl _ _ (w.heap.size + 1 + 1) 56 #[.string (mk s1), .int .i64 0] (0, 0) _ rfl (set2 HR.out) Tryz.underlying56 rfl (by kernel_rfl)) rfl ⟨by rw [HE.out], ?_⟩
  exact (HB.out.setCell (p := ⟨w.heap.size + 1 + 1, 0, none⟩) (by show _ ≤ _ + 1 + 1; omega) _).setCell (p := ⟨w.heap.size + 1 + 1, 1, none⟩) (by show _ ≤ _ + 1 + 1; omega) _

set_option maxHeartbeats 4000000 in
set_option maxRecDepth 100000 in
theorem Rf_10 (s : List UInt8) (m : MM) (w : World) (hf : qidB m.qd = true) (hs : (mk s).size ≤ 700000) :
    Calls Tryz.prog 24 #[outV s, msgV m, .int .i64 7] w fun e w' => e = .returned (outV (s ++ encF m 10)) ∧ Below w.heap.size w w' := by
  have L := Lib.hid (fun W => Rqid s m.qd W hf (by omega))
  have HE : Hid (s ++ encQ m.qd = s ++ encF m 10) := rfl
  have x : (cellsB m)[12]? = some (.int .i64 m.qd.t) := rfl
  have x1 : (cellsB m)[13]? = some (.int .i64 m.qd.v) := rfl
  have x2 : (cellsB m)[14]? = some (.int .i64 m.qd.p) := rfl
  generalize s ++ encQ m.qd = s1 at *
  have HK := Lib.hid (fun W1 hB => three_kept (w := w) (c1 := #[.string (mk s), .int .i64 0]) (c2 := cellsB m) (c3 := #[.string ⟨#[]⟩, .int .i64 0]) (t1 := 56) (t2 := 30) (t3 := 56) (W1 := W1) hB)
  generalize encF m 10 = en at *
  unfold outV msgV at *
  generalize cellsB m = ca at *
  clear hf hs
  go_enter Tryz.func24, Tryz.ntmps24
  go_wp2_with fail
  refine (L.out _).mono ?_
  rintro e W1 ⟨rfl, hB⟩
  obtain ⟨hR, hB1⟩ := HK.out W1 hB
  have HR := Lib.hid hR
  have HB := Lib.hid hB1
  have z0 := Lib.frozen_of_heap hR 0
  have z1 := Lib.frozen_of_heap hR 1
  have y0 := (Lib.cell_of_heap hR 0).trans (show _ = some (.string ⟨#[]⟩) from rfl)
  have y1 := (Lib.cell_of_heap hR 1).trans (show _ = some (.int .i64 0) from rfl)
  clear hB hR hB1
  go_wp2
  refine bodyPost_ret (results_cell_row rfl _ _ (w.heap.size + 1 + 1) 56 #[.string (mk s1), .int .i64 0] (0, 0) _ rfl (set2 HR.out) Tryz.underlying56 rfl (by kernel_rfl)) rfl ⟨by rw [HE.out], ?_⟩
  exact (HB.out.setCell (p := ⟨w.heap.size + 1 + 1, 0, none⟩) (by show _ ≤ _ + 1 + 1; omega) _).setCell (p := ⟨w.heap.size + 1 + 1, 1, none⟩) (by show _ ≤ _ + 1 + 1; omega) _
end Go.Proofs.YtlfdmbfbfadifaaGreatDoor
