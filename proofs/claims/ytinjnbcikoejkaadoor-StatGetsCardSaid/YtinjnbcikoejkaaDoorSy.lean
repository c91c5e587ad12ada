/-
  Walks: StatNones.
-/
import Derived.Test.YtinjnbcikoejkaaDoorSt
namespace Go.Proofs.YtinjnbcikoejkaaDoor
open Go.RowKit

set_option maxRecDepth 100000 in
set_option maxHeartbeats 12800000 in
theorem statNones_walk (d : DD) (_hd : inD d) (_hb : bigD d) (w : World) (g : G w) :
    Calls Tryd.prog 7 #[dirV d] w fun e w' => e = .returned (.bool true) ∧ Below w.heap.size w w' := by
  unfold dirV
  have hB0 : Below w.heap.size w (w.alloc (.cells (cellsA d) 25)) := (Below.refl _ w).alloc (Nat.le_refl _) _
  have hK0 := BlkD.new w d
  have hsz : w.heap.size < (w.alloc (.cells (cellsA d) 25)).heap.size := by simp
  have hA := Lib.hid (fun W (h : Below w.heap.size w W) => awake_any W (g.below h))
  have hC := Lib.hid (fun W g => Check_any noneD (by intro k hk; rcases k9 hk with rfl | rfl | rfl | rfl | rfl | rfl | rfl | rfl | rfl <;> exact ⟨by decide, by decide⟩) (by intro k hk; rcases k4 hk with rfl | rfl | rfl | rfl <;> exact Nat.zero_le _) W g)
  rw [show checkR noneD = 0 from by decide] at hC
  have hCh : Hid (∀ W, Calls Tryd.prog 23 #[.agg #[.int .i64 d.ty, .int .i64 d.dv, .int .i64 d.qt, .int .i64 d.qv, .int .i64 d.qp, .int .i64 d.mo, .int .i64 d.ai, .int .i64 d.mi, .int .i64 d.ln, .string (mk d.nm), .string (mk d.ui), .string (mk d.gi), .string (mk d.mu)]] W fun e w' => e = .returned (.bool (!(eqB d noneD))) ∧ Below W.heap.size W w') := fun W => Changes_any d W
  have hne : ∀ W, (binOp .neq 25 (.agg #[.int .i64 d.ty, .int .i64 d.dv, .int .i64 d.qt, .int .i64 d.qv, .int .i64 d.qp, .int .i64 d.mo, .int .i64 d.ai, .int .i64 d.mi, .int .i64 d.ln, .string (mk d.nm), .string (mk d.ui), .string (mk d.gi), .string (mk d.mu)]) (dirV noneD)).run Tryd.prog W = .ok (.bool (!(eqB d noneD))) W := neq_dir d noneD
  have hgd : ∀ x y W, (eqGuard .neq 25 x y (.agg #[.int .i64 d.ty, .int .i64 d.dv, .int .i64 d.qt, .int .i64 d.qv, .int .i64 d.qp, .int .i64 d.mo, .int .i64 d.ai, .int .i64 d.mi, .int .i64 d.ln, .string (mk d.nm), .string (mk d.ui), .string (mk d.gi), .string (mk d.mu)]) (dirV noneD)).run Tryd.prog W = .ok () W := fun x y => guard_dir .neq x y d noneD
  have hee : ∀ W, (binOp .eql 25 (dirV noneD) (dirV noneD)).run Tryd.prog W = .ok (.bool true) W := fun W => by
    have h := eql_dir noneD noneD W
    rw [eqB_self] at h
    exact h
  have hge : ∀ x y W, (eqGuard .eql 25 x y (dirV noneD) (dirV noneD)).run Tryd.prog W = .ok () W := fun x y => guard_dir .eql x y noneD noneD
  generalize eqB d noneD = b at *
  have hbb : ((!b) == (!b)) = true := by simp
  have HG := Lib.hid g
  generalize hW : w.alloc (.cells (cellsA d) 25) = W at hB0 hK0 hsz
  replace hW := Lib.hid hW
  have HB0 := Lib.hid hB0
  have HK0 := Lib.hid hK0
  have hcs := Lib.hid (fun (W' : World) (h : Below W.heap.size W W') => cells13 (HK0.out.below h hsz))
  have HQ := Lib.hid (below_drew (Below.refl W.heap.size W))
  clear hB0 hK0 g
  go_enter Tryd.func7, Tryd.ntmps7
  go_wp2
  rw [hW.out]
  go_region_held3 (fun W' => W'.cell? ⟨w.heap.size, 0, none⟩ = some (.int .i64 d.ty) ∧ W'.cell? ⟨w.heap.size, 1, none⟩ = some (.int .i64 d.dv) ∧ W'.cell? ⟨w.heap.size, 2, none⟩ = some (.int .i64 d.qt) ∧ W'.cell? ⟨w.heap.size, 3, none⟩ = some (.int .i64 d.qv) ∧ W'.cell? ⟨w.heap.size, 4, none⟩ = some (.int .i64 d.qp) ∧ W'.cell? ⟨w.heap.size, 5, none⟩ = some (.int .i64 d.mo) ∧ W'.cell? ⟨w.heap.size, 6, none⟩ = some (.int .i64 d.ai) ∧ W'.cell? ⟨w.heap.size, 7, none⟩ = some (.int .i64 d.mi) ∧ W'.cell? ⟨w.heap.size, 8, none⟩ = some (.int .i64 d.ln) ∧ W'.cell? ⟨w.heap.size, 9, none⟩ = some (.string (mk d.nm)) ∧ W'.cell? ⟨w.heap.size, 10, none⟩ = some (.string (mk d.ui)) ∧ W'.cell? ⟨w.heap.size, 11, none⟩ = some (.string (mk d.gi)) ∧ W'.cell? ⟨w.heap.size, 12, none⟩ = some (.string (mk d.mu)))
    (exact hcs.out _ HQ.out)
    (first | (go_at_call 21; refine (None_any _).mono ?_; rintro e Wn ⟨rfl, hB⟩; replace HQ := Lib.hid (HQ.out.trans (hB.mono HQ.out.size)); clear hB) | (go_at_call 22; refine (RNone_any _).mono ?_; rintro e Wn ⟨rfl, hB⟩; replace HQ := Lib.hid (HQ.out.trans (hB.mono HQ.out.size)); clear hB) | (go_at_call 12; refine (hC.out _ (HG.out.below (HB0.out.trans (HQ.out.mono HB0.out.size)))).mono ?_; rintro e Wn ⟨rfl, hB⟩; replace HQ := Lib.hid (HQ.out.trans (hB.mono HQ.out.size)); clear hB) | (go_at_call 23; refine (hCh.out _).mono ?_; rintro e Wn ⟨rfl, hB⟩; replace HQ := Lib.hid (HQ.out.trans (hB.mono HQ.out.size)); clear hB) | (go_at_call 11; refine (hA.out _ (HB0.out.trans (HQ.out.mono HB0.out.size))).mono ?_; rintro e Wn ⟨rfl, hB⟩; replace HQ := Lib.hid (HQ.out.trans (hB.mono HQ.out.size)); clear hB))
  have HBQ := Lib.hid (HB0.out.trans (HQ.out.mono HB0.out.size))
  clear HQ hcs
  go_wp2
  go_ret
  exact ⟨rfl, HBQ.out⟩
end Go.Proofs.YtinjnbcikoejkaaDoor
