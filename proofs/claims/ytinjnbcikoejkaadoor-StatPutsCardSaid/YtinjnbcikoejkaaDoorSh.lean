/-
  Walks: Changes.
-/
import Derived.Test.YtinjnbcikoejkaaDoorSg
import Derived.Deep.RegionHeld3
namespace Go.Proofs.YtinjnbcikoejkaaDoor
open Go.RowKit

set_option maxRecDepth 100000 in
set_option maxHeartbeats 3200000 in
theorem Changes_any (d : DD) (w : World) :
    Calls Tryd.prog 23 #[dirV d] w fun e w' => e = .returned (.bool (!(eqB d noneD))) ∧ Below w.heap.size w w' := by
  unfold dirV
  have hB0 : Below w.heap.size w (w.alloc (.cells (cellsA d) 25)) := (Below.refl _ w).alloc (Nat.le_refl _) _
  have hK0 := BlkD.new w d
  have hsz : w.heap.size < (w.alloc (.cells (cellsA d) 25)).heap.size := by simp
  have hne : ∀ W, (binOp .neq 25 (.agg #[.int .i64 d.ty, .int .i64 d.dv, .int .i64 d.qt, .int .i64 d.qv, .int .i64 d.qp, .int .i64 d.mo, .int .i64 d.ai, .int .i64 d.mi, .int .i64 d.ln, .string (mk d.nm), .string (mk d.ui), .string (mk d.gi), .string (mk d.mu)]) (dirV noneD)).run Tryd.prog W = .ok (.bool (!(eqB d noneD))) W := neq_dir d noneD
  have hgd : ∀ x y W, (eqGuard .neq 25 x y (.agg #[.int .i64 d.ty, .int .i64 d.dv, .int .i64 d.qt, .int .i64 d.qv, .int .i64 d.qp, .int .i64 d.mo, .int .i64 d.ai, .int .i64 d.mi, .int .i64 d.ln, .string (mk d.nm), .string (mk d.ui), .string (mk d.gi), .string (mk d.mu)]) (dirV noneD)).run Tryd.prog W = .ok () W := fun x y => guard_dir .neq x y d noneD
  generalize hW : w.alloc (.cells (cellsA d) 25) = W at hB0 hK0 hsz
  replace hW := Lib.hid hW
  have HB0 := Lib.hid hB0
  have HK0 := Lib.hid hK0
  go_enter Tryd.func23, Tryd.ntmps23
  go_wp2
  rw [hW.out]
  have hcs := fun (W' : World) (h : BlkD W' w.heap.size d) => cells13 h
  obtain ⟨x0, x1, x2, x3, x4, x5, x6, x7, x8, x9, x10, x11, x12⟩ := hcs W HK0.out
  replace hcs := Lib.hid hcs
  clear hB0 hK0
  go_region_held3 (fun W' => W'.cell? ⟨w.heap.size, 0, none⟩ = some (.int .i64 d.ty) ∧ W'.cell? ⟨w.heap.size, 1, none⟩ = some (.int .i64 d.dv) ∧ W'.cell? ⟨w.heap.size, 2, none⟩ = some (.int .i64 d.qt) ∧ W'.cell? ⟨w.heap.size, 3, none⟩ = some (.int .i64 d.qv) ∧ W'.cell? ⟨w.heap.size, 4, none⟩ = some (.int .i64 d.qp) ∧ W'.cell? ⟨w.heap.size, 5, none⟩ = some (.int .i64 d.mo) ∧ W'.cell? ⟨w.heap.size, 6, none⟩ = some (.int .i64 d.ai) ∧ W'.cell? ⟨w.heap.size, 7, none⟩ = some (.int .i64 d.mi) ∧ W'.cell? ⟨w.heap.size, 8, none⟩ = some (.int .i64 d.ln) ∧ W'.cell? ⟨w.heap.size, 9, none⟩ = some (.string (mk d.nm)) ∧ W'.cell? ⟨w.heap.size, 10, none⟩ = some (.string (mk d.ui)) ∧ W'.cell? ⟨w.heap.size, 11, none⟩ = some (.string (mk d.gi)) ∧ W'.cell? ⟨w.heap.size, 12, none⟩ = some (.string (mk d.mu)))
    (first | exact ⟨x0, x1, x2, x3, x4, x5, x6, x7, x8, x9, x10, x11, x12⟩ | exact hcs.out _ HK1.out)
    (first | (go_at_call 21; refine (None_any _).mono ?_; rintro e W1 ⟨rfl, hB1⟩; have HB1 := Lib.hid ((below_drew HB0.out).trans (hB1.mono (below_drew HB0.out).size)); have HK1 := Lib.hid (HK0.out.drew.below hB1 hsz)) | fail)
  go_wp2
  go_ret
  exact ⟨rfl, HB1.out⟩
end Go.Proofs.YtinjnbcikoejkaaDoor
