/-
  Walks: WirePuts.
-/
import Derived.Test.YtlfdmbfbfadifaaGreatDoorZt
import Derived.Test.YtlfdmbfbfadifaaGreatDoorZb
namespace Go.Proofs.YtlfdmbfbfadifaaGreatDoor
open Go.RowKit

/-- A message in its block, all along. -/
def StC (w : World) (m : MM) (W : World) : Prop := Below w.heap.size w W ∧ BlkM W w.heap.size m
theorem StC.go {w W W' : World} {m : MM} (h : StC w m W) (hB : Below W.heap.size W W') : StC w m W' := ⟨h.1.trans (hB.mono h.1.size), h.2.below hB h.2.lt⟩
theorem StC.drew {w W : World} {m : MM} (h : StC w m W) : StC w m W.drew := ⟨below_drew h.1, h.2⟩
theorem StC.new (w : World) (m : MM) : StC w m (w.alloc (.cells (cellsB m) 30)) := ⟨(Below.refl _ w).alloc (Nat.le_refl _) _, BlkM.new w m⟩

set_option maxRecDepth 100000 in
set_option maxHeartbeats 12800000 in
theorem wirePuts_walk (a : MM) (hma : inM a) (w : World) (ha : RowM w a) (g : G w) :
    Calls Tryz.prog 3 #[msgV a] w fun e w' => e = .returned (.bool true) ∧ Below w.heap.size w w' := by
  have hS0 := Lib.hid (StC.new w a)
  have hSm := Lib.hid (fun W (h : StC w a W) => small_any a W (ha.below h.1))
  have hP := Lib.hid (fun W (h : StC w a W) => Put_msg a hma W (ha.below h.1) (g.below h.1))
  have hQ := Lib.hid (fun W (h : StC w a W) => RPut_msg a hma W (ha.below h.1))
  have hZ := Lib.hid (fun W (h : StC w a W) => Size_msg a hma W (ha.below h.1) (g.below h.1))
  have hY := Lib.hid (fun W (h : StC w a W) => RSize_msg a hma W (ha.below h.1))
  have hA := Lib.hid (fun W (h : StC w a W) => alive_any W (g.below h.1))
  have hld := Lib.hid (fun W (h : StC w a W) => load_msg h.2)
  obtain ⟨W0, hW0⟩ : ∃ W, w.alloc (.cells (cellsB a) 30) = W := ⟨_, rfl⟩
  rw [hW0] at hS0
  replace hW0 := Lib.hid hW0
  clear ha g hma
  unfold msgV at *
  generalize (putW a).2 = er at *
  generalize ((putW a).1.length : Int) = sz at *
  generalize mk (putW a).1 = sP at *
  have e1 : (sP.toList == sP.toList) = true := by simp
  have e2 : (er == er) = true := by simp
  have e3 : (sz == sz) = true := by simp
  go_enter Tryz.func3, Tryz.ntmps3
  go_wp2_with (simp only [hW0.out]; (refine wpList_load_row rfl 30 _ rfl w.heap.size rfl 30 (cellsB a) (0, 0) _ hS0.out.2 Tryz.underlying30 rfl (by kernel_rfl) ?_))
  refine (hSm.out _ hS0.out).mono ?_
  rintro e W1 ⟨⟨s1, rfl⟩, hB1⟩
  have hS1 := Lib.hid (hS0.out.go hB1)
  clear hB1
  cases s1
  · go_wp2_with fail
    refine (hA.out _ hS1.out).mono ?_
    rintro e W2 ⟨rfl, hB2⟩
    have hS2 := Lib.hid (hS1.out.go hB2)
    clear hB2
    go_wp2
    go_ret
    exact ⟨rfl, hS2.out.1⟩
  go_wp2_with (refine wpList_load_row rfl 30 _ rfl w.heap.size rfl 30 (cellsB a) (0, 0) _ hS1.out.2 Tryz.underlying30 rfl (by kernel_rfl) ?_)
  refine (hP.out _ hS1.out).mono ?_
  rintro e W2 ⟨rfl, hB2⟩
  have hS2 := Lib.hid (hS1.out.go hB2)
  clear hB2
  go_wp2_with (refine wpList_load_row rfl 30 _ rfl w.heap.size rfl 30 (cellsB a) (0, 0) _ hS2.out.2 Tryz.underlying30 rfl (by kernel_rfl) ?_)
  refine (hQ.out _ hS2.out).mono ?_
  rintro e W3 ⟨rfl, hB3⟩
  have hS3 := Lib.hid (hS2.out.go hB3)
  clear hB3
  go_wp2
  refine wp_region_held_drew (S := StC w a) (by kernel_rfl) (hS3.out.drew) (fun hHeld => ?_)
  refine takeD (i := 0) (oi := _) (d := some 21) (v := .string sP) rfl rfl (by kernel_rfl) (by kernel_rfl) (by kernel_rfl) (fun _ _ _ h => h) (Or.inl ⟨by rfl, fun W hSw => by go_simp⟩) (by assumption) ?_
  try simp only [Act.put, List.setIfInBounds_toArray, List.set_cons_zero, List.set_cons_succ]
  refine takeD (i := 1) (oi := _) (d := some 22) (v := .string sP) rfl rfl (by kernel_rfl) (by kernel_rfl) (by kernel_rfl) (fun _ _ _ h => h) (Or.inl ⟨by rfl, fun W hSw => by go_simp⟩) (by assumption) ?_
  try simp only [Act.put, List.setIfInBounds_toArray, List.set_cons_zero, List.set_cons_succ]
  refine takeD (i := 2) (oi := _) (d := some 23) (v := .bool true) rfl rfl (by kernel_rfl) (by kernel_rfl) (by kernel_rfl) (fun _ _ _ h => h) (Or.inl ⟨by rfl, fun W hSw => by go_simp⟩) (by assumption) ?_
  try simp only [Act.put, List.setIfInBounds_toArray, List.set_cons_zero, List.set_cons_succ]
  refine takeD (i := 3) (oi := _) (d := some 24) (v := .bool true) rfl rfl (by kernel_rfl) (by kernel_rfl) (by kernel_rfl) (fun _ _ _ h => h) (Or.inl ⟨by rfl, fun W hSw => by go_simp⟩) (by assumption) ?_
  try simp only [Act.put, List.setIfInBounds_toArray, List.set_cons_zero, List.set_cons_succ]
  refine takeD (i := 4) (oi := _) (d := some 25) (v := .int .i64 er) rfl rfl (by kernel_rfl) (by kernel_rfl) (by kernel_rfl) (fun _ _ _ h => h) (Or.inl ⟨by rfl, fun W hSw => by go_simp⟩) (by assumption) ?_
  try simp only [Act.put, List.setIfInBounds_toArray, List.set_cons_zero, List.set_cons_succ]
  refine takeD (i := 5) (oi := _) (d := some 26) (v := .int .i64 er) rfl rfl (by kernel_rfl) (by kernel_rfl) (by kernel_rfl) (fun _ _ _ h => h) (Or.inl ⟨by rfl, fun W hSw => by go_simp⟩) (by assumption) ?_
  try simp only [Act.put, List.setIfInBounds_toArray, List.set_cons_zero, List.set_cons_succ]
  refine takeD (i := 6) (oi := _) (d := some 27) (v := .bool true) rfl rfl (by kernel_rfl) (by kernel_rfl) (by kernel_rfl) (fun _ _ _ h => h) (Or.inl ⟨by rfl, fun W hSw => by go_simp⟩) (by assumption) ?_
  try simp only [Act.put, List.setIfInBounds_toArray, List.set_cons_zero, List.set_cons_succ]
  refine takeD (i := 7) (oi := _) (d := some 28) (v := .bool true) rfl rfl (by kernel_rfl) (by kernel_rfl) (by kernel_rfl) (fun _ _ _ h => h) (Or.inl ⟨by rfl, fun W hSw => by go_simp⟩) (by assumption) ?_
  try simp only [Act.put, List.setIfInBounds_toArray, List.set_cons_zero, List.set_cons_succ]
  refine takeD (i := 8) (oi := _) (d := some 29) (v := .bool true) rfl rfl (by kernel_rfl) (by kernel_rfl) (by kernel_rfl) (fun _ _ _ h => h) (Or.inl ⟨by rfl, fun W hSw => by go_simp⟩) (by assumption) ?_
  try simp only [Act.put, List.setIfInBounds_toArray, List.set_cons_zero, List.set_cons_succ]
  refine takeD (i := 9) (oi := _) (d := some 30) (v := .agg (cellsB a)) rfl rfl (by kernel_rfl) (by kernel_rfl) (by kernel_rfl) (fun _ _ _ h => h) (yieldsIf_load_row (by rfl) 30 _ rfl w.heap.size rfl (cellsB a) hld.out) (by assumption) ?_
  try simp only [Act.put, List.setIfInBounds_toArray, List.set_cons_zero, List.set_cons_succ]
  refine takeD (i := 11) (oi := _) (d := some 32) (v := .agg (cellsB a)) rfl rfl (by kernel_rfl) (by kernel_rfl) (by kernel_rfl) (fun _ _ _ h => h) (yieldsIf_load_row (by rfl) 30 _ rfl w.heap.size rfl (cellsB a) hld.out) (by assumption) ?_
  try simp only [Act.put, List.setIfInBounds_toArray, List.set_cons_zero, List.set_cons_succ]
  refine wpAnyH_ready (rs := [10]) (by kernel_rfl) (by simp) ?_
  refine AllReadyH.cons (o := _) rfl (fun K hK => ?_) AllReadyH.nil
  go_simp
  refine (hZ.out _ hHeld).mono ?_
  rintro e W4 ⟨rfl, hB4⟩
  refine hK.out _ _ (hHeld.go hB4) (fun hHeld => ?_)
  clear hK K
  try simp only [Act.put, List.setIfInBounds_toArray, List.set_cons_zero, List.set_cons_succ]
  refine wpAnyH_ready (rs := [12]) (by kernel_rfl) (by simp) ?_
  refine AllReadyH.cons (o := _) rfl (fun K hK => ?_) AllReadyH.nil
  go_simp
  refine (hY.out _ hHeld).mono ?_
  rintro e W5 ⟨rfl, hB5⟩
  refine hK.out _ _ (hHeld.go hB5) (fun hHeld => ?_)
  clear hK K
  try simp only [Act.put, List.setIfInBounds_toArray, List.set_cons_zero, List.set_cons_succ]
  refine takeD (i := 13) (oi := _) (d := some 34) (v := .bool true) rfl rfl (by kernel_rfl) (by kernel_rfl) (by kernel_rfl) (fun _ _ _ h => h) (Or.inl ⟨by rfl, fun W hSw => by go_simp⟩) (by assumption) ?_
  try simp only [Act.put, List.setIfInBounds_toArray, List.set_cons_zero, List.set_cons_succ]
  refine takeD (i := 14) (oi := _) (d := some 35) (v := .bool true) rfl rfl (by kernel_rfl) (by kernel_rfl) (by kernel_rfl) (fun _ _ _ h => h) (Or.inl ⟨by rfl, fun W hSw => by go_simp⟩) (by assumption) ?_
  try simp only [Act.put, List.setIfInBounds_toArray, List.set_cons_zero, List.set_cons_succ]
  refine takeD (i := 15) (oi := _) (d := some 36) (v := .bool true) rfl rfl (by kernel_rfl) (by kernel_rfl) (by kernel_rfl) (fun _ _ _ h => h) (Or.inl ⟨by rfl, fun W hSw => by go_simp⟩) (by assumption) ?_
  try simp only [Act.put, List.setIfInBounds_toArray, List.set_cons_zero, List.set_cons_succ]
  refine wpAnyH_ready (rs := [16]) (by kernel_rfl) (by simp) ?_
  refine AllReadyH.cons (o := _) rfl (fun K hK => ?_) AllReadyH.nil
  go_simp
  refine (hA.out _ hHeld).mono ?_
  rintro e W6 ⟨rfl, hB6⟩
  refine hK.out _ _ (hHeld.go hB6) (fun hHeld => ?_)
  clear hK K
  try simp only [Act.put, List.setIfInBounds_toArray, List.set_cons_zero, List.set_cons_succ]
  refine takeD (i := 17) (oi := _) (d := some 38) (v := .bool true) rfl rfl (by kernel_rfl) (by kernel_rfl) (by kernel_rfl) (fun _ _ _ h => h) (Or.inl ⟨by rfl, fun W hSw => by go_simp⟩) (by assumption) ?_
  try simp only [Act.put, List.setIfInBounds_toArray, List.set_cons_zero, List.set_cons_succ]
  refine takeD (i := 18) (oi := _) (d := some 2) (v := .bool true) rfl rfl (by kernel_rfl) (by kernel_rfl) (by kernel_rfl) (fun _ _ _ h => h) (Or.inl ⟨by rfl, fun W hSw => by go_simp⟩) (by assumption) ?_
  try simp only [Act.put, List.setIfInBounds_toArray, List.set_cons_zero, List.set_cons_succ]
  refine wpAnyH_done (by kernel_rfl) ?_ _
  go_wp2
  go_ret
  exact ⟨rfl, hHeld.1⟩
end Go.Proofs.YtlfdmbfbfadifaaGreatDoor
