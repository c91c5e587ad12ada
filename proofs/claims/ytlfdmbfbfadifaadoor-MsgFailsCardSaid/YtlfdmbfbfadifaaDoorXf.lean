/-
  Walks: MsgChecks.
-/
import Derived.Test.YtlfdmbfbfadifaaDoorXd
import Derived.Deep.RegionHeld3
namespace Go.Proofs.YtlfdmbfbfadifaaDoor
open Go.RowKit

/-- IN A REGION THAT DRAWS: a whole struct's load may be taken first. -/
theorem yieldsIf_load_row {P : Program} {ops : Array Oper} {S : World → Prop} {op : Oper} {a : Act} (hw : Region.wanted op (yielded ops a.tmps) = true) (ty : TypeId) (x : Operand) (ho : op.op = .load ty x)
    (b : Nat) (hx : a.eval x = .pointer (some ⟨b, 0, none⟩)) (cs : Array Value) (hl : ∀ W, S W → (Instr.loadAt ty (.pointer (some ⟨b, 0, none⟩))).run P W = .ok (.agg cs) W) : YieldsIf P ops S op (.agg cs) a :=
  .inl ⟨hw, fun w hw' => by
    unfold execOp
    simp only [ho, hx, hl w hw', Sem.run_bind, Sem.run_pure, Result.andThen_ok]⟩
/-- An operation is taken first; its slot is written out. -/
theorem takeD {P : Program} {ops : Array Oper} {Q : Exit → Act → World → Prop} {md : Region.Mode} {S : World → Prop} {i : Nat} {oi : Oper} {v : Value} {d : Option Tmp} {fuel : Nat} {listed : Array Bool} {a : Act} {w : World} (hi : ops[i]? = some oi) (hd : oi.dst = d)
    (hs : Region.noSelect ops = true) (hf : Region.free md ops listed i = true) (hr : (Region.ready md ops listed).contains i = true)
    (hQ : ∀ c a w, Q (.panic c) (a.put d v) w → Q (.panic c) a w) (hy : YieldsIf P ops S oi v a) (hS : S w)
    (h : wpAnyH P md ops Q S fuel (listed.setIfInBounds i true) (a.put d v) w) : wpAnyH P md ops Q S (fuel + 1) listed a w := by
  subst hd
  exact wpAnyH_take hi hs hf hr hQ hy hS h
theorem load_msg {W : World} {b : Nat} {m : MM} (h : BlkM W b m) : (Instr.loadAt 35 (.pointer (some ⟨b, 0, none⟩))).run Tryd.prog W = .ok (.agg (cellsB m)) W := by
  have := run_loadVar_row (P := Tryd.prog) W b 35 35 (cellsB m) (0, 0) _ h Tryd.underlying35 rfl (by kernel_rfl)
  simp only [Instr.loadAt, Instr.sureAddr, Sem.run_bind, Sem.run_pure, Result.andThen_ok, this]
/-- A message in its block, all along. -/
def StC (w : World) (m : MM) (W : World) : Prop := Below w.heap.size w W ∧ BlkM W w.heap.size m
theorem StC.go {w W W' : World} {m : MM} (h : StC w m W) (hB : Below W.heap.size W W') : StC w m W' := ⟨h.1.trans (hB.mono h.1.size), h.2.below hB h.2.lt⟩
theorem StC.drew {w W : World} {m : MM} (h : StC w m W) : StC w m W.drew := ⟨below_drew h.1, h.2⟩
theorem StC.new (w : World) (m : MM) : StC w m (w.alloc (.cells (cellsB m) 35)) := ⟨(Below.refl _ w).alloc (Nat.le_refl _) _, BlkM.new w m⟩

set_option maxRecDepth 100000 in
set_option maxHeartbeats 6400000 in
theorem msgChecks_walk (m : MM) (hm : inM m) (w : World) (hr : RowM w m) (g : G w) :
    Calls Tryd.prog 5 #[msgV m] w fun e w' => e = .returned (.bool true) ∧ Below w.heap.size w w' := by
  have hS0 := Lib.hid (StC.new w m)
  have h1 := Lib.hid (fun W h => small_any m W h)
  have h2 := Lib.hid (fun W h => CheckM_any m hm W (hr.below h) (g.below h))
  have h3 := Lib.hid (fun W h => RCheckM_any m hm W (hr.below h))
  have hA := Lib.hid (fun W h => awake_any W (g.below h))
  have hld := Lib.hid (fun W (h : StC w m W) => load_msg h.2)
  replace hr := Lib.hid hr
  clear g hm
  unfold msgV at *
  generalize checkM m = c at *
  have hcc : (c == c) = true := by simp
  go_enter Tryd.func5, Tryd.ntmps5
  go_wp2_with (refine wpList_load_row rfl 35 _ rfl w.heap.size rfl 35 (cellsB m) (0, 0) _ hS0.out.2 Tryd.underlying35 rfl (by kernel_rfl) ?_)
  refine (h1.out _ (hr.out.below hS0.out.1)).mono ?_
  rintro e W1 ⟨⟨s1, rfl⟩, hB1⟩
  have hS1 := Lib.hid (hS0.out.go hB1)
  clear hB1
  cases s1
  · go_wp2_with fail
    refine (hA.out _ hS1.out.1).mono ?_
    rintro e W2 ⟨rfl, hB2⟩
    have hS2 := Lib.hid (hS1.out.go hB2)
    clear hB2
    go_wp2
    go_ret
    exact ⟨rfl, hS2.out.1⟩
  · go_wp2
    refine wp_region_held_drew (S := StC w m) (by kernel_rfl) (hS1.out.drew) (fun hHeld => ?_)
    refine takeD (i := 0) (oi := _) (d := some 7) (v := .agg (cellsB m)) rfl rfl (by kernel_rfl) (by kernel_rfl) (by kernel_rfl) (fun _ _ _ h => h) (yieldsIf_load_row (by rfl) 35 _ rfl w.heap.size rfl (cellsB m) hld.out) (by assumption) ?_
    try simp only [Act.put, List.setIfInBounds_toArray, List.set_cons_zero, List.set_cons_succ]
    refine takeD (i := 2) (oi := _) (d := some 9) (v := .agg (cellsB m)) rfl rfl (by kernel_rfl) (by kernel_rfl) (by kernel_rfl) (fun _ _ _ h => h) (yieldsIf_load_row (by rfl) 35 _ rfl w.heap.size rfl (cellsB m) hld.out) (by assumption) ?_
    try simp only [Act.put, List.setIfInBounds_toArray, List.set_cons_zero, List.set_cons_succ]
    refine wpAnyH_ready (rs := [1]) (by kernel_rfl) (by simp) ?_
    refine AllReadyH.cons (o := _) rfl (fun K hK => ?_) AllReadyH.nil
    go_simp
    refine (h2.out _ hHeld.1).mono ?_
    rintro e W2 ⟨rfl, hB2⟩
    refine hK.out _ _ (hHeld.go hB2) (fun hHeld => ?_)
    clear hK K
    try simp only [Act.put, List.setIfInBounds_toArray, List.set_cons_zero, List.set_cons_succ]
    refine wpAnyH_ready (rs := [3]) (by kernel_rfl) (by simp) ?_
    refine AllReadyH.cons (o := _) rfl (fun K hK => ?_) AllReadyH.nil
    go_simp
    refine (h3.out _ hHeld.1).mono ?_
    rintro e W3 ⟨rfl, hB3⟩
    refine hK.out _ _ (hHeld.go hB3) (fun hHeld => ?_)
    clear hK K
    try simp only [Act.put, List.setIfInBounds_toArray, List.set_cons_zero, List.set_cons_succ]
    refine takeD (i := 4) (oi := _) (d := some 11) (v := .bool true) rfl rfl (by kernel_rfl) (by kernel_rfl) (by kernel_rfl) (fun _ _ _ h => h) (Or.inl ⟨by rfl, fun W hSw => by go_simp⟩) (by assumption) ?_
    try simp only [Act.put, List.setIfInBounds_toArray, List.set_cons_zero, List.set_cons_succ]
    refine takeD (i := 5) (oi := _) (d := some 12) (v := .bool true) rfl rfl (by kernel_rfl) (by kernel_rfl) (by kernel_rfl) (fun _ _ _ h => h) (Or.inl ⟨by rfl, fun W hSw => by go_simp⟩) (by assumption) ?_
    try simp only [Act.put, List.setIfInBounds_toArray, List.set_cons_zero, List.set_cons_succ]
    refine wpAnyH_ready (rs := [6]) (by kernel_rfl) (by simp) ?_
    refine AllReadyH.cons (o := _) rfl (fun K hK => ?_) AllReadyH.nil
    go_simp
    refine (hA.out _ hHeld.1).mono ?_
    rintro e W4 ⟨rfl, hB4⟩
    refine hK.out _ _ (hHeld.go hB4) (fun hHeld => ?_)
    clear hK K
    try simp only [Act.put, List.setIfInBounds_toArray, List.set_cons_zero, List.set_cons_succ]
    refine takeD (i := 7) (oi := _) (d := some 14) (v := .bool true) rfl rfl (by kernel_rfl) (by kernel_rfl) (by kernel_rfl) (fun _ _ _ h => h) (Or.inl ⟨by rfl, fun W hSw => by go_simp⟩) (by assumption) ?_
    try simp only [Act.put, List.setIfInBounds_toArray, List.set_cons_zero, List.set_cons_succ]
    refine takeD (i := 8) (oi := _) (d := some 2) (v := .bool true) rfl rfl (by kernel_rfl) (by kernel_rfl) (by kernel_rfl) (fun _ _ _ h => h) (Or.inl ⟨by rfl, fun W hSw => by go_simp⟩) (by assumption) ?_
    try simp only [Act.put, List.setIfInBounds_toArray, List.set_cons_zero, List.set_cons_succ]
    refine wpAnyH_done (by kernel_rfl) ?_ _
    go_wp2
    go_ret
    exact ⟨rfl, hHeld.1⟩
end Go.Proofs.YtlfdmbfbfadifaaDoor
