/-
  Walks: MsgSame.
-/
import Derived.Test.YtlfdmbfbfadifaaDoorMc
import Derived.Test.YtlfdmbfbfadifaaDoorXa
import Derived.Test.YtlfdmbfbfadifaaDoorXb
import Derived.Deep.RegionHeld3
namespace Go.Proofs.YtlfdmbfbfadifaaDoor
open Go.RowKit

/-- IN A REGION THAT DRAWS: a whole struct's load may be taken first. -/
theorem yieldsIf_load_row {P : Program} {ops : Array Oper} {S : World → Prop} {op : Oper} {a : Act} (hw : Region.wanted op (yielded ops a.tmps) = true) (ty : TypeId) (x : Operand) (ho : op.op = .load ty x)
    (b : Nat) (hx : a.eval x = .pointer (some ⟨b, 0, none⟩)) (cs : Array Value) (hl : ∀ W, S W → (Instr.loadAt ty (.pointer (some ⟨b, 0, none⟩))).run P W = .ok (.agg cs) W) : YieldsIf P ops S op (.agg cs) a :=
  .inl ⟨hw, fun w hw' => by
    unfold execOp
    simp only [ho, hx, hl w hw', Sem.run_bind, Sem.run_pure, Result.andThen_ok]⟩
/-- An operation is taken first; its slot is written out. -/
theorem takeD {P : Program} {ops : Array Oper} {Q : Exit → Act → World → Prop} {md : Region.Mode} {S : World → Prop} {i : Nat} {oi : Oper} {v : Value} {d : Option Tmp} {fuel : Nat} {listed : Array Bool} {a : Act} {w : World} (hi : ops[i]? = some oi) (hd : oi.dst = d)
    (hs : Region.noSelect ops = true) (hf : Region.free md ops listed i = true) (hr : (Region.ready md ops listed).contains i = true)
    (hQ : ∀ c a w, Q (.panic c) (a.put d v) w → Q (.panic c) a w) (hy : YieldsIf P ops S oi v a) (hS : S w)
    (h : wpAnyH P md ops Q S fuel (listed.setIfInBounds i true) (a.put d v) w) : wpAnyH P md ops Q S (fuel + 1) listed a w := by
  subst hd
  exact wpAnyH_take hi hs hf hr hQ hy hS h
theorem load_msg {W : World} {b : Nat} {m : MM} (h : BlkM W b m) : (Instr.loadAt 35 (.pointer (some ⟨b, 0, none⟩))).run Tryd.prog W = .ok (.agg (cellsB m)) W := by
  have := run_loadVar_row (P := Tryd.prog) W b 35 35 (cellsB m) (0, 0) _ h Tryd.underlying35 rfl (by kernel_rfl)
  simp only [Instr.loadAt, Instr.sureAddr, Sem.run_bind, Sem.run_pure, Result.andThen_ok, this]
/-- Two messages in their blocks, all along. -/
def StW (w : World) (q r : MM) (W : World) : Prop := Below w.heap.size w W ∧ BlkM W w.heap.size q ∧ BlkM W (w.heap.size + 1) r
theorem StW.go {w W W' : World} {q r : MM} (h : StW w q r W) (hB : Below W.heap.size W W') : StW w q r W' := ⟨h.1.trans (hB.mono h.1.size), h.2.1.below hB h.2.1.lt, h.2.2.below hB h.2.2.lt⟩

theorem StW.drew {w W : World} {q r : MM} (h : StW w q r W) : StW w q r W.drew := ⟨below_drew h.1, h.2.1, h.2.2⟩
set_option maxRecDepth 100000 in
set_option maxHeartbeats 12800000 in
theorem msgSame_walk (a : MM) (_hma : inM a) (b : MM) (_hmb : inM b) (w : World) (ha : RowM w a) (hb : RowM w b) (g : G w) :
    Calls Tryd.prog 9 #[msgV a, msgV b] w fun e w' => e = .returned (.bool true) ∧ Below w.heap.size w w' := by
  obtain ⟨W, hW, hB, hKa, hKb⟩ := two_msgs w a b
  have hS0 : Hid (StW w a b W) := ⟨hB, hKa, hKb⟩
  have h1 := Lib.hid (fun W h => small_any a W (ha.below h))
  have h2 := Lib.hid (fun W h => small_any b W (hb.below h))
  have h3 := Lib.hid (fun W h => Same_any a b W (ha.below h) (hb.below h))
  have h4 := Lib.hid (fun W h => RSame_any a b W (ha.below h) (hb.below h))
  have h5 := fun W h => Same_any b a W (hb.below h) (ha.below h)
  rw [sameM_symm b a] at h5
  replace h5 := Lib.hid h5
  have h6 := fun W h => Same_any a a W (ha.below h) (ha.below h)
  rw [sameM_self] at h6
  replace h6 := Lib.hid h6
  have hA := Lib.hid (fun W h => awake_any W (g.below h))
  have hld1 := Lib.hid (fun W (h : StW w a b W) => load_msg h.2.1)
  have hld2 := Lib.hid (fun W (h : StW w a b W) => load_msg h.2.2)
  replace hW := Lib.hid hW
  clear hB hKa hKb g ha hb
  unfold msgV at *
  generalize sameM a b = s at *
  have hss : (s == s) = true := by simp
  go_enter Tryd.func9, Tryd.ntmps9
  go_wp2_with (simp only [hW.out]; (refine wpList_load_row rfl 35 _ rfl w.heap.size rfl 35 (cellsB a) (0, 0) _ hS0.out.2.1 Tryd.underlying35 rfl (by kernel_rfl) ?_))
  refine (h1.out _ hS0.out.1).mono ?_
  rintro e W1 ⟨⟨s1, rfl⟩, hB1⟩
  have hS1 := Lib.hid (hS0.out.go hB1)
  clear hB1
  cases s1
  · go_wp2_with fail
    refine (hA.out _ hS1.out.1).mono ?_
    rintro e W2 ⟨rfl, hB2⟩
    have hS2 := Lib.hid (hS1.out.go hB2)
    clear hB2
    go_wp2
    go_ret
    exact ⟨rfl, hS2.out.1⟩
  go_wp2_with (refine wpList_gload_row rfl 35 _ rfl (w.heap.size + 1) rfl 35 (cellsB b) (0, 0) _ hS1.out.2.2 Tryd.underlying35 rfl (by kernel_rfl) ?_)
  refine (h2.out _ hS1.out.1).mono ?_
  rintro e W2 ⟨⟨s2, rfl⟩, hB2⟩
  have hS2 := Lib.hid (hS1.out.go hB2)
  clear hB2
  cases s2
  · go_wp2_with fail
    refine (hA.out _ hS2.out.1).mono ?_
    rintro e W3 ⟨rfl, hB3⟩
    have hS3 := Lib.hid (hS2.out.go hB3)
    clear hB3
    go_wp2
    go_ret
    exact ⟨rfl, hS3.out.1⟩
  go_wp2
  refine wp_region_held_drew (S := StW w a b) (by kernel_rfl) (hS2.out.drew) (fun hHeld => ?_)
  refine takeD (i := 0) (oi := _) (d := some 14) (v := .agg (cellsB a)) rfl rfl (by kernel_rfl) (by kernel_rfl) (by kernel_rfl) (fun _ _ _ h => h) (yieldsIf_load_row (by rfl) 35 _ rfl w.heap.size rfl (cellsB a) hld1.out) (by assumption) ?_
  try simp only [Act.put, List.setIfInBounds_toArray, List.set_cons_zero, List.set_cons_succ]
  refine takeD (i := 1) (oi := _) (d := some 15) (v := .agg (cellsB b)) rfl rfl (by kernel_rfl) (by kernel_rfl) (by kernel_rfl) (fun _ _ _ h => h) (yieldsIf_load_row (by rfl) 35 _ rfl (w.heap.size + 1) rfl (cellsB b) hld2.out) (by assumption) ?_
  try simp only [Act.put, List.setIfInBounds_toArray, List.set_cons_zero, List.set_cons_succ]
  refine takeD (i := 3) (oi := _) (d := some 17) (v := .agg (cellsB a)) rfl rfl (by kernel_rfl) (by kernel_rfl) (by kernel_rfl) (fun _ _ _ h => h) (yieldsIf_load_row (by rfl) 35 _ rfl w.heap.size rfl (cellsB a) hld1.out) (by assumption) ?_
  try simp only [Act.put, List.setIfInBounds_toArray, List.set_cons_zero, List.set_cons_succ]
  refine takeD (i := 4) (oi := _) (d := some 18) (v := .agg (cellsB b)) rfl rfl (by kernel_rfl) (by kernel_rfl) (by kernel_rfl) (fun _ _ _ h => h) (yieldsIf_load_row (by rfl) 35 _ rfl (w.heap.size + 1) rfl (cellsB b) hld2.out) (by assumption) ?_
  try simp only [Act.put, List.setIfInBounds_toArray, List.set_cons_zero, List.set_cons_succ]
  refine wpAnyH_ready (rs := [2]) (by kernel_rfl) (by simp) ?_
  refine AllReadyH.cons (o := _) rfl (fun K hK => ?_) AllReadyH.nil
  go_simp
  refine (h3.out _ hHeld.1).mono ?_
  rintro e W4 ⟨rfl, hB4⟩
  refine hK.out _ _ (hHeld.go hB4) (fun hHeld => ?_)
  clear hK K
  try simp only [Act.put, List.setIfInBounds_toArray, List.set_cons_zero, List.set_cons_succ]
  refine wpAnyH_ready (rs := [5]) (by kernel_rfl) (by simp) ?_
  refine AllReadyH.cons (o := _) rfl (fun K hK => ?_) AllReadyH.nil
  go_simp
  refine (h4.out _ hHeld.1).mono ?_
  rintro e W5 ⟨rfl, hB5⟩
  refine hK.out _ _ (hHeld.go hB5) (fun hHeld => ?_)
  clear hK K
  try simp only [Act.put, List.setIfInBounds_toArray, List.set_cons_zero, List.set_cons_succ]
  refine takeD (i := 6) (oi := _) (d := some 20) (v := .bool true) rfl rfl (by kernel_rfl) (by kernel_rfl) (by kernel_rfl) (fun _ _ _ h => h) (Or.inl ⟨by rfl, fun W hSw => by go_simp⟩) (by assumption) ?_
  try simp only [Act.put, List.setIfInBounds_toArray, List.set_cons_zero, List.set_cons_succ]
  refine takeD (i := 7) (oi := _) (d := some 21) (v := .bool true) rfl rfl (by kernel_rfl) (by kernel_rfl) (by kernel_rfl) (fun _ _ _ h => h) (Or.inl ⟨by rfl, fun W hSw => by go_simp⟩) (by assumption) ?_
  try simp only [Act.put, List.setIfInBounds_toArray, List.set_cons_zero, List.set_cons_succ]
  refine takeD (i := 8) (oi := _) (d := some 22) (v := .agg (cellsB b)) rfl rfl (by kernel_rfl) (by kernel_rfl) (by kernel_rfl) (fun _ _ _ h => h) (yieldsIf_load_row (by rfl) 35 _ rfl (w.heap.size + 1) rfl (cellsB b) hld2.out) (by assumption) ?_
  try simp only [Act.put, List.setIfInBounds_toArray, List.set_cons_zero, List.set_cons_succ]
  refine takeD (i := 9) (oi := _) (d := some 23) (v := .agg (cellsB a)) rfl rfl (by kernel_rfl) (by kernel_rfl) (by kernel_rfl) (fun _ _ _ h => h) (yieldsIf_load_row (by rfl) 35 _ rfl w.heap.size rfl (cellsB a) hld1.out) (by assumption) ?_
  try simp only [Act.put, List.setIfInBounds_toArray, List.set_cons_zero, List.set_cons_succ]
  refine takeD (i := 11) (oi := _) (d := some 25) (v := .agg (cellsB a)) rfl rfl (by kernel_rfl) (by kernel_rfl) (by kernel_rfl) (fun _ _ _ h => h) (yieldsIf_load_row (by rfl) 35 _ rfl w.heap.size rfl (cellsB a) hld1.out) (by assumption) ?_
  try simp only [Act.put, List.setIfInBounds_toArray, List.set_cons_zero, List.set_cons_succ]
  refine takeD (i := 12) (oi := _) (d := some 26) (v := .agg (cellsB b)) rfl rfl (by kernel_rfl) (by kernel_rfl) (by kernel_rfl) (fun _ _ _ h => h) (yieldsIf_load_row (by rfl) 35 _ rfl (w.heap.size + 1) rfl (cellsB b) hld2.out) (by assumption) ?_
  try simp only [Act.put, List.setIfInBounds_toArray, List.set_cons_zero, List.set_cons_succ]
  refine wpAnyH_ready (rs := [10]) (by kernel_rfl) (by simp) ?_
  refine AllReadyH.cons (o := _) rfl (fun K hK => ?_) AllReadyH.nil
  go_simp
  refine (h5.out _ hHeld.1).mono ?_
  rintro e W6 ⟨rfl, hB6⟩
  refine hK.out _ _ (hHeld.go hB6) (fun hHeld => ?_)
  clear hK K
  try simp only [Act.put, List.setIfInBounds_toArray, List.set_cons_zero, List.set_cons_succ]
  refine wpAnyH_ready (rs := [13]) (by kernel_rfl) (by simp) ?_
  refine AllReadyH.cons (o := _) rfl (fun K hK => ?_) AllReadyH.nil
  go_simp
  refine (h4.out _ hHeld.1).mono ?_
  rintro e W7 ⟨rfl, hB7⟩
  refine hK.out _ _ (hHeld.go hB7) (fun hHeld => ?_)
  clear hK K
  try simp only [Act.put, List.setIfInBounds_toArray, List.set_cons_zero, List.set_cons_succ]
  refine takeD (i := 14) (oi := _) (d := some 28) (v := .bool true) rfl rfl (by kernel_rfl) (by kernel_rfl) (by kernel_rfl) (fun _ _ _ h => h) (Or.inl ⟨by rfl, fun W hSw => by go_simp⟩) (by assumption) ?_
  try simp only [Act.put, List.setIfInBounds_toArray, List.set_cons_zero, List.set_cons_succ]
  refine takeD (i := 15) (oi := _) (d := some 29) (v := .bool true) rfl rfl (by kernel_rfl) (by kernel_rfl) (by kernel_rfl) (fun _ _ _ h => h) (Or.inl ⟨by rfl, fun W hSw => by go_simp⟩) (by assumption) ?_
  try simp only [Act.put, List.setIfInBounds_toArray, List.set_cons_zero, List.set_cons_succ]
  refine takeD (i := 16) (oi := _) (d := some 30) (v := .bool true) rfl rfl (by kernel_rfl) (by kernel_rfl) (by kernel_rfl) (fun _ _ _ h => h) (Or.inl ⟨by rfl, fun W hSw => by go_simp⟩) (by assumption) ?_
  try simp only [Act.put, List.setIfInBounds_toArray, List.set_cons_zero, List.set_cons_succ]
  refine takeD (i := 17) (oi := _) (d := some 31) (v := .agg (cellsB a)) rfl rfl (by kernel_rfl) (by kernel_rfl) (by kernel_rfl) (fun _ _ _ h => h) (yieldsIf_load_row (by rfl) 35 _ rfl w.heap.size rfl (cellsB a) hld1.out) (by assumption) ?_
  try simp only [Act.put, List.setIfInBounds_toArray, List.set_cons_zero, List.set_cons_succ]
  refine takeD (i := 18) (oi := _) (d := some 32) (v := .agg (cellsB a)) rfl rfl (by kernel_rfl) (by kernel_rfl) (by kernel_rfl) (fun _ _ _ h => h) (yieldsIf_load_row (by rfl) 35 _ rfl w.heap.size rfl (cellsB a) hld1.out) (by assumption) ?_
  try simp only [Act.put, List.setIfInBounds_toArray, List.set_cons_zero, List.set_cons_succ]
  refine wpAnyH_ready (rs := [19]) (by kernel_rfl) (by simp) ?_
  refine AllReadyH.cons (o := _) rfl (fun K hK => ?_) AllReadyH.nil
  go_simp
  refine (h6.out _ hHeld.1).mono ?_
  rintro e W8 ⟨rfl, hB8⟩
  refine hK.out _ _ (hHeld.go hB8) (fun hHeld => ?_)
  clear hK K
  try simp only [Act.put, List.setIfInBounds_toArray, List.set_cons_zero, List.set_cons_succ]
  refine takeD (i := 20) (oi := _) (d := some 34) (v := .bool true) rfl rfl (by kernel_rfl) (by kernel_rfl) (by kernel_rfl) (fun _ _ _ h => h) (Or.inl ⟨by rfl, fun W hSw => by go_simp⟩) (by assumption) ?_
  try simp only [Act.put, List.setIfInBounds_toArray, List.set_cons_zero, List.set_cons_succ]
  refine takeD (i := 21) (oi := _) (d := some 35) (v := .bool true) rfl rfl (by kernel_rfl) (by kernel_rfl) (by kernel_rfl) (fun _ _ _ h => h) (Or.inl ⟨by rfl, fun W hSw => by go_simp⟩) (by assumption) ?_
  try simp only [Act.put, List.setIfInBounds_toArray, List.set_cons_zero, List.set_cons_succ]
  refine wpAnyH_ready (rs := [22]) (by kernel_rfl) (by simp) ?_
  refine AllReadyH.cons (o := _) rfl (fun K hK => ?_) AllReadyH.nil
  go_simp
  refine (hA.out _ hHeld.1).mono ?_
  rintro e W9 ⟨rfl, hB9⟩
  refine hK.out _ _ (hHeld.go hB9) (fun hHeld => ?_)
  clear hK K
  try simp only [Act.put, List.setIfInBounds_toArray, List.set_cons_zero, List.set_cons_succ]
  refine takeD (i := 23) (oi := _) (d := some 37) (v := .bool true) rfl rfl (by kernel_rfl) (by kernel_rfl) (by kernel_rfl) (fun _ _ _ h => h) (Or.inl ⟨by rfl, fun W hSw => by go_simp⟩) (by assumption) ?_
  try simp only [Act.put, List.setIfInBounds_toArray, List.set_cons_zero, List.set_cons_succ]
  refine takeD (i := 24) (oi := _) (d := some 4) (v := .bool true) rfl rfl (by kernel_rfl) (by kernel_rfl) (by kernel_rfl) (fun _ _ _ h => h) (Or.inl ⟨by rfl, fun W hSw => by go_simp⟩) (by assumption) ?_
  try simp only [Act.put, List.setIfInBounds_toArray, List.set_cons_zero, List.set_cons_succ]
  refine wpAnyH_done (by kernel_rfl) ?_ _
  go_wp2
  go_ret
  exact ⟨rfl, hHeld.1⟩
end Go.Proofs.YtlfdmbfbfadifaaDoor
