/-
  Walks: MsgFails.
-/
import Derived.Test.YtlfdmbfbfadifaaDoorXf
import Derived.Test.YtlfdmbfbfadifaaDoorXh
namespace Go.Proofs.YtlfdmbfbfadifaaDoor
open Go.RowKit

/-- The request and the error in their blocks, all along. -/
def StF (w : World) (q f : MM) (b : Nat) (W : World) : Prop := StC w q W ∧ BlkM W b f
theorem StF.go {w W W' : World} {q f : MM} {b : Nat} (h : StF w q f b W) (hB : Below W.heap.size W W') : StF w q f b W' := ⟨h.1.go hB, h.2.below hB h.2.lt⟩
theorem StF.drew {w W : World} {q f : MM} {b : Nat} (h : StF w q f b W) : StF w q f b W.drew := ⟨h.1.drew, h.2⟩

set_option maxRecDepth 100000 in
set_option maxHeartbeats 12800000 in
theorem msgFails_walk (q : MM) (hm : inM q) (e : Int) (_he : inI e) (w : World) (hr : RowM w q) (g : G w) :
    Calls Tryd.prog 8 #[msgV q, .int .i64 e] w fun e' w' => e' = .returned (.bool true) ∧ Below w.heap.size w w' := by
  have hS0 := Lib.hid (StC.new w q)
  have h1 := Lib.hid (fun W h => small_any q W (hr.below h))
  have h2 := Lib.hid (fun W => Fail_any q e W)
  have h3 := Lib.hid (fun W => RFail_any q e W)
  have h4 := Lib.hid (fun W => RSame_fail q.tg e W)
  have h5 := Lib.hid (fun W h => CheckM_any q hm W (hr.below h) (g.below h))
  have h6 := Lib.hid (fun W => Request_any q.kd W)
  have h7 := Lib.hid (fun W h => CheckM_any (failM q.tg e) (in_fail _ _) W (row_fail _ _ _) (g.below h))
  have h8 := Lib.hid (fun W h => Answers_any q (failM q.tg e) W (hr.below h) (row_fail _ _ _) hm (in_fail _ _))
  have hA := Lib.hid (fun W h => awake_any W (g.below h))
  have hone := Lib.hid (cellsB_one (failM q.tg e) rfl rfl)
  have hld1 := Lib.hid (fun b W (h : StF w q (failM q.tg e) b W) => load_msg h.1.2)
  have hld2 := Lib.hid (fun b W (h : StF w q (failM q.tg e) b W) => load_msg h.2)
  have hok := Lib.hid (fun h hr he => (⟨check_failM (t := q.tg) (e := e) (tagB_le (checkM_parts (m := q) h).2) he, answers_fail (q := q) (t := q.tg) (e := e) hr rfl⟩ : checkM (failM q.tg e) = 0 ∧ answersB q (failM q.tg e) = true))
  clear hm _he hr g
  have hcell : Hid (∀ b W, StF w q (failM q.tg e) b W → W.cell? ⟨w.heap.size, 0, none⟩ = some (.int .i64 q.kd)) := fun b W h => h.1.2.cell 0
  unfold msgV at *
  go_enter Tryd.func8, Tryd.ntmps8
  go_wp2_with (refine wpList_load_row rfl 35 _ rfl w.heap.size rfl 35 (cellsB q) (0, 0) _ hS0.out.2 Tryd.underlying35 rfl (by kernel_rfl) ?_)
  refine (h1.out _ hS0.out.1).mono ?_
  rintro e' W1 ⟨⟨s1, rfl⟩, hB1⟩
  have hS1 := Lib.hid (hS0.out.go hB1)
  clear hB1
  cases s1
  · go_wp2_with fail
    refine (hA.out _ hS1.out.1).mono ?_
    rintro e' W9 ⟨rfl, hB9⟩
    have hS9 := Lib.hid (hS1.out.go hB9)
    clear hB9
    go_wp2
    go_ret
    exact ⟨rfl, hS9.out.1⟩
  go_wp2_with (refine wpList_load_row rfl 35 _ rfl w.heap.size rfl 35 (cellsB q) (0, 0) _ hS1.out.2 Tryd.underlying35 rfl (by kernel_rfl) ?_)
  refine (h2.out _).mono ?_
  rintro e' W2 ⟨rfl, hB2⟩
  have hS2 := hS1.out.go hB2
  obtain ⟨W3, hW3, hB3, hF3, _⟩ := ex_one W2 (failM q.tg e)
  have hS3 : Hid (StF w q (failM q.tg e) W2.heap.size W3) := ⟨hS2.go hB3, hF3⟩
  replace hW3 := Lib.hid hW3
  clear hB2 hS2 hB3 hF3 hS1 hS0
  go_wp2_with (refine wpList_store_row rfl 35 _ _ rfl W2.heap.size (cellsB (failM q.tg e)) rfl rfl 35 (cellsB noM) (heap_alloc_new W2 _) (by kernel_rfl) rfl hone.out ?_; rw [World.setRow_alloc_new, hW3.out])
  refine wp_region_held_drew (S := StF w q (failM q.tg e) W2.heap.size) (by kernel_rfl) (hS3.out.drew) (fun hHeld => ?_)
  refine takeD (i := 0) (oi := _) (d := some 15) (v := .agg (cellsB (failM q.tg e))) rfl rfl (by kernel_rfl) (by kernel_rfl) (by kernel_rfl) (fun _ _ _ h => h) (yieldsIf_load_row (by rfl) 35 _ rfl W2.heap.size rfl (cellsB (failM q.tg e)) (hld2.out _)) (by assumption) ?_
  try simp only [Act.put, List.setIfInBounds_toArray, List.set_cons_zero, List.set_cons_succ]
  refine takeD (i := 1) (oi := _) (d := some 16) (v := .agg (cellsB q)) rfl rfl (by kernel_rfl) (by kernel_rfl) (by kernel_rfl) (fun _ _ _ h => h) (yieldsIf_load_row (by rfl) 35 _ rfl w.heap.size rfl (cellsB q) (hld1.out _)) (by assumption) ?_
  try simp only [Act.put, List.setIfInBounds_toArray, List.set_cons_zero, List.set_cons_succ]
  refine takeD (i := 2) (oi := _) (d := some 17) (v := .int .i64 e) rfl rfl (by kernel_rfl) (by kernel_rfl) (by kernel_rfl) (fun _ _ _ h => h) (Or.inl ⟨by rfl, fun W hSw => by go_simp⟩) (by assumption) ?_
  try simp only [Act.put, List.setIfInBounds_toArray, List.set_cons_zero, List.set_cons_succ]
  refine wpAnyH_ready (rs := [3]) (by kernel_rfl) (by simp) ?_
  refine AllReadyH.cons (o := _) rfl (fun K hK => ?_) AllReadyH.nil
  go_simp
  refine (h3.out _).mono ?_
  rintro e' W4 ⟨rfl, hB4⟩
  refine hK.out _ _ (hHeld.go hB4) (fun hHeld => ?_)
  clear hK K
  try simp only [Act.put, List.setIfInBounds_toArray, List.set_cons_zero, List.set_cons_succ]
  refine wpAnyH_ready (rs := [4]) (by kernel_rfl) (by simp) ?_
  refine AllReadyH.cons (o := _) rfl (fun K hK => ?_) AllReadyH.nil
  go_simp
  refine (h4.out _).mono ?_
  rintro e' W5 ⟨rfl, hB5⟩
  refine hK.out _ _ (hHeld.go hB5) (fun hHeld => ?_)
  clear hK K
  try simp only [Act.put, List.setIfInBounds_toArray, List.set_cons_zero, List.set_cons_succ]
  refine takeD (i := 5) (oi := _) (d := some 20) (v := .bool false) rfl rfl (by kernel_rfl) (by kernel_rfl) (by kernel_rfl) (fun _ _ _ h => h) (Or.inl ⟨by rfl, fun W hSw => by go_simp⟩) (by assumption) ?_
  try simp only [Act.put, List.setIfInBounds_toArray, List.set_cons_zero, List.set_cons_succ]
  refine wpAnyH_done (by kernel_rfl) ?_ _
  have hS5 := Lib.hid hHeld
  clear hS3 hHeld h1 h2 h3 h4 hld1 hld2 hone hW3
  go_wp2_with (refine wpList_load_row rfl 35 _ rfl w.heap.size rfl 35 (cellsB q) (0, 0) _ hS5.out.1.2 Tryd.underlying35 rfl (by kernel_rfl) ?_)
  refine (h5.out _ hS5.out.1.1).mono ?_
  rintro e' W6 ⟨rfl, hB6⟩
  have hS6 := Lib.hid (hS5.out.go hB6)
  clear hB6 hS5
  by_cases hc : checkM q = 0
  case neg =>
    have hne : (checkM q != 0) = true := by simpa using hc
    clear hc hok
    generalize checkM q = c at *
    go_wp2_with fail
    refine (hA.out _ hS6.out.1.1).mono ?_
    rintro e' W9 ⟨rfl, hB9⟩
    have hS9 := Lib.hid (hS6.out.go hB9)
    clear hB9
    go_wp2
    go_ret
    exact ⟨rfl, hS9.out.1.1⟩
  have x0 := hcell.out _ _ hS6.out
  replace hok := Lib.hid (hok.out hc)
  have hcz : (checkM q != 0) = false := by rw [hc]; rfl
  clear hc
  generalize checkM q = c at *
  cases hq : reqB q.kd
  case false =>
    rw [hq] at h6
    clear hq hok
    go_wp2_with fail
    refine (h6.out _).mono ?_
    rintro e' w1 ⟨rfl, rfl⟩
    go_wp2_with fail
    refine (hA.out _ hS6.out.1.1).mono ?_
    rintro e' W9 ⟨rfl, hB9⟩
    have hS9 := Lib.hid (hS6.out.go hB9)
    clear hB9
    go_wp2
    go_ret
    exact ⟨rfl, hS9.out.1.1⟩
  rw [hq] at h6
  replace hok := Lib.hid (hok.out hq)
  clear hq
  by_cases he1 : e < 1
  · clear hok
    go_wp2_with fail
    refine (h6.out _).mono ?_
    rintro e' w1 ⟨rfl, rfl⟩
    go_wp2_with fail
    refine (hA.out _ hS6.out.1.1).mono ?_
    rintro e' W9 ⟨rfl, hB9⟩
    have hS9 := Lib.hid (hS6.out.go hB9)
    clear hB9
    go_wp2
    go_ret
    exact ⟨rfl, hS9.out.1.1⟩
  by_cases he2 : 59 < e
  · clear hok
    go_wp2_with fail
    refine (h6.out _).mono ?_
    rintro e' w1 ⟨rfl, rfl⟩
    go_wp2_with fail
    refine (hA.out _ hS6.out.1.1).mono ?_
    rintro e' W9 ⟨rfl, hB9⟩
    have hS9 := Lib.hid (hS6.out.go hB9)
    clear hB9
    go_wp2
    go_ret
    exact ⟨rfl, hS9.out.1.1⟩
  have d1 : decide (e < 1) = false := decide_eq_false he1
  have d2 : decide (59 < e) = false := decide_eq_false he2
  obtain ⟨o1, o2⟩ := hok.out (by omega)
  rw [o1] at h7
  rw [o2] at h8
  clear o1 o2 hok he1 he2
  go_wp2_with fail
  refine (h6.out _).mono ?_
  rintro e' w1 ⟨rfl, rfl⟩
  go_wp2_with (refine wpList_load_row rfl 35 _ rfl W2.heap.size rfl 35 (cellsB (failM q.tg e)) (0, 0) _ hS6.out.2 Tryd.underlying35 rfl (by kernel_rfl) ?_)
  refine (h7.out _ hS6.out.1.1).mono ?_
  rintro e' W7 ⟨rfl, hB7⟩
  have hS7 := Lib.hid (hS6.out.go hB7)
  clear hB7 hS6
  go_wp2_with (first | (refine wpList_gload_row rfl 35 _ rfl w.heap.size rfl 35 (cellsB q) (0, 0) _ hS7.out.1.2 Tryd.underlying35 rfl (by kernel_rfl) ?_) | (refine wpList_gload_row rfl 35 _ rfl W2.heap.size rfl 35 (cellsB (failM q.tg e)) (0, 0) _ hS7.out.2 Tryd.underlying35 rfl (by kernel_rfl) ?_))
  refine (h8.out _ hS7.out.1.1).mono ?_
  rintro e' W8 ⟨rfl, hB8⟩
  have hS8 := Lib.hid (hS7.out.go hB8)
  clear hB8 hS7
  go_wp2_with fail
  refine (hA.out _ hS8.out.1.1).mono ?_
  rintro e' W9 ⟨rfl, hB9⟩
  have hS9 := Lib.hid (hS8.out.go hB9)
  clear hB9
  go_wp2
  go_ret
  exact ⟨rfl, hS9.out.1.1⟩
end Go.Proofs.YtlfdmbfbfadifaaDoor
