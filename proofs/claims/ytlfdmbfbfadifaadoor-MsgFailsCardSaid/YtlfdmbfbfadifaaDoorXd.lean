/-
  Walks: MsgAnswers.
-/
import Derived.Test.YtlfdmbfbfadifaaDoorXb
import Derived.Test.YtlfdmbfbfadifaaDoorXa
namespace Go.Proofs.YtlfdmbfbfadifaaDoor
open Go.RowKit

/-- Two messages in their blocks, all along. -/
def StW (w : World) (q r : MM) (W : World) : Prop := Below w.heap.size w W ∧ BlkM W w.heap.size q ∧ BlkM W (w.heap.size + 1) r
theorem StW.go {w W W' : World} {q r : MM} (h : StW w q r W) (hB : Below W.heap.size W W') : StW w q r W' := ⟨h.1.trans (hB.mono h.1.size), h.2.1.below hB h.2.1.lt, h.2.2.below hB h.2.2.lt⟩

set_option maxRecDepth 100000 in
set_option maxHeartbeats 6400000 in
theorem msgAnswers_walk (q : MM) (hmq : inM q) (r : MM) (hmr : inM r) (w : World) (hq : RowM w q) (hr : RowM w r) (g : G w) :
    Calls Tryd.prog 7 #[msgV q, msgV r] w fun e w' => e = .returned (.bool true) ∧ Below w.heap.size w w' := by
  obtain ⟨W, hW, hB, hKq, hKr⟩ := two_msgs w q r
  have hS0 : Hid (StW w q r W) := ⟨hB, hKq, hKr⟩
  have h1 := Lib.hid (fun W h => small_any q W h)
  have h2 := Lib.hid (fun W h => small_any r W h)
  have h3 := Lib.hid (fun W ha hb => Answers_any q r W ha hb hmq hmr)
  have h4 := Lib.hid (fun W ha hb => RAnswers_any q r W ha hb hmq hmr)
  have h5 := Lib.hid (fun W => Request_any q.kd W)
  have h6 := Lib.hid (fun W => Request_any r.kd W)
  have hA := Lib.hid (fun W h => awake_any W (g.below h))
  have hX := Lib.hid (fun h => answersB_req (q := q) (r := r) h)
  have hcq : Hid (∀ W, StW w q r W → W.cell? ⟨w.heap.size, 0, none⟩ = some (.int .i64 q.kd) ∧ W.cell? ⟨w.heap.size + 1, 0, none⟩ = some (.int .i64 r.kd)) := fun W h => ⟨h.2.1.cell 0, h.2.2.cell 0⟩
  replace hq := Lib.hid hq
  replace hr := Lib.hid hr
  replace hW := Lib.hid hW
  clear hB hKq hKr g hmq hmr
  unfold msgV at *
  generalize answersB q r = ab at *
  go_enter Tryd.func7, Tryd.ntmps7
  go_wp2_with (simp only [hW.out]; (refine wpList_load_row rfl 35 _ rfl w.heap.size rfl 35 (cellsB q) (0, 0) _ hS0.out.2.1 Tryd.underlying35 rfl (by kernel_rfl) ?_))
  refine (h1.out _ (hq.out.below hS0.out.1)).mono ?_
  rintro e W1 ⟨⟨s1, rfl⟩, hB1⟩
  have hS1 := Lib.hid (hS0.out.go hB1)
  clear hB1
  cases s1
  · go_wp2_with fail
    refine (hA.out _ hS1.out.1).mono ?_
    rintro e W2 ⟨rfl, hB2⟩
    have hS2 := Lib.hid (hS1.out.go hB2)
    clear hB2
    go_wp2
    go_ret
    exact ⟨rfl, hS2.out.1⟩
  go_wp2_with (refine wpList_gload_row rfl 35 _ rfl (w.heap.size + 1) rfl 35 (cellsB r) (0, 0) _ hS1.out.2.2 Tryd.underlying35 rfl (by kernel_rfl) ?_)
  refine (h2.out _ (hr.out.below hS1.out.1)).mono ?_
  rintro e W2 ⟨⟨s2, rfl⟩, hB2⟩
  have hS2 := Lib.hid (hS1.out.go hB2)
  clear hB2
  cases s2
  · go_wp2_with fail
    refine (hA.out _ hS2.out.1).mono ?_
    rintro e W3 ⟨rfl, hB3⟩
    have hS3 := Lib.hid (hS2.out.go hB3)
    clear hB3
    go_wp2
    go_ret
    exact ⟨rfl, hS3.out.1⟩
  go_wp2_with (first | (refine wpList_load_row rfl 35 _ rfl w.heap.size rfl 35 (cellsB q) (0, 0) _ hS2.out.2.1 Tryd.underlying35 rfl (by kernel_rfl) ?_) | (refine wpList_load_row rfl 35 _ rfl (w.heap.size + 1) rfl 35 (cellsB r) (0, 0) _ hS2.out.2.2 Tryd.underlying35 rfl (by kernel_rfl) ?_))
  refine (h3.out _ (hq.out.below hS2.out.1) (hr.out.below hS2.out.1)).mono ?_
  rintro e W3 ⟨rfl, hB3⟩
  have hS3 := Lib.hid (hS2.out.go hB3)
  clear hB3
  go_wp2_with (first | (refine wpList_load_row rfl 35 _ rfl w.heap.size rfl 35 (cellsB q) (0, 0) _ hS3.out.2.1 Tryd.underlying35 rfl (by kernel_rfl) ?_) | (refine wpList_load_row rfl 35 _ rfl (w.heap.size + 1) rfl 35 (cellsB r) (0, 0) _ hS3.out.2.2 Tryd.underlying35 rfl (by kernel_rfl) ?_))
  refine (h4.out _ (hq.out.below hS3.out.1) (hr.out.below hS3.out.1)).mono ?_
  rintro e W4 ⟨rfl, hB4⟩
  have hS4 := Lib.hid (hS3.out.go hB4)
  clear hB4 hS0 hS1 hS2 hS3
  obtain ⟨x0, y0⟩ := hcq.out _ hS4.out
  cases ab
  · go_wp2_with fail
    refine (hA.out _ hS4.out.1).mono ?_
    rintro e W5 ⟨rfl, hB5⟩
    have hS5 := Lib.hid (hS4.out.go hB5)
    clear hB5
    go_wp2
    go_ret
    exact ⟨rfl, hS5.out.1⟩
  · obtain ⟨k1, k2⟩ := hX.out rfl
    rw [k1] at h5
    rw [k2] at h6
    clear k1 k2 hX
    go_wp2_with fail
    refine (h5.out _).mono ?_
    rintro e w1 ⟨rfl, rfl⟩
    go_wp2_with fail
    refine (h6.out _).mono ?_
    rintro e w1 ⟨rfl, rfl⟩
    go_wp2_with fail
    refine (hA.out _ hS4.out.1).mono ?_
    rintro e W5 ⟨rfl, hB5⟩
    have hS5 := Lib.hid (hS4.out.go hB5)
    clear hB5
    go_wp2
    go_ret
    exact ⟨rfl, hS5.out.1⟩
end Go.Proofs.YtlfdmbfbfadifaaDoor
