/-
  Walks: the fixed examples.
-/
import Derived.Test.YtlfdmbfbfadifaaDoorWz
import Derived.Deep.CutRange
namespace Go.Proofs.YtlfdmbfbfadifaaDoor
open Go.RowKit

def exV : MM := { noM with kd := 100, tg := 65535, ms := 8192, ve := [102, 115, 50, 48, 50, 54] }
def exC : MM := { noM with kd := 120, tg := 1, fi := 7 }
def exF : MM := failM 1 13
def exD : MM := { exC with co := 1 }
theorem row_nil (w : World) (m : MM) (h1 : m.nv = .slice none 0 0) (h2 : m.qv = .slice none 0 0) (h3 : m.nl = []) (h4 : m.ql = []) : RowM w m := by
  unfold RowM
  rw [h1, h2, h3, h4]
  exact ⟨SRow.nil_ w, QRow.nil_ w⟩
theorem inD_noD : inD noD := fun k hk => by
  rcases k9 hk with rfl | rfl | rfl | rfl | rfl | rfl | rfl | rfl | rfl <;> exact ⟨by decide, by decide⟩
theorem bigD_noD : bigD noD := fun k hk => by
  unfold maxLen
  rcases k4 hk with rfl | rfl | rfl | rfl <;> decide
theorem in_exV : inM exV := ⟨⟨by decide, by decide⟩, inD_noD, bigD_noD, fun k hk => absurd hk (Nat.not_lt_zero k), fun l hl => (by cases hl), by decide, by decide, by decide, by decide, by decide, by decide⟩
theorem in_exC : inM exC := ⟨⟨by decide, by decide⟩, inD_noD, bigD_noD, fun k hk => absurd hk (Nat.not_lt_zero k), fun l hl => (by cases hl), by decide, by decide, by decide, by decide, by decide, by decide⟩
theorem in_fail (t e : Int) : inM (failM t e) := ⟨show inI 0 from ⟨by decide, by decide⟩, inD_noD, bigD_noD, fun k hk => absurd hk (Nat.not_lt_zero k), fun l hl => (by cases hl), by simp [failM], by simp [failM], by simp [failM], by simp [failM], by simp [failM], by simp [failM]⟩
theorem in_exD : inM exD := ⟨⟨by decide, by decide⟩, inD_noD, bigD_noD, fun k hk => absurd hk (Nat.not_lt_zero k), fun l hl => (by cases hl), by decide, by decide, by decide, by decide, by decide, by decide⟩
theorem row_exV (w : World) : RowM w exV := row_nil w _ rfl rfl rfl rfl
theorem row_exC (w : World) : RowM w exC := row_nil w _ rfl rfl rfl rfl
theorem row_exD (w : World) : RowM w exD := row_nil w _ rfl rfl rfl rfl
theorem row_fail (w : World) (t e : Int) : RowM w (failM t e) := row_nil w _ rfl rfl rfl rfl
theorem chk_V : checkM exV = 0 := by decide +kernel
theorem chk_C : checkM exC = 0 := by decide +kernel
theorem chk_D : checkM exD = 2 := by decide +kernel
theorem ans_CF : answersB exC exF = true := by decide +kernel
theorem ans_VF : answersB exV exF = false := by decide +kernel
theorem same_CC : sameM exC exC = true := sameM_self _
theorem same_CD : sameM exC exD = false := by decide +kernel
theorem name_T : nameK 110 = [84, 87, 97, 108, 107] := by decide +kernel
theorem name_N : nameK 106 = [] := by decide +kernel

/-- A whole struct out of its block, where the operation has a guard that says yes. -/
theorem wpList_gload_row {P : Program} {ops : Array Oper} {rest : List Oper} {o : Oper} {a : Act} {w : World} {Q : Exit → Act → World → Prop} (hw : Region.wanted o (yielded ops a.tmps) = true) (ty : TypeId) (x : Operand) (ho : o.op = .load ty x)
    (g : Nat) (hx : a.eval x = .pointer (some ⟨g, 0, none⟩)) (t : TypeId) (cs : Array Value) (fr : Nat × Nat) (d : TypeDesc) (hg : w.heap[g]? = some (.cells cs t fr))
    (hu : P.underlying ty = some d) (hd : (match d with | .struct _ | .array _ _ => true | _ => false) = true) (hi : (P.info? ty).map (·.size) = some cs.size)
    (h : wpList P ops Q rest (a.put o.dst (.agg cs)) w) : wpList P ops Q (o :: rest) a w :=
  BigFrame.wpList_want hw fun _ hK => wp_load_row ty x ho g hx t cs fr d hg hu hd hi (hK _ _ h)
/-- What holds all along. -/
def StV (w W : World) : Prop := Below w.heap.size w W ∧ BlkM W w.heap.size exV ∧ BlkM W (w.heap.size + 1) exC
theorem StV.go {w W W' : World} (h : StV w W) (hB : Below W.heap.size W W') : StV w W' := ⟨h.1.trans (hB.mono h.1.size), h.2.1.below hB h.2.1.lt, h.2.2.below hB h.2.2.lt⟩
theorem ex_two (w : World) : ∃ W1 W2, w.alloc (.cells (cellsB exV) 35) = W1 ∧ W1.heap.size = w.heap.size + 1 ∧ W1.alloc (.cells (cellsB exC) 35) = W2 ∧ StV w W2 := by
  refine ⟨_, _, rfl, by simp, rfl, below2 w _ _, (BlkM.new w exV).alloc _, ?_⟩
  have h := BlkM.new (w.alloc (.cells (cellsB exV) 35)) exC
  rwa [show (w.alloc (.cells (cellsB exV) 35)).heap.size = w.heap.size + 1 by simp] at h
theorem ex_one (W : World) (m : MM) : ∃ W', W.alloc (.cells (cellsB m) 35) = W' ∧ Below W.heap.size W W' ∧ BlkM W' W.heap.size m ∧ W.heap.size < W'.heap.size :=
  ⟨_, rfl, (Below.refl _ W).alloc (Nat.le_refl _) _, BlkM.new W m, by simp⟩

set_option maxRecDepth 100000 in
set_option maxHeartbeats 12800000 in
theorem awake_any (w : World) (g : G w) :
    Calls Tryd.prog 19 #[] w fun e w' => e = .returned (.bool true) ∧ Below w.heap.size w w' := by
  obtain ⟨W1, W2, hW1, hs1, hW2, hS2⟩ := ex_two w
  have HG := Lib.hid g
  have hFail : Hid (∀ W : World, Calls Tryd.prog 27 #[.agg (cellsB exC), .int .i64 13] W fun e' w' => e' = .returned (.agg (cellsB exF)) ∧ Below W.heap.size W w') := fun W => Fail_any exC 13 W
  have hN1 := Lib.hid (fun W g => Name_any 110 ⟨by decide, by decide⟩ W g)
  have hN2 := Lib.hid (fun W g => Name_any 106 ⟨by decide, by decide⟩ W g)
  have hR1 := Lib.hid (fun W => Request_lit 116 true (by decide) W)
  have hP1 : Hid (∀ W : World, Calls Tryd.prog 17 #[.int .i64 116] W fun e w' => e = .returned (.int .i64 117) ∧ W = w') := fun W => Reply_any 116 W
  have hCV := Lib.hid (fun W g => CheckM_any exV in_exV W (row_exV W) g)
  have hCC := Lib.hid (fun W g => CheckM_any exC in_exC W (row_exC W) g)
  have hCD := Lib.hid (fun W g => CheckM_any exD in_exD W (row_exD W) g)
  have hA1 := Lib.hid (fun W => Answers_any exC exF W (row_exC W) (row_fail W 1 13) in_exC (in_fail 1 13))
  have hA2 := Lib.hid (fun W => Answers_any exV exF W (row_exV W) (row_fail W 1 13) in_exV (in_fail 1 13))
  have hE1 := Lib.hid (fun W => Same_any exC exC W (row_exC W) (row_exC W))
  have hE2 := Lib.hid (fun W => Same_any exC exD W (row_exC W) (row_exD W))
  rw [chk_V] at hCV
  rw [chk_C] at hCC
  rw [chk_D] at hCD
  rw [ans_CF] at hA1
  rw [ans_VF] at hA2
  rw [same_CC] at hE1
  rw [same_CD] at hE2
  rw [name_T] at hN1
  rw [name_N] at hN2
  have ht1 : ((mk [84, 87, 97, 108, 107]).toList == [84, 87, 97, 108, 107]) = true := by rw [mk_toList]; rfl
  have ht2 : (mk []).toList = [] := mk_toList _
  have ht3 : (mk []).toList.isEmpty = true := by rw [ht2]; rfl
  have hone := Lib.hid (fun (m : MM) h1 h2 => cellsB_one m h1 h2)
  unfold msgV at hCV hCC hCD hA1 hA2 hE1 hE2
  have hWW1 := Lib.hid hW1
  have hWW2 := Lib.hid hW2
  replace hS2 := Lib.hid hS2
  clear hW1 hW2 g
  generalize mk [84, 87, 97, 108, 107] = s1 at *
  generalize mk [] = s2 at *
  go_enter Tryd.func19, Tryd.ntmps19
  go_wp2_with (first
    | (refine wpList_store_row rfl 35 _ _ rfl w.heap.size (cellsB exV) rfl rfl 35 (cellsB noM) (heap_alloc_new w _) (by kernel_rfl) rfl (hone.out exV rfl rfl) ?_; rw [World.setRow_alloc_new, hWW1.out])
    | (refine wpList_store_row rfl 35 _ _ rfl (w.heap.size + 1) (cellsB exC) rfl rfl 35 (cellsB noM) (hs1 ▸ heap_alloc_new W1 _) (by kernel_rfl) rfl (hone.out exC rfl rfl) ?_; rw [← hs1, World.setRow_alloc_new, hWW2.out, hs1])
    | (refine wpList_load_row rfl 35 _ rfl (w.heap.size + 1) rfl 35 (cellsB exC) (0, 0) _ hS2.out.2.2 Tryd.underlying35 rfl (by kernel_rfl) ?_))
  refine (hFail.out _).mono ?_
  rintro e W3 ⟨rfl, hB3⟩
  have hS3 := hS2.out.go hB3
  obtain ⟨W4, hW4, hB4, hF4, _⟩ := ex_one W3 exF
  have hS4 := Lib.hid (hS3.go hB4)
  replace hW4 := Lib.hid hW4
  replace hF4 := Lib.hid hF4
  clear hB3 hB4 hS3 hFail
  go_wp2_with (refine wpList_store_row rfl 35 _ _ rfl W3.heap.size (cellsB exF) rfl rfl 35 (cellsB noM) (heap_alloc_new W3 _) (by kernel_rfl) rfl (hone.out exF rfl rfl) ?_; rw [World.setRow_alloc_new, hW4.out])
  refine (hN1.out _ (HG.out.below hS4.out.1)).mono ?_
  rintro e w1 ⟨rfl, rfl⟩
  go_wp2_with fail
  refine (hN2.out _ (HG.out.below hS4.out.1)).mono ?_
  rintro e w1 ⟨rfl, rfl⟩
  go_wp2_with fail
  refine (hR1.out _).mono ?_
  rintro e w1 ⟨rfl, rfl⟩
  go_wp2_with fail
  refine (hP1.out _).mono ?_
  rintro e w1 ⟨rfl, rfl⟩
  clear hN1 hN2 hR1 hP1 ht1 ht2 ht3
  go_wp2_with (refine wpList_gload_row rfl 35 _ rfl w.heap.size rfl 35 (cellsB exV) (0, 0) _ hS4.out.2.1 Tryd.underlying35 rfl (by kernel_rfl) ?_)
  refine (hCV.out _ (HG.out.below hS4.out.1)).mono ?_
  rintro e W5 ⟨rfl, hB5⟩
  have hS5 := Lib.hid (hS4.out.go hB5)
  have hF5 := Lib.hid (hF4.out.below hB5 hF4.out.lt)
  clear hB5 hCV
  go_wp2_with (refine wpList_gload_row rfl 35 _ rfl (w.heap.size + 1) rfl 35 (cellsB exC) (0, 0) _ hS5.out.2.2 Tryd.underlying35 rfl (by kernel_rfl) ?_)
  refine (hCC.out _ (HG.out.below hS5.out.1)).mono ?_
  rintro e W6 ⟨rfl, hB6⟩
  have hS6 := Lib.hid (hS5.out.go hB6)
  have hF6 := Lib.hid (hF5.out.below hB6 hF5.out.lt)
  clear hB6 hCC hF5 hS5 hF4 hS4
  obtain ⟨W7, hW7, hB7, hD7, _⟩ := ex_one W6 exC
  have hc7 : W7.cell? ⟨W6.heap.size, 20, none⟩ = some (.int .i64 0) := hD7.cell 20
  have hf7 := hD7.frozen 20
  have hD8 := Lib.hid (hD7.set (m' := exD) 20 (.int .i64 1) rfl)
  have hB8 := hB7.setCell (p := ⟨W6.heap.size, 20, none⟩) (Nat.le_refl _) (.int .i64 1)
  have hS8 := Lib.hid (hS6.out.go hB8)
  have hF8 := Lib.hid ((hF6.out.below hB7 hF6.out.lt).apart (a := ⟨W6.heap.size, 20, none⟩) (Nat.ne_of_lt hF6.out.lt) (.int .i64 1))
  replace hW7 := Lib.hid hW7
  clear hB7 hB8 hD7
  go_wp2_with (first
    | (refine wpList_load_row rfl 35 _ rfl (w.heap.size + 1) rfl 35 (cellsB exC) (0, 0) _ hS6.out.2.2 Tryd.underlying35 rfl (by kernel_rfl) ?_)
    | (refine wpList_store_row rfl 35 _ _ rfl W6.heap.size (cellsB exC) rfl rfl 35 (cellsB noM) (heap_alloc_new W6 _) (by kernel_rfl) rfl (hone.out exC rfl rfl) ?_; rw [World.setRow_alloc_new, hW7.out])
    | (refine wpList_load_row rfl 35 _ rfl W6.heap.size rfl 35 (cellsB exD) (0, 0) _ hD8.out Tryd.underlying35 rfl (by kernel_rfl) ?_))
  refine (hCD.out _ (HG.out.below hS8.out.1)).mono ?_
  rintro e W9 ⟨rfl, hB9⟩
  have hS9 := Lib.hid (hS8.out.go hB9)
  have hF9 := hF8.out.below hB9 hF8.out.lt
  have hD9 := Lib.hid (hD8.out.below hB9 hD8.out.lt)
  have xf0 : W9.cell? ⟨W3.heap.size, 0, none⟩ = some (.int .i64 107) := hF9.cell 0
  have xf1 : W9.cell? ⟨W3.heap.size, 1, none⟩ = some (.int .i64 1) := hF9.cell 1
  have xf35 : W9.cell? ⟨W3.heap.size, 35, none⟩ = some (.int .i64 13) := hF9.cell 35
  replace hF9 := Lib.hid hF9
  clear hB9 hCD hS8 hF8 hD8 hS6 hF6 hc7 hf7 hW7 hW4 hWW1 hWW2
  go_wp2_with (first
    | (refine wpList_gload_row rfl 35 _ rfl (w.heap.size + 1) rfl 35 (cellsB exC) (0, 0) _ hS9.out.2.2 Tryd.underlying35 rfl (by kernel_rfl) ?_)
    | (refine wpList_gload_row rfl 35 _ rfl W3.heap.size rfl 35 (cellsB exF) (0, 0) _ hF9.out Tryd.underlying35 rfl (by kernel_rfl) ?_))
  refine (hA1.out _).mono ?_
  rintro e W10 ⟨rfl, hB10⟩
  have hS10 := Lib.hid (hS9.out.go hB10)
  have hF10 := Lib.hid (hF9.out.below hB10 hF9.out.lt)
  have hD10 := Lib.hid (hD9.out.below hB10 hD9.out.lt)
  clear hB10 hA1 hS9 hF9 hD9 xf0 xf1 xf35
  go_wp2_with (first
    | (refine wpList_gload_row rfl 35 _ rfl w.heap.size rfl 35 (cellsB exV) (0, 0) _ hS10.out.2.1 Tryd.underlying35 rfl (by kernel_rfl) ?_)
    | (refine wpList_gload_row rfl 35 _ rfl W3.heap.size rfl 35 (cellsB exF) (0, 0) _ hF10.out Tryd.underlying35 rfl (by kernel_rfl) ?_))
  refine (hA2.out _).mono ?_
  rintro e W11 ⟨rfl, hB11⟩
  have hS11 := Lib.hid (hS10.out.go hB11)
  have hD11 := Lib.hid (hD10.out.below hB11 hD10.out.lt)
  clear hB11 hA2 hS10 hF10 hD10
  go_wp2_with (refine wpList_gload_row rfl 35 _ rfl (w.heap.size + 1) rfl 35 (cellsB exC) (0, 0) _ hS11.out.2.2 Tryd.underlying35 rfl (by kernel_rfl) ?_)
  refine (hE1.out _).mono ?_
  rintro e W12 ⟨rfl, hB12⟩
  have hS12 := Lib.hid (hS11.out.go hB12)
  have hD12 := Lib.hid (hD11.out.below hB12 hD11.out.lt)
  clear hB12 hE1 hS11 hD11
  go_wp2_with (first
    | (refine wpList_gload_row rfl 35 _ rfl (w.heap.size + 1) rfl 35 (cellsB exC) (0, 0) _ hS12.out.2.2 Tryd.underlying35 rfl (by kernel_rfl) ?_)
    | (refine wpList_gload_row rfl 35 _ rfl W6.heap.size rfl 35 (cellsB exD) (0, 0) _ hD12.out Tryd.underlying35 rfl (by kernel_rfl) ?_))
  refine (hE2.out _).mono ?_
  rintro e W13 ⟨rfl, hB13⟩
  have hS13 := Lib.hid (hS12.out.go hB13)
  clear hB13 hE2 hS12 hD12
  go_wp2
  go_ret
  exact ⟨rfl, hS13.out.1⟩
end Go.Proofs.YtlfdmbfbfadifaaDoor
