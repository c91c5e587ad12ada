/-
  Walks: Answers and Fail of both.
-/
import Derived.Test.YtlfdmbfbfadifaaDoorMr
namespace Go.Proofs.YtlfdmbfbfadifaaDoor
open Go.RowKit

theorem withinB_111 {q r : MM} (h : r.kd = 111) : withinB q r = decide (r.ql.length ≤ q.nl.length ∧ (0 < r.ql.length ∨ q.nl.length = 0)) := by unfold withinB; rw [if_pos h]
theorem withinB_117 {q r : MM} (h : r.kd = 117) : withinB q r = decide ((r.da.length : Int) ≤ q.co) := by unfold withinB; rw [if_neg (by omega), if_pos h]
theorem withinB_119 {q r : MM} (h : r.kd = 119) : withinB q r = decide (r.co ≤ (q.da.length : Int)) := by unfold withinB; rw [if_neg (by omega), if_neg (by omega), if_pos h]
theorem withinB_else {q r : MM} (h1 : r.kd ≠ 111) (h2 : r.kd ≠ 117) (h3 : r.kd ≠ 119) : withinB q r = true := by unfold withinB; rw [if_neg h1, if_neg h2, if_neg h3]
theorem below2 (w : World) (a b : Obj) : Below w.heap.size w ((w.alloc a).alloc b) := ((Below.refl _ w).alloc (Nat.le_refl _) a).alloc (by simp) b

set_option maxRecDepth 100000 in
set_option maxHeartbeats 3200000 in
theorem isWithin_any (q r : MM) (w : World) (hq : RowM w q) (hr : RowM w r) (hmq : inM q) (hmr : inM r) :
    Calls Tryd.prog 47 #[msgV q, msgV r] w fun e w' => e = .returned (.bool (withinB q r)) ∧ Below w.heap.size w w' := by
  have HB := Lib.hid (fun a b => below2 w (.cells a 35) (.cells b 35))
  have y0 : (cellsB r)[0]? = some (.int .i64 r.kd) := rfl
  unfold msgV
  by_cases h1 : r.kd = 111
  · obtain ⟨p1, c1, e1, l1, m1, -⟩ := hq.1
    obtain ⟨p2, c2, e2, l2, m2, -⟩ := hr.2
    have x10 : (cellsB q)[10]? = some q.nv := rfl
    have y11 : (cellsB r)[11]? = some r.qv := rfl
    rw [e1] at x10
    rw [e2] at y11
    rw [h1] at y0
    have HR := Lib.hid (withinB_111 (q := q) (r := r) h1)
    unfold maxLen at m1 m2
    clear e1 e2 hq hr hmq hmr h1
    generalize withinB q r = res at *
    generalize cellsB q = ca at *
    generalize cellsB r = cb at *
    generalize q.nl.length = n at *
    generalize r.ql.length = k at *
    go_enter Tryd.func47, Tryd.ntmps47
    go_wp2
    all_goals go_ret
    all_goals (rw [HR.out]; refine ⟨retb ?_, HB.out _ _⟩; rw [Bool.eq_iff_iff]; simp; try omega)
  by_cases h2 : r.kd = 117
  · have x20 : (cellsB q)[20]? = some (.int .i64 q.co) := rfl
    have y21 : (cellsB r)[21]? = some (.string (mk r.da)) := rfl
    rw [h2] at y0
    have HR := withinB_117 (q := q) (r := r) h2
    have hz := mk_size r.da
    have hl := hmr.2.2.2.2.2.2.2.2.2.1
    unfold maxLen at hl
    rw [← hz] at HR hl
    replace HR := Lib.hid HR
    clear hq hr hmq hmr h1 h2 hz
    generalize withinB q r = res at *
    generalize cellsB q = ca at *
    generalize cellsB r = cb at *
    generalize q.co = n at *
    generalize mk r.da = k at *
    go_enter Tryd.func47, Tryd.ntmps47
    go_wp2
    go_ret
    rw [HR.out]
    exact ⟨rfl, HB.out _ _⟩
  by_cases h3 : r.kd = 119
  · have x21 : (cellsB q)[21]? = some (.string (mk q.da)) := rfl
    have y20 : (cellsB r)[20]? = some (.int .i64 r.co) := rfl
    rw [h3] at y0
    have HR := withinB_119 (q := q) (r := r) h3
    have hz := mk_size q.da
    have hl := hmq.2.2.2.2.2.2.2.2.2.1
    unfold maxLen at hl
    rw [← hz] at HR hl
    replace HR := Lib.hid HR
    clear hq hr hmq hmr h1 h2 h3 hz
    generalize withinB q r = res at *
    generalize cellsB q = ca at *
    generalize cellsB r = cb at *
    generalize r.co = n at *
    generalize mk q.da = k at *
    go_enter Tryd.func47, Tryd.ntmps47
    go_wp2
    go_ret
    rw [HR.out]
    exact ⟨rfl, HB.out _ _⟩
  have HR := Lib.hid (withinB_else (q := q) h1 h2 h3)
  have n1 : (r.kd == 111) = false := by simpa using h1
  have n2 : (r.kd == 117) = false := by simpa using h2
  have n3 : (r.kd == 119) = false := by simpa using h3
  clear hq hr hmq hmr h1 h2 h3
  generalize withinB q r = res at *
  generalize cellsB q = ca at *
  generalize cellsB r = cb at *
  generalize r.kd = n at *
  go_enter Tryd.func47, Tryd.ntmps47
  go_wp2
  go_ret
  rw [HR.out]
  exact ⟨rfl, HB.out _ _⟩

/-! ### Answers -/
theorem answersB_no {q r : MM} (h : reqB q.kd = false) : answersB q r = false := by unfold answersB; rw [h]; rfl
theorem answersB_tag {q r : MM} (h : r.tg ≠ q.tg) : answersB q r = false := by unfold answersB; rw [decide_eq_false h, Bool.and_false]; rfl
theorem answersB_err {q r : MM} (h : reqB q.kd = true) (ht : r.tg = q.tg) (hk : r.kd = 107) : answersB q r = true := by unfold answersB; rw [h, decide_eq_true ht, decide_eq_true hk]; rfl
theorem answersB_rep {q r : MM} (h : reqB q.kd = true) (ht : r.tg = q.tg) (hk : r.kd ≠ 107) (hr : r.kd = repI q.kd) : answersB q r = withinB q r := by unfold answersB; rw [h, decide_eq_true ht, decide_eq_false hk, decide_eq_true hr]; simp
theorem answersB_not {q r : MM} (hk : r.kd ≠ 107) (hr : r.kd ≠ repI q.kd) : answersB q r = false := by unfold answersB; rw [decide_eq_false hk, decide_eq_false hr]; simp
theorem two_msgs (w : World) (q r : MM) : ∃ W, (w.alloc (.cells (cellsB q) 35)).alloc (.cells (cellsB r) 35) = W ∧ Below w.heap.size w W ∧ BlkM W w.heap.size q ∧ BlkM W (w.heap.size + 1) r := by
  refine ⟨_, rfl, below2 w _ _, (BlkM.new w q).alloc _, ?_⟩
  have h := BlkM.new (w.alloc (.cells (cellsB q) 35)) r
  rwa [show (w.alloc (.cells (cellsB q) 35)).heap.size = w.heap.size + 1 by simp] at h


set_option maxRecDepth 100000 in
set_option maxHeartbeats 6400000 in
theorem Answers_any (q r : MM) (w : World) (hq : RowM w q) (hr : RowM w r) (hmq : inM q) (hmr : inM r) :
    Calls Tryd.prog 25 #[msgV q, msgV r] w fun e w' => e = .returned (.bool (answersB q r)) ∧ Below w.heap.size w w' := by
  obtain ⟨W, hW, hB, hKq, hKr⟩ := two_msgs w q r
  subst hW
  have HQ := Request_any q.kd
  have HP := Lib.hid (fun W => Reply_any q.kd W)
  have HI := fun W hq hr => isWithin_any q r W hq hr hmq hmr
  have x0 : (cellsB q)[0]? = some (.int .i64 q.kd) := rfl
  have x1 : (cellsB q)[1]? = some (.int .i64 q.tg) := rfl
  have y0 : (cellsB r)[0]? = some (.int .i64 r.kd) := rfl
  have y1 : (cellsB r)[1]? = some (.int .i64 r.tg) := rfl
  have H0 := Lib.hid (fun h => answersB_no (q := q) (r := r) h)
  have H1 := Lib.hid (fun h => answersB_tag (q := q) (r := r) h)
  have H2 := Lib.hid (fun h ht hk => answersB_err (q := q) (r := r) h ht hk)
  have H3 := Lib.hid (fun h ht hk hr => answersB_rep (q := q) (r := r) h ht hk hr)
  have H4 := Lib.hid (fun hk hr => answersB_not (q := q) (r := r) hk hr)
  generalize answersB q r = res at *
  replace HI := Lib.hid (HI _ (hq.below hB) (hr.below hB))
  unfold msgV at HI ⊢
  replace hKq := Lib.hid hKq
  replace hKr := Lib.hid hKr
  clear hq hr hmq hmr
  replace hB := Lib.hid hB
  cases hk : reqB q.kd
  · have HR := Lib.hid (H0.out hk)
    rw [hk] at HQ
    replace HQ := Lib.hid HQ
    clear hk
    go_enter Tryd.func25, Tryd.ntmps25
    go_wp2_with fail
    refine (HQ.out _).mono ?_
    rintro e w1 ⟨rfl, rfl⟩
    go_wp2
    go_ret
    rw [HR.out]
    exact ⟨rfl, hB.out⟩
  rw [hk] at HQ
  replace HQ := Lib.hid HQ
  replace hk := Lib.hid hk
  by_cases ht : r.tg = q.tg
  · have nt : (r.tg != q.tg) = false := by rw [ht]; simp
    by_cases h7 : r.kd = 107
    · have HR := Lib.hid (H2.out hk.out ht h7)
      rw [h7] at y0
      clear ht h7
      go_enter Tryd.func25, Tryd.ntmps25
      go_wp2_with fail
      refine (HQ.out _).mono ?_
      rintro e w1 ⟨rfl, rfl⟩
      go_wp2
      go_ret
      rw [HR.out]
      exact ⟨rfl, hB.out⟩
    have n7 : (r.kd == 107) = false := by simpa using h7
    by_cases hrp : r.kd = repI q.kd
    · have HR := Lib.hid (H3.out hk.out ht h7 hrp)
      have nr : (r.kd == repI q.kd) = true := by rw [hrp]; simp
      clear ht h7 hrp
      generalize repI q.kd = rq at *
      go_enter Tryd.func25, Tryd.ntmps25
      go_wp2_with fail
      refine (HQ.out _).mono ?_
      rintro e w1 ⟨rfl, rfl⟩
      go_wp2_with fail
      refine (HP.out _).mono ?_
      rintro e w1 ⟨rfl, rfl⟩
      go_wp2_with (first
        | (refine wpList_load_row rfl 35 _ rfl w.heap.size rfl 35 (cellsB q) (0, 0) _ hKq.out Tryd.underlying35 rfl (by kernel_rfl) ?_)
        | (refine wpList_load_row rfl 35 _ rfl (w.heap.size + 1) rfl 35 (cellsB r) (0, 0) _ hKr.out Tryd.underlying35 rfl (by kernel_rfl) ?_))
      refine HI.out.mono ?_
      rintro e w2 ⟨rfl, hB2⟩
      have HB2 := Lib.hid (hB.out.trans (hB2.mono hB.out.size))
      clear hB2
      go_wp2
      go_ret
      rw [HR.out]
      exact ⟨rfl, HB2.out⟩
    · have HR := Lib.hid (H4.out h7 hrp)
      have nr : (r.kd == repI q.kd) = false := by simpa using hrp
      clear ht h7 hrp
      generalize repI q.kd = rq at *
      go_enter Tryd.func25, Tryd.ntmps25
      go_wp2_with fail
      refine (HQ.out _).mono ?_
      rintro e w1 ⟨rfl, rfl⟩
      go_wp2_with fail
      refine (HP.out _).mono ?_
      rintro e w1 ⟨rfl, rfl⟩
      go_wp2
      go_ret
      rw [HR.out]
      exact ⟨rfl, hB.out⟩
  · have nt : (r.tg != q.tg) = true := by simpa using ht
    have HR := Lib.hid (H1.out ht)
    clear ht
    go_enter Tryd.func25, Tryd.ntmps25
    go_wp2_with fail
    refine (HQ.out _).mono ?_
    rintro e w1 ⟨rfl, rfl⟩
    go_wp2
    go_ret
    rw [HR.out]
    exact ⟨rfl, hB.out⟩

set_option maxRecDepth 100000 in
set_option maxHeartbeats 6400000 in
theorem RAnswers_any (q r : MM) (w : World) (hq : RowM w q) (hr : RowM w r) (hmq : inM q) (hmr : inM r) :
    Calls Tryd.prog 26 #[msgV q, msgV r] w fun e w' => e = .returned (.bool (answersB q r)) ∧ Below w.heap.size w w' := by
  obtain ⟨W, hW, hB, hKq, hKr⟩ := two_msgs w q r
  subst hW
  have HQ := RRequest_any q.kd
  have HP := Lib.hid (fun W => RReply_any q.kd W)
  have x0 : (cellsB q)[0]? = some (.int .i64 q.kd) := rfl
  have x1 : (cellsB q)[1]? = some (.int .i64 q.tg) := rfl
  have y0 : (cellsB r)[0]? = some (.int .i64 r.kd) := rfl
  have y1 : (cellsB r)[1]? = some (.int .i64 r.tg) := rfl
  have H0 := Lib.hid (fun h => answersB_no (q := q) (r := r) h)
  have H1 := Lib.hid (fun h => answersB_tag (q := q) (r := r) h)
  have H2 := Lib.hid (fun h ht hk => answersB_err (q := q) (r := r) h ht hk)
  have H3 := Lib.hid (fun h ht hk hr => answersB_rep (q := q) (r := r) h ht hk hr)
  have H4 := Lib.hid (fun hk hr => answersB_not (q := q) (r := r) hk hr)
  generalize answersB q r = res at *
  obtain ⟨p1, c1, e1, l1, m1, -⟩ := hq.1
  obtain ⟨p2, c2, e2, l2, m2, -⟩ := hr.2
  have x10 : (cellsB q)[10]? = some q.nv := rfl
  have y11 : (cellsB r)[11]? = some r.qv := rfl
  rw [e1] at x10
  rw [e2] at y11
  have x20 : (cellsB q)[20]? = some (.int .i64 q.co) := rfl
  have y20 : (cellsB r)[20]? = some (.int .i64 r.co) := rfl
  have x21 : (cellsB q)[21]? = some (.string (mk q.da)) := rfl
  have y21 : (cellsB r)[21]? = some (.string (mk r.da)) := rfl
  have z1 := hmr.2.2.2.2.2.2.2.2.2.1
  have z2 := hmq.2.2.2.2.2.2.2.2.2.1
  rw [← mk_size] at z1 z2
  unfold maxLen at m1 m2 z1 z2
  have HW1 := Lib.hid (fun h => withinB_111 (q := q) (r := r) h)
  have HW2 := Lib.hid (fun h => withinB_117 (q := q) (r := r) h)
  have HW3 := Lib.hid (fun h => withinB_119 (q := q) (r := r) h)
  simp only [← mk_size] at HW2 HW3
  have HW4 := Lib.hid (fun h1 h2 h3 => withinB_else (q := q) (r := r) h1 h2 h3)
  clear e1 e2 hq hr
  generalize withinB q r = wi at *
  generalize q.nl.length = n at *
  generalize r.ql.length = k at *
  generalize mk q.da = qd at *
  generalize mk r.da = rd at *
  generalize q.co = qc at *
  generalize r.co = rc at *
  unfold msgV
  clear hmq hmr hKq hKr
  generalize cellsB q = ca at *
  generalize cellsB r = cb at *
  replace hB := Lib.hid hB
  cases hk : reqB q.kd
  · have HR := Lib.hid (H0.out hk)
    rw [hk] at HQ
    replace HQ := Lib.hid HQ
    clear hk
    go_enter Tryd.func26, Tryd.ntmps26
    go_wp2_with fail
    refine (HQ.out _).mono ?_
    rintro e w1 ⟨rfl, rfl⟩
    go_wp2
    go_ret
    rw [HR.out]
    exact ⟨rfl, hB.out⟩
  rw [hk] at HQ
  replace HQ := Lib.hid HQ
  replace hk := Lib.hid hk
  by_cases ht : r.tg = q.tg
  · have nt : (q.tg != r.tg) = false := by rw [ht]; simp
    by_cases h7 : r.kd = 107
    · have HR := Lib.hid (H2.out hk.out ht h7)
      rw [h7] at y0
      clear ht h7
      go_enter Tryd.func26, Tryd.ntmps26
      go_wp2_with fail
      refine (HQ.out _).mono ?_
      rintro e w1 ⟨rfl, rfl⟩
      go_wp2
      go_ret
      rw [HR.out]
      exact ⟨rfl, hB.out⟩
    have n7 : (r.kd == 107) = false := by simpa using h7
    by_cases hrp : r.kd = repI q.kd
    · have HR := Lib.hid (H3.out hk.out ht h7 hrp)
      have nr : (r.kd != repI q.kd) = false := by rw [hrp]; simp
      clear ht h7 hrp
      generalize repI q.kd = rq at *
      by_cases k1 : r.kd = 111
      · have hw := Lib.hid (HW1.out k1)
        rw [k1] at y0 nr n7
        clear HW1 HW2 HW3 HW4 k1
        go_enter Tryd.func26, Tryd.ntmps26
        go_wp2_with fail
        refine (HQ.out _).mono ?_
        rintro e w1 ⟨rfl, rfl⟩
        go_wp2
        go_quiet ((go_at_call 18; with_reducible exact quiet_same (HP.out _)))
        go_wp2
        all_goals go_ret
        all_goals (rw [HR.out, hw.out]; refine ⟨retb ?_, below_drewN hB.out _⟩; rw [Bool.eq_iff_iff]; simp; try omega)
      by_cases k2 : r.kd = 117
      · have hw := Lib.hid (HW2.out k2)
        rw [k2] at y0 nr n7
        clear HW1 HW2 HW3 HW4 k1 k2
        go_enter Tryd.func26, Tryd.ntmps26
        go_wp2_with fail
        refine (HQ.out _).mono ?_
        rintro e w1 ⟨rfl, rfl⟩
        go_wp2
        go_quiet ((go_at_call 18; with_reducible exact quiet_same (HP.out _)))
        go_wp2
        go_ret
        rw [HR.out, hw.out]
        exact ⟨rfl, below_drewN hB.out _⟩
      by_cases k3 : r.kd = 119
      · have hw := Lib.hid (HW3.out k3)
        rw [k3] at y0 nr n7
        clear HW1 HW2 HW3 HW4 k1 k2 k3
        go_enter Tryd.func26, Tryd.ntmps26
        go_wp2_with fail
        refine (HQ.out _).mono ?_
        rintro e w1 ⟨rfl, rfl⟩
        go_wp2
        go_quiet ((go_at_call 18; with_reducible exact quiet_same (HP.out _)))
        go_wp2
        go_ret
        rw [HR.out, hw.out]
        exact ⟨rfl, below_drewN hB.out _⟩
      have hw := Lib.hid (HW4.out k1 k2 k3)
      have n1 : (r.kd == 111) = false := by simpa using k1
      have n2 : (r.kd == 117) = false := by simpa using k2
      have n3 : (r.kd == 119) = false := by simpa using k3
      clear HW1 HW2 HW3 HW4 k1 k2 k3
      go_enter Tryd.func26, Tryd.ntmps26
      go_wp2_with fail
      refine (HQ.out _).mono ?_
      rintro e w1 ⟨rfl, rfl⟩
      go_wp2
      go_quiet ((go_at_call 18; with_reducible exact quiet_same (HP.out _)))
      go_wp2
      go_ret
      rw [HR.out, hw.out]
      exact ⟨rfl, below_drewN hB.out _⟩
    · have HR := Lib.hid (H4.out h7 hrp)
      have nr : (r.kd != repI q.kd) = true := by simpa using hrp
      clear ht h7 hrp
      generalize repI q.kd = rq at *
      go_enter Tryd.func26, Tryd.ntmps26
      go_wp2_with fail
      refine (HQ.out _).mono ?_
      rintro e w1 ⟨rfl, rfl⟩
      go_wp2
      go_quiet ((go_at_call 18; with_reducible exact quiet_same (HP.out _)))
      go_wp2
      go_ret
      rw [HR.out]
      exact ⟨rfl, below_drewN hB.out _⟩
  · have nt : (q.tg != r.tg) = true := by simpa using (fun e : q.tg = r.tg => ht e.symm)
    have HR := Lib.hid (H1.out ht)
    clear ht
    go_enter Tryd.func26, Tryd.ntmps26
    go_wp2_with fail
    refine (HQ.out _).mono ?_
    rintro e w1 ⟨rfl, rfl⟩
    go_wp2
    go_ret
    rw [HR.out]
    exact ⟨rfl, hB.out⟩

theorem BlkM.setRow {w : World} {b : Nat} {d : MM} (h : BlkM w b d) (e : MM) : BlkM (w.setRow b (cellsB e)) b e := setRow_heap w b _ _ _ _ h
theorem below_setRow {B : Nat} {a w : World} (h : Below B a w) {g : Nat} (hg : B ≤ g) (cs : Array Value) : Below B a (w.setRow g cs) :=
  ⟨h.os, h.tape, h.output, by simp [World.setRow]; exact h.size, fun k hk => by
    have := h.block k hk
    rw [← this]
    simp only [World.setRow, Array.getElem?_modify]
    rw [if_neg (by omega)]⟩
theorem cellsB_one (m : MM) (h1 : m.nv.oneCell' = true) (h2 : m.qv.oneCell' = true) : (cellsB m).all (·.oneCell') = true := by
  have h : (cellsM m).all (·.oneCell') = true := by
    simp only [cellsM, List.all_cons, h1, h2]
    rfl
  unfold cellsB
  rw [← h]
  simp only [List.all_toArray]
theorem two_blocks (w : World) (q : MM) : ∃ W, (w.alloc (.cells (cellsB q) 35)).alloc (.cells (cellsB noM) 35) = W ∧ Below w.heap.size w W ∧ BlkM W w.heap.size q ∧ BlkM W (w.heap.size + 1) noM := two_msgs w q noM

set_option maxRecDepth 100000 in
set_option maxHeartbeats 3200000 in
theorem Fail_any (q : MM) (e : Int) (w : World) :
    Calls Tryd.prog 27 #[msgV q, .int .i64 e] w fun e' w' => e' = .returned (msgV (failM q.tg e)) ∧ Below w.heap.size w w' := by
  have hz : Hid (∀ W : World, W.alloc (.cells #[.int .i64 0, .int .i64 0, .int .i64 0, .int .i64 0, .int .i64 0, .int .i64 0, .int .i64 0, .string ⟨#[]⟩, .string ⟨#[]⟩, .string ⟨#[]⟩, .slice none 0 0, .slice none 0 0, .int .i64 0, .int .i64 0, .int .i64 0, .int .i64 0, .int .i64 0, .int .i64 0, .string ⟨#[]⟩, .int .i64 0, .int .i64 0, .string ⟨#[]⟩, .int .i64 0, .int .i64 0, .int .i64 0, .int .i64 0, .int .i64 0, .int .i64 0, .int .i64 0, .int .i64 0, .int .i64 0, .string ⟨#[]⟩, .string ⟨#[]⟩, .string ⟨#[]⟩, .string ⟨#[]⟩, .int .i64 0, .int .i64 0, .int .i64 0, .string ⟨#[]⟩] 35) = W.alloc (.cells (cellsB noM) 35)) := fun _ => rfl
  obtain ⟨W, hW, hB0, hK0, hX0⟩ := two_blocks w q
  have x1 : (cellsB q)[1]? = some (.int .i64 q.tg) := rfl
  unfold msgV
  have HX := Lib.hid (hX0.setRow (failM q.tg e))
  have hb : Hid (∀ t e : Int, (#[.int .i64 107, .int .i64 t, .int .i64 0, .int .i64 0, .int .i64 0, .int .i64 0, .int .i64 0, .string ⟨#[]⟩, .string ⟨#[]⟩, .string ⟨#[]⟩, .slice none 0 0, .slice none 0 0, .int .i64 0, .int .i64 0, .int .i64 0, .int .i64 0, .int .i64 0, .int .i64 0, .string ⟨#[]⟩, .int .i64 0, .int .i64 0, .string ⟨#[]⟩, .int .i64 0, .int .i64 0, .int .i64 0, .int .i64 0, .int .i64 0, .int .i64 0, .int .i64 0, .int .i64 0, .int .i64 0, .string ⟨#[]⟩, .string ⟨#[]⟩, .string ⟨#[]⟩, .string ⟨#[]⟩, .int .i64 e, .int .i64 0, .int .i64 0, .string ⟨#[]⟩] : Array Value) = cellsB (failM t e)) := fun _ _ => rfl
  replace hW := Lib.hid hW
  replace hB0 := Lib.hid hB0
  replace hX0 := Lib.hid hX0
  have hF := Lib.hid (cellsB_one (failM q.tg e) rfl rfl)
  generalize cellsB q = ca at *
  generalize q.tg = t at *
  go_enter Tryd.func27, Tryd.ntmps27
  go_wp2_with (simp only [hz.out, hW.out]; refine wpList_store_row rfl 35 _ _ rfl (w.heap.size + 1) (cellsB (failM t e)) rfl rfl 35 (cellsB noM) hX0.out (by kernel_rfl) rfl hF.out ?_)
  refine bodyPost_ret (results_cell_row rfl _ _ (w.heap.size + 1) 35 (cellsB (failM t e)) (0, 0) _ rfl HX.out Tryd.underlying35 rfl (by kernel_rfl)) rfl ?_
  exact ⟨rfl, below_setRow hB0.out (Nat.le_succ _) _⟩

set_option maxRecDepth 100000 in
set_option maxHeartbeats 3200000 in
theorem RFail_any (q : MM) (e : Int) (w : World) :
    Calls Tryd.prog 29 #[msgV q, .int .i64 e] w fun e' w' => e' = .returned (msgV (failM q.tg e)) ∧ Below w.heap.size w w' := by
  have hz : Hid (∀ W : World, W.alloc (.cells #[.int .i64 0, .int .i64 0, .int .i64 0, .int .i64 0, .int .i64 0, .int .i64 0, .int .i64 0, .string ⟨#[]⟩, .string ⟨#[]⟩, .string ⟨#[]⟩, .slice none 0 0, .slice none 0 0, .int .i64 0, .int .i64 0, .int .i64 0, .int .i64 0, .int .i64 0, .int .i64 0, .string ⟨#[]⟩, .int .i64 0, .int .i64 0, .string ⟨#[]⟩, .int .i64 0, .int .i64 0, .int .i64 0, .int .i64 0, .int .i64 0, .int .i64 0, .int .i64 0, .int .i64 0, .int .i64 0, .string ⟨#[]⟩, .string ⟨#[]⟩, .string ⟨#[]⟩, .string ⟨#[]⟩, .int .i64 0, .int .i64 0, .int .i64 0, .string ⟨#[]⟩] 35) = W.alloc (.cells (cellsB noM) 35)) := fun _ => rfl
  obtain ⟨W, hW, hB0, hK0, hX0⟩ := two_blocks w q
  have x1 : (cellsB q)[1]? = some (.int .i64 q.tg) := rfl
  unfold msgV
  have HX := Lib.hid (hX0.setRow (failM q.tg e))
  have hb : Hid (∀ t e : Int, (#[.int .i64 107, .int .i64 t, .int .i64 0, .int .i64 0, .int .i64 0, .int .i64 0, .int .i64 0, .string ⟨#[]⟩, .string ⟨#[]⟩, .string ⟨#[]⟩, .slice none 0 0, .slice none 0 0, .int .i64 0, .int .i64 0, .int .i64 0, .int .i64 0, .int .i64 0, .int .i64 0, .string ⟨#[]⟩, .int .i64 0, .int .i64 0, .string ⟨#[]⟩, .int .i64 0, .int .i64 0, .int .i64 0, .int .i64 0, .int .i64 0, .int .i64 0, .int .i64 0, .int .i64 0, .int .i64 0, .string ⟨#[]⟩, .string ⟨#[]⟩, .string ⟨#[]⟩, .string ⟨#[]⟩, .int .i64 e, .int .i64 0, .int .i64 0, .string ⟨#[]⟩] : Array Value) = cellsB (failM t e)) := fun _ _ => rfl
  replace hW := Lib.hid hW
  replace hB0 := Lib.hid hB0
  replace hX0 := Lib.hid hX0
  have hF := Lib.hid (cellsB_one (failM q.tg e) rfl rfl)
  generalize cellsB q = ca at *
  generalize q.tg = t at *
  go_enter Tryd.func29, Tryd.ntmps29
  go_wp2_with (simp only [hz.out, hW.out]; refine wpList_store_row rfl 35 _ _ rfl (w.heap.size + 1) (cellsB (failM t e)) rfl rfl 35 (cellsB noM) hX0.out (by kernel_rfl) rfl hF.out ?_)
  refine bodyPost_ret (results_cell_row rfl _ _ (w.heap.size + 1) 35 (cellsB (failM t e)) (0, 0) _ rfl HX.out Tryd.underlying35 rfl (by kernel_rfl)) rfl ?_
  exact ⟨rfl, below_setRow hB0.out (Nat.le_succ _) _⟩
end Go.Proofs.YtlfdmbfbfadifaaDoor
