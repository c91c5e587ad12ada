/-
  Walks: the kinds: Name, Request, Reply of both.
-/
import Derived.Test.YtlfdmbfbfadifaaDoorWd
namespace Go.Proofs.YtlfdmbfbfadifaaDoor
open Go.RowKit

set_option maxHeartbeats 800000 in
theorem isKind_any (k : Int) (w : World) :
    Calls Tryd.prog 37 #[.int .i64 k] w fun e w' => e = .returned (.bool (kindB k)) ∧ w = w' := by
  go_enter Tryd.func37, Tryd.ntmps37
  go_wp2
  all_goals go_ret
  all_goals (refine ⟨retb ?_, rfl⟩; rw [Bool.eq_iff_iff]; simp_all [kindB]; try omega)
theorem isKind_lit (k : Int) (b : Bool) (h : kindB k = b) (w : World) :
    Calls Tryd.prog 37 #[.int .i64 k] w fun e w' => e = .returned (.bool b) ∧ w = w' := by rw [← h]; exact isKind_any k w

set_option maxHeartbeats 3200000 in
theorem Request_any (k : Int) (w : World) :
    Calls Tryd.prog 15 #[.int .i64 k] w fun e w' => e = .returned (.bool (reqB k)) ∧ w = w' := by
  by_cases hk : kindB k = true
  · rcases kinds hk with rfl | rfl | rfl | rfl | rfl | rfl | rfl | rfl | rfl | rfl | rfl | rfl | rfl | rfl | rfl | rfl | rfl | rfl | rfl | rfl | rfl | rfl | rfl | rfl | rfl | rfl | rfl | rfl | rfl | rfl | rfl
    all_goals
      have hK := Lib.hid (isKind_lit _ true hk w)
      clear hk
      go_enter Tryd.func15, Tryd.ntmps15
      go_wp2_with (go_at_call 37; refine hK.out.mono ?_; rintro e w' ⟨rfl, rfl⟩)
      go_ret
      exact ⟨rfl, rfl⟩
  · have hk : kindB k = false := by simpa using hk
    have hK := Lib.hid (isKind_lit _ false hk w)
    have hR := Lib.hid (reqB_no hk)
    clear hk
    go_enter Tryd.func15, Tryd.ntmps15
    go_wp2_with (go_at_call 37; refine hK.out.mono ?_; rintro e w' ⟨rfl, rfl⟩)
    go_ret
    rw [hR.out]
    exact ⟨rfl, rfl⟩
theorem Request_lit (k : Int) (b : Bool) (h : reqB k = b) (w : World) :
    Calls Tryd.prog 15 #[.int .i64 k] w fun e w' => e = .returned (.bool b) ∧ w = w' := by rw [← h]; exact Request_any k w
theorem reqB_in {k : Int} (h : reqB k = true) : 100 ≤ k ∧ k ≤ 131 := by
  have := reqB_kind h
  unfold kindB at this
  simp only [decide_eq_true_eq] at this
  omega
set_option maxHeartbeats 800000 in
theorem Reply_any (k : Int) (w : World) :
    Calls Tryd.prog 17 #[.int .i64 k] w fun e w' => e = .returned (.int .i64 (repI k)) ∧ w = w' := by
  cases hr : reqB k
  · have hK := Lib.hid (Request_lit _ _ hr w)
    have hR := Lib.hid (repI_no hr)
    clear hr
    go_enter Tryd.func17, Tryd.ntmps17
    go_wp2_with (go_at_call 15; refine hK.out.mono ?_; rintro e w' ⟨rfl, rfl⟩)
    go_ret
    rw [hR.out]
    exact ⟨rfl, rfl⟩
  · have hK := Lib.hid (Request_lit _ _ hr w)
    have hR := Lib.hid (repI_yes hr)
    obtain ⟨h1, h2⟩ := reqB_in hr
    clear hr
    go_enter Tryd.func17, Tryd.ntmps17
    go_wp2_with (go_at_call 15; refine hK.out.mono ?_; rintro e w' ⟨rfl, rfl⟩)
    go_ret
    rw [hR.out]
    exact ⟨rfl, rfl⟩

theorem subj_sizes (i : Nat) : (mk (subjN i)).size ≤ 7 := by
  rw [mk_size]
  unfold subjN
  split <;> decide
theorem app84 (l : List UInt8) : (⟨#[84]⟩ : ByteArray) ++ mk l = mk (84 :: l) := mk_app [84] l
theorem app82 (l : List UInt8) : (⟨#[82]⟩ : ByteArray) ++ mk l = mk (82 :: l) := mk_app [82] l
/-- A kind's name, put together. -/
theorem nameK_T {k : Int} (h : reqB k = true) : nameK k = 84 :: subjN ((k - 100) / 2).toNat := by
  have h1 := reqB_kind h
  unfold reqB at h
  simp only [Bool.and_eq_true, decide_eq_true_eq] at h
  unfold nameK; rw [if_pos h1, if_pos h.2]
theorem nameK_R {k : Int} (hk : kindB k = true) (h : reqB k = false) : nameK k = 82 :: subjN ((k - 100) / 2).toNat := by
  unfold reqB at h
  rw [hk] at h
  simp only [Bool.true_and, decide_eq_false_iff_not] at h
  unfold nameK; rw [if_pos hk, if_neg h]
theorem kindB_in {k : Int} (h : kindB k = true) : 100 ≤ k ∧ k ≤ 131 := by
  unfold kindB at h
  simp only [decide_eq_true_eq] at h
  omega
set_option maxRecDepth 100000 in
set_option maxHeartbeats 3200000 in
theorem Name_any (k : Int) (_hi : inI k) (w : World) (g : G w) :
    Calls Tryd.prog 13 #[.int .i64 k] w fun e w' => e = .returned (.string (mk (nameK k))) ∧ w = w' := by
  cases hk : kindB k
  · have hK := Lib.hid (isKind_lit _ _ hk w)
    have hR := Lib.hid (nameK_nil.2 hk)
    clear hk g
    go_enter Tryd.func13, Tryd.ntmps13
    go_wp2_with (go_at_call 37; refine hK.out.mono ?_; rintro e w' ⟨rfl, rfl⟩)
    go_ret
    rw [hR.out]
    exact ⟨rfl, rfl⟩
  · have hK := Lib.hid (isKind_lit _ _ hk w)
    obtain ⟨h1, h2⟩ := kindB_in hk
    obtain ⟨i, hi⟩ : ∃ i : Nat, ((k - 100) / 2).toNat = i := ⟨_, rfl⟩
    have hi16 : i < 16 := by omega
    have hc := g.subj hi16
    have hq : Int.tdiv (k - 100) 2 = (i : Int) := by rw [Int.tdiv_eq_ediv_of_nonneg (by omega)]; omega
    have hz := subj_sizes i
    have h84 := app84 (subjN i)
    have h82 := app82 (subjN i)
    cases hr : reqB k
    · have hQ := Lib.hid (Request_lit _ _ hr w)
      have hR := nameK_R hk hr
      rw [hi] at hR
      replace hR := Lib.hid hR
      clear hr hk hi g
      generalize subjN i = S at *
      go_enter Tryd.func13, Tryd.ntmps13
      go_wp2_with (first | (go_at_call 37; refine hK.out.mono ?_; rintro e w' ⟨rfl, rfl⟩) | (go_at_call 15; refine hQ.out.mono ?_; rintro e w' ⟨rfl, rfl⟩))
      go_ret
      rw [hR.out, ← h82]
      exact ⟨rfl, rfl⟩
    · have hQ := Lib.hid (Request_lit _ _ hr w)
      have hR := nameK_T hr
      rw [hi] at hR
      replace hR := Lib.hid hR
      clear hr hk hi g
      generalize subjN i = S at *
      go_enter Tryd.func13, Tryd.ntmps13
      go_wp2_with (first | (go_at_call 37; refine hK.out.mono ?_; rintro e w' ⟨rfl, rfl⟩) | (go_at_call 15; refine hQ.out.mono ?_; rintro e w' ⟨rfl, rfl⟩))
      go_ret
      rw [hR.out, ← h84]
      exact ⟨rfl, rfl⟩
end Go.Proofs.YtlfdmbfbfadifaaDoor
