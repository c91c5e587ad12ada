/-
  Walks: the reference's Open; texts.
-/
import Derived.Test.YtogjkkijejgggaaDoorMg
namespace Go.Proofs.YtogjkkijejgggaaDoor
open Go.RowKit

theorem tmod_neg {m : Int} (h : m < 0) : -1000 ≤ m.tmod 1000 ∧ m.tmod 1000 ≤ 0 := by
  have e : m = -(-m) := by omega
  rw [e, Int.neg_tmod, Int.tmod_eq_emod_of_nonneg (by omega)]
  omega
theorem rights_ref (b : Int) (t : Bool) (h0 : 0 ≤ b) (h1 : b ≤ 3) : rightsL b t = (let n := if b = 3 then 1 else if b = 2 then 6 else if b = 1 then 2 else 4; if t = true ∧ n / 2 % 2 = 0 then n + 2 else n) := by
  have h : b = 0 ∨ b = 1 ∨ b = 2 ∨ b = 3 := by omega
  rcases h with rfl | rfl | rfl | rfl <;> cases t <;> decide
/-- The reference's Open where what Base finds is not valid, or the mode is not its remainder. -/
theorem ROpen_bad (m r : Int) (hm1 : -9223372036854775808 ≤ m) (hm2 : m ≤ 9223372036854775807) (hr0 : m.tmod 1000 = r) (w : World) (hb : -1000 ≤ r ∧ r ≤ 1000) (ho : okO m = false) (hne : (m == r) = false ∨ (baseI r).2.2 = false) :
    Calls Tryd.prog 17 #[.int .i64 m] w fun e w' => e = .returned (.tuple #[.int .i64 (openI m).1, .int .i64 (openI m).2]) ∧ w = w' := by
  have hr : Hid ((0, 12) = openI m) := by unfold Hid openI; rw [ho]; rfl
  have C := RBase_any r hb w
  clear hb ho
  generalize baseI r = x at *
  obtain ⟨x1, x2, x3⟩ := x
  dsimp only at C hne
  replace C := Lib.hid C
  cases x3
  · clear hne
    go_enter Tryd.func17, Tryd.ntmps17
    go_wp2_with fail
    refine C.out.mono ?_
    rintro e w' ⟨rfl, rfl⟩
    go_wp2
    go_ret2
    exact ⟨ret_two hr.out, rfl⟩
  · have hne : (m == r) = false := by simpa using hne
    go_enter Tryd.func17, Tryd.ntmps17
    go_wp2_with fail
    refine C.out.mono ?_
    rintro e w' ⟨rfl, rfl⟩
    go_wp2
    go_ret2
    exact ⟨ret_two hr.out, rfl⟩
set_option maxHeartbeats 1600000 in
theorem ROpen_any (m : Int) (hm : inI m) (w : World) :
    Calls Tryd.prog 17 #[.int .i64 m] w fun e w' => e = .returned (.tuple #[.int .i64 (openI m).1, .int .i64 (openI m).2]) ∧ w = w' := by
  obtain ⟨hm1, hm2⟩ := hm
  by_cases hn : m < 0
  · have hb := tmod_neg hn
    have ho : okO m = false := by unfold okO; simp only [decide_eq_false_iff_not]; omega
    refine ROpen_bad m _ hm1 hm2 rfl w (by omega) ho ?_
    by_cases e : m = m.tmod 1000
    · right
      unfold baseI
      have : okO (m.tmod 1000) = false := by unfold okO; simp only [decide_eq_false_iff_not]; omega
      rw [this]; rfl
    · left; simpa using e
  · have he := Int.tmod_eq_emod_of_nonneg (show 0 ≤ m by omega) (b := 1000)
    by_cases ho : okO m = false
    · refine ROpen_bad m _ hm1 hm2 he w (by omega) ho ?_
      by_cases e : m = m % 1000
      · right
        rw [← e]
        unfold baseI
        rw [ho]; rfl
      · left; simpa using e
    · have ho : okO m = true := by simpa using ho
      have hbd := okO_bd ho
      have he2 : m % 1000 = m := by omega
      have C := RBase_any m (by omega) w
      have hb : baseI m = (m % 4, truncO m, true) := by unfold baseI; rw [ho]; rfl
      have hr : Hid ((rightsL (m % 4) (truncO m), 0) = openI m) := by unfold Hid openI; rw [ho]; rfl
      rw [hb] at C
      dsimp only at C
      have hm4 : m % 4 = 0 ∨ m % 4 = 1 ∨ m % 4 = 2 ∨ m % 4 = 3 := by omega
      clear ho hb he
      generalize truncO m = t at *
      generalize m % 4 = b at *
      replace C := Lib.hid C
      rcases hm4 with rfl | rfl | rfl | rfl
      all_goals
        cases t
        all_goals
          go_enter Tryd.func17, Tryd.ntmps17
          go_wp2_with fail
          refine C.out.mono ?_
          rintro e w' ⟨rfl, rfl⟩
          go_wp2
          go_ret2
          exact ⟨ret_two hr.out, rfl⟩
end Go.Proofs.YtogjkkijejgggaaDoor
