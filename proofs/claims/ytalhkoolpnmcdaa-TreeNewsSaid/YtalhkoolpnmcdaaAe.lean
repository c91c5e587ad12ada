/-
  Walks: small tests of texts, times and modes.
-/
import Derived.Test.YtalhkoolpnmcdaaAd
import Derived.BigGuardPart
import Derived.BigQuiet
namespace Go.Proofs.Ytalhkoolpnmcdaa
open Go.RowKit

theorem isShort_any (s : List UInt8) (w : World) : Calls Try.prog 72 #[.string (mk s)] w fun e w' => e = .returned (.bool (decide (s.length ≤ 64))) ∧ w = w' := by
  have hs := mk_size s
  have hr : decide (s.length ≤ 64) = decide ((mk s).size ≤ 64) := by rw [hs]
  rw [hr]
  clear hs hr
  go_enter Try.func72, Try.ntmps72
  go_wp2
  go_ret
  refine ⟨retb ?_, rfl⟩
  rw [decide_eq_decide]; omega
theorem nameOf_any (s : List UInt8) (w : World) : Calls Try.prog 34 #[.string (mk s)] w fun e w' => e = .returned (.string (mk (shortL s))) ∧ w = w' := by
  have H := Lib.hid (isShort_any s w)
  by_cases h : s.length ≤ 64
  · rw [decide_eq_true h] at H
    have hr : Hid (shortL s = s) := by unfold shortL; rw [if_pos h]; exact rfl
    rw [hr.out]
    clear h
    go_enter Try.func34, Try.ntmps34
    go_wp2_with ((with_reducible refine H.out.mono ?_); rintro e w' ⟨rfl, rfl⟩)
    go_ret
    exact ⟨rfl, rfl⟩
  · rw [decide_eq_false h] at H
    have hr : Hid (shortL s = []) := by unfold shortL; rw [if_neg h]; exact rfl
    rw [hr.out]
    clear h
    go_enter Try.func34, Try.ntmps34
    go_wp2_with ((with_reducible refine H.out.mono ?_); rintro e w' ⟨rfl, rfl⟩)
    go_ret
    exact ⟨rfl, rfl⟩
theorem RShort_any (s : List UInt8) (w : World) : Calls Try.prog 36 #[.string (mk s)] w fun e w' => e = .returned (.string (mk (shortL s))) ∧ w = w' := by
  have hs := mk_size s
  by_cases h : s.length ≤ 64
  · have hr : Hid (shortL s = s) := by unfold shortL; rw [if_pos h]; exact rfl
    rw [hr.out]
    have h' : (mk s).size ≤ 64 := by omega
    clear h hs
    go_enter Try.func36, Try.ntmps36
    go_wp2
    go_ret
    exact ⟨rfl, rfl⟩
  · have hr : Hid (shortL s = []) := by unfold shortL; rw [if_neg h]; exact rfl
    rw [hr.out]
    have h' : 64 < (mk s).size := by omega
    clear h hs
    go_enter Try.func36, Try.ntmps36
    go_wp2
    go_ret
    exact ⟨rfl, rfl⟩
theorem timeI_eq (n : Int) : min (max n 0) 1099511627776 = timeI n := by
  unfold timeI
  split
  · omega
  · split <;> omega
theorem timeOf_any (n : Int) (w : World) : Calls Try.prog 35 #[.int .i64 n] w fun e w' => e = .returned (.int .i64 (timeI n)) ∧ w = w' := by
  rw [← timeI_eq]
  go_enter Try.func35, Try.ntmps35
  go_wp2
  all_goals (go_ret; exact ⟨ret1 (by omega), rfl⟩)
theorem RTime_any (n : Int) (w : World) : Calls Try.prog 37 #[.int .i64 n] w fun e w' => e = .returned (.int .i64 (timeI n)) ∧ w = w' := by
  rw [← timeI_eq]
  go_enter Try.func37, Try.ntmps37
  go_wp2
  all_goals (go_ret; exact ⟨ret1 (by omega), rfl⟩)
def timeB (n : Int) : Bool := decide (0 ≤ n ∧ n ≤ 1099511627776)
theorem isTime_any (n : Int) (w : World) : Calls Try.prog 75 #[.int .i64 n] w fun e w' => e = .returned (.bool (timeB n)) ∧ w = w' := by
  by_cases h : 0 ≤ n
  · have hr : timeB n = decide (n ≤ 1099511627776) := by unfold timeB; rw [decide_eq_decide]; omega
    rw [hr]
    clear hr
    go_enter Try.func75, Try.ntmps75
    go_wp2
    go_ret
    exact ⟨rfl, rfl⟩
  · have hr : timeB n = false := by unfold timeB; rw [decide_eq_false_iff_not]; omega
    rw [hr]
    clear hr
    go_enter Try.func75, Try.ntmps75
    go_wp2
    go_ret
    exact ⟨rfl, rfl⟩
theorem isDir_any (m : Int) (w : World) : Calls Try.prog 41 #[.int .i64 m] w fun e w' => e = .returned (.bool (dbit m)) ∧ w = w' := by
  rw [← dbit_and]
  go_enter Try.func41, Try.ntmps41
  go_wp2
  go_ret
  exact ⟨rfl, rfl⟩
theorem RIsDir_any (m : Int) (w : World) : Calls Try.prog 44 #[.int .i64 m] w fun e w' => e = .returned (.bool (dirB m)) ∧ w = w' := by
  go_enter Try.func44, Try.ntmps44
  go_wp2
  go_ret
  exact ⟨rfl, rfl⟩
theorem isMode_any (m : Int) (hm : inI m) (w : World) : Calls Try.prog 74 #[.int .i64 m] w fun e w' => e = .returned (.bool (modeB m)) ∧ w = w' := by
  have H := Lib.hid (isDir_any m w)
  by_cases h : dbit m = true
  · rw [← mode_dir hm h]
    rw [h] at H
    clear h hm
    go_enter Try.func74, Try.ntmps74
    go_wp2_with ((with_reducible refine H.out.mono ?_); rintro e w' ⟨rfl, rfl⟩)
    go_ret
    exact ⟨rfl, rfl⟩
  · have h' : dbit m = false := by simpa using h
    rw [← mode_file hm h']
    rw [h'] at H
    clear h h' hm
    go_enter Try.func74, Try.ntmps74
    go_wp2_with ((with_reducible refine H.out.mono ?_); rintro e w' ⟨rfl, rfl⟩)
    go_ret
    exact ⟨rfl, rfl⟩
set_option maxHeartbeats 800000 in
theorem RMode_any (m : Int) (w : World) : Calls Try.prog 76 #[.int .i64 m] w fun e w' => e = .returned (.bool (modeB m)) ∧ w = w' := by
  by_cases h0 : m < 0
  · have hr : modeB m = false := by unfold modeB; rw [decide_eq_false_iff_not]; omega
    rw [hr]
    clear hr
    go_enter Try.func76, Try.ntmps76
    go_wp2
    go_ret
    exact ⟨rfl, rfl⟩
  · by_cases h1 : m < 4294967296
    · have hr : modeB m = ((m - m % 512 == 0) || ((m - m % 512 == 2147483648) || ((m - m % 512 == 1073741824) || ((m - m % 512 == 536870912) || (m - m % 512 == 1610612736))))) := by
        unfold modeB
        rw [Bool.eq_iff_iff]
        simp only [decide_eq_true_eq, Bool.or_eq_true, beq_iff_eq]
        omega
      rw [hr]
      clear hr
      have h0' : 0 ≤ m := by omega
      have t0 : 0 ≤ m % 512 ∧ m % 512 < 512 := by omega
      obtain ⟨t1, t2⟩ := t0
      by_cases a1 : (m - m % 512 == 0) = true
      · rw [a1]
        go_enter Try.func76, Try.ntmps76
        go_wp2
        go_ret
        exact ⟨rfl, rfl⟩
      · have b1 : (m - m % 512 == 0) = false := by simpa using a1
        rw [b1]
        by_cases a2 : (m - m % 512 == 2147483648) = true
        · rw [a2]
          clear a1
          go_enter Try.func76, Try.ntmps76
          go_wp2
          go_ret
          exact ⟨rfl, rfl⟩
        · have b2 : (m - m % 512 == 2147483648) = false := by simpa using a2
          rw [b2]
          by_cases a3 : (m - m % 512 == 1073741824) = true
          · rw [a3]
            clear a1 a2
            go_enter Try.func76, Try.ntmps76
            go_wp2
            go_ret
            exact ⟨rfl, rfl⟩
          · have b3 : (m - m % 512 == 1073741824) = false := by simpa using a3
            rw [b3]
            by_cases a4 : (m - m % 512 == 536870912) = true
            · rw [a4]
              clear a1 a2 a3
              go_enter Try.func76, Try.ntmps76
              go_wp2
              go_ret
              exact ⟨rfl, rfl⟩
            · have b4 : (m - m % 512 == 536870912) = false := by simpa using a4
              rw [b4]
              clear a1 a2 a3 a4
              go_enter Try.func76, Try.ntmps76
              go_wp2
              go_ret
              exact ⟨rfl, rfl⟩
    · have hr : modeB m = false := by unfold modeB; rw [decide_eq_false_iff_not]; omega
      rw [hr]
      clear hr
      go_enter Try.func76, Try.ntmps76
      go_wp2
      go_ret
      exact ⟨rfl, rfl⟩
end Go.Proofs.Ytalhkoolpnmcdaa
