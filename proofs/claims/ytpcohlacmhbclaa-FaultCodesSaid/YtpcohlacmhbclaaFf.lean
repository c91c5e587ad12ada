/-
  At, package fault's and the reference's.
-/
import Derived.Test.YtpcohlacmhbclaaFe
namespace Go.Proofs.Ytpcohlacmhbclaa
open Go.RowKit

set_option maxRecDepth 100000 in
set_option maxHeartbeats 1600000 in
theorem At_any (what : List UInt8) (e : Int) (hl : what.length ≤ 100000) (he : -9223372036854775808 ≤ e ∧ e ≤ 9223372036854775807) (w : World) :
    Calls Try.prog 12 #[.string (mk what), .int .i64 e] w fun x w' => x = .returned (.string (mk (atL what e))) ∧ Below w.heap.size w w' := by
  have R := Lib.hid (Text_any e he w)
  have hb : (mk what).size ≤ 100000 := by rw [mk_size]; exact hl
  have hb2 : (mk (textL e)).size ≤ 100000 := by rw [mk_size]; exact Nat.le_trans (textL_len e) (by omega)
  have hA : atL what e = if what = [] ∨ textL e = [] then what ++ textL e else what ++ [58, 32] ++ textL e := rfl
  generalize textL e = t at R hb2 hA
  have ha1 : (mk what ++ mk t) = mk (what ++ t) := mk_app _ _
  have ha2 : (mk what ++ ⟨#[58, 32]⟩ ++ mk t) = mk (what ++ [58, 32] ++ t) := by rw [← mk_app, ← mk_app]; rfl
  have HA1 := Lib.hid ha1
  have HA2 := Lib.hid ha2
  have HA := Lib.hid hA
  clear ha1 ha2 hA
  by_cases h1 : what = []
  · have g1 : (mk what).toList = [] := by rw [mk_toList]; exact h1
    have H1 := Lib.hid h1
    clear h1
    go_enter Try.func12, Try.ntmps12
    go_wp2_with fail
    refine R.out.mono ?_
    rintro x w1 ⟨rfl, hB⟩
    go_wp2_with fail
    go_ret
    rw [HA1.out, HA.out, if_pos (.inl H1.out)]
    exact ⟨rfl, hB⟩
  · have g1 : (mk what).toList.isEmpty = false := by rw [mk_toList]; simpa using h1
    by_cases h2 : t = []
    · have g2 : (mk t).toList = [] := by rw [mk_toList]; exact h2
      have H2 := Lib.hid h2
      clear h1 h2
      go_enter Try.func12, Try.ntmps12
      go_wp2_with fail
      refine R.out.mono ?_
      rintro x w1 ⟨rfl, hB⟩
      go_wp2_with fail
      go_ret
      rw [HA1.out, HA.out, if_pos (.inr H2.out)]
      exact ⟨rfl, hB⟩
    · have g2 : (mk t).toList.isEmpty = false := by rw [mk_toList]; simpa using h2
      have H1 := Lib.hid h1
      have H2 := Lib.hid h2
      clear h1 h2
      go_enter Try.func12, Try.ntmps12
      go_wp2_with fail
      refine R.out.mono ?_
      rintro x w1 ⟨rfl, hB⟩
      go_wp2_with fail
      go_ret
      rw [HA2.out, HA.out, if_neg (by simp [H1.out, H2.out])]
      exact ⟨rfl, hB⟩

set_option maxRecDepth 100000 in
set_option maxHeartbeats 1600000 in
theorem RAt_any (what : List UInt8) (e : Int) (hl : what.length ≤ 100000) (he : -9223372036854775808 ≤ e ∧ e ≤ 9223372036854775807) (w : World) :
    Calls Try.prog 13 #[.string (mk what), .int .i64 e] w fun x w' => x = .returned (.string (mk (atL what e))) ∧ Below w.heap.size w w' := by
  have R := Lib.hid (RText_any e he w)
  have hb : (mk what).size ≤ 100000 := by rw [mk_size]; exact hl
  have hb2 : (mk (textL e)).size ≤ 100000 := by rw [mk_size]; exact Nat.le_trans (textL_len e) (by omega)
  have hA : atL what e = if what = [] ∨ textL e = [] then what ++ textL e else what ++ [58, 32] ++ textL e := rfl
  generalize textL e = t at R hb2 hA
  have ha1 : (mk what ++ mk t) = mk (what ++ t) := mk_app _ _
  have ha2 : (mk what ++ ⟨#[58, 32]⟩ ++ mk t) = mk (what ++ [58, 32] ++ t) := by rw [← mk_app, ← mk_app]; rfl
  have HA1 := Lib.hid ha1
  have HA2 := Lib.hid ha2
  have HA := Lib.hid hA
  clear ha1 ha2 hA
  by_cases h1 : what = []
  · have g1 : (mk what).toList = [] := by rw [mk_toList]; exact h1
    have H1 := Lib.hid h1
    clear h1
    go_enter Try.func13, Try.ntmps13
    go_wp2_with fail
    refine R.out.mono ?_
    rintro x w1 ⟨rfl, hB⟩
    go_wp2_with fail
    go_ret
    rw [HA1.out, HA.out, if_pos (.inl H1.out)]
    exact ⟨rfl, hB⟩
  · have g1 : (mk what).toList.isEmpty = false := by rw [mk_toList]; simpa using h1
    by_cases h2 : t = []
    · have g2 : (mk t).toList = [] := by rw [mk_toList]; exact h2
      have H2 := Lib.hid h2
      clear h1 h2
      go_enter Try.func13, Try.ntmps13
      go_wp2_with fail
      refine R.out.mono ?_
      rintro x w1 ⟨rfl, hB⟩
      go_wp2_with fail
      go_ret
      rw [HA1.out, HA.out, if_pos (.inr H2.out)]
      exact ⟨rfl, hB⟩
    · have g2 : (mk t).toList.isEmpty = false := by rw [mk_toList]; simpa using h2
      have H1 := Lib.hid h1
      have H2 := Lib.hid h2
      clear h1 h2
      go_enter Try.func13, Try.ntmps13
      go_wp2_with fail
      refine R.out.mono ?_
      rintro x w1 ⟨rfl, hB⟩
      go_wp2_with fail
      go_ret
      rw [HA2.out, HA.out, if_neg (by simp [H1.out, H2.out])]
      exact ⟨rfl, hB⟩
end Go.Proofs.Ytpcohlacmhbclaa
