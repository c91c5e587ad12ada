/-
  The fixed examples with which every statement of layer 4 ends hold; the walks over the four statements.
-/
import Derived.Test.YtpcohlacmhbclaaFg
namespace Go.Proofs.Ytpcohlacmhbclaa
open Go.RowKit

set_option maxRecDepth 100000 in
set_option maxHeartbeats 1600000 in
theorem awake_any (w : World) : Calls Try.prog 10 #[] w fun e w' => e = .returned (.bool true) ∧ Below w.heap.size w w' := by
  have H1 := Lib.hid (Code_any [97, 58, 32, 98, 58, 32, 113, 117, 111, 116, 97, 32, 101, 120, 99, 101, 101, 100, 101, 100] (by decide) w)
  rw [show tup3 (codeL [97, 58, 32, 98, 58, 32, 113, 117, 111, 116, 97, 32, 101, 120, 99, 101, 101, 100, 101, 100]) = .tuple #[.string ⟨#[97, 58, 32, 98]⟩, .int .i64 21, .bool true] by rw [show codeL [97, 58, 32, 98, 58, 32, 113, 117, 111, 116, 97, 32, 101, 120, 99, 101, 101, 100, 101, 100] = ([97, 58, 32, 98], 21, true) by decide +kernel]; rfl, show mk [97, 58, 32, 98, 58, 32, 113, 117, 111, 116, 97, 32, 101, 120, 99, 101, 101, 100, 101, 100] = ⟨#[97, 58, 32, 98, 58, 32, 113, 117, 111, 116, 97, 32, 101, 120, 99, 101, 101, 100, 101, 100]⟩ from rfl] at H1
  have H2 := Lib.hid (fun w => Find_any [112, 101, 114, 109, 105, 115, 115, 105, 111, 110, 32, 100, 101, 110, 105, 101, 100] w)
  rw [show findL [112, 101, 114, 109, 105, 115, 115, 105, 111, 110, 32, 100, 101, 110, 105, 101, 100] = (11, true) by decide +kernel, show mk [112, 101, 114, 109, 105, 115, 115, 105, 111, 110, 32, 100, 101, 110, 105, 101, 100] = ⟨#[112, 101, 114, 109, 105, 115, 115, 105, 111, 110, 32, 100, 101, 110, 105, 101, 100]⟩ from rfl] at H2
  have H3 := Lib.hid (fun w => Find_any [] w)
  rw [findL_nil, show mk [] = ⟨#[]⟩ from rfl] at H3
  have H4 := Lib.hid (fun w => At_any [47, 97] 8 (by decide) (by decide) w)
  rw [show atL [47, 97] 8 = [47, 97, 58, 32, 102, 105, 108, 101, 32, 100, 111, 101, 115, 32, 110, 111, 116, 32, 101, 120, 105, 115, 116] by decide +kernel, show mk [47, 97] = ⟨#[47, 97]⟩ from rfl, show mk [47, 97, 58, 32, 102, 105, 108, 101, 32, 100, 111, 101, 115, 32, 110, 111, 116, 32, 101, 120, 105, 115, 116] = ⟨#[47, 97, 58, 32, 102, 105, 108, 101, 32, 100, 111, 101, 115, 32, 110, 111, 116, 32, 101, 120, 105, 115, 116]⟩ from rfl] at H4
  have H5 := Lib.hid (fun w => Text_any 13 (by decide) w)
  rw [show textL 13 = [117, 110, 107, 110, 111, 119, 110, 32, 102, 105, 100] by decide +kernel, show mk [117, 110, 107, 110, 111, 119, 110, 32, 102, 105, 100] = ⟨#[117, 110, 107, 110, 111, 119, 110, 32, 102, 105, 100]⟩ from rfl] at H5
  go_enter Try.func10, Try.ntmps10
  go_wp2_with fail
  refine H1.out.mono ?_
  rintro e w1 ⟨rfl, hB1⟩
  have B1 := Lib.hid hB1
  clear hB1
  go_wp2_with fail
  refine (H2.out w1).mono ?_
  rintro e w2 ⟨rfl, hB2⟩
  have B2 := Lib.hid (B1.out.trans (hB2.mono B1.out.size))
  clear hB2
  go_wp2_with fail
  refine (H3.out w2).mono ?_
  rintro e w3 ⟨rfl, hB3⟩
  have B3 := Lib.hid (B2.out.trans (hB3.mono B2.out.size))
  clear hB3
  go_wp2_with fail
  refine (H4.out w3).mono ?_
  rintro e w4 ⟨rfl, hB4⟩
  have B4 := Lib.hid (B3.out.trans (hB4.mono B3.out.size))
  clear hB4
  go_wp2_with fail
  refine (H5.out w4).mono ?_
  rintro e w5 ⟨rfl, hB5⟩
  have B5 := Lib.hid (B4.out.trans (hB5.mono B4.out.size))
  clear hB5
  go_wp2_with fail
  go_ret
  exact ⟨rfl, B5.out⟩
/-- 'awake()' at the end of a walk: behind whatever has been made. -/
theorem awake_end {W w : World} (hB : Below W.heap.size W w) : Calls Try.prog 10 #[] w fun e w' => e = .returned (.bool true) ∧ Below W.heap.size W w' :=
  (awake_any w).mono fun _ _ ⟨he, hB2⟩ => ⟨he, hB.trans (hB2.mono hB.size)⟩

def inI (n : Int) : Prop := -9223372036854775808 ≤ n ∧ n ≤ 9223372036854775807
theorem inI_of_wf {n : Int} (h : (Lit.int .i64 n).wf = true) : inI n := by
  simpa [Lit.wf, IntKind.min, IntKind.max, IntKind.signed, IntKind.bits, inI] using h

set_option maxRecDepth 100000 in
set_option maxHeartbeats 1600000 in
theorem faultTexts_walk (n : Int) (hn : inI n) (W : World) :
    Calls Try.prog 3 #[.int .i64 n] W fun e w' => e = .returned (.bool true) ∧ Below W.heap.size W w' := by
  have A1 := Lib.hid (fun w => Text_any n hn w)
  have A2 := Lib.hid (fun w => RText_any n hn w)
  have A3 := Lib.hid (fun w => Find_any (textL n) w)
  rw [findL_text] at A3
  have HN := Lib.hid hn
  clear hn
  by_cases h : textL n = []
  · rw [h] at A1 A2 A3
    rw [if_pos rfl] at A3
    clear h
    have g1 : (mk []).toList = [] := mk_toList _
    go_enter Try.func3, Try.ntmps3
    go_wp2_with fail
    refine (A1.out W).mono ?_
    rintro e w1 ⟨rfl, hB1⟩
    have B1 := Lib.hid hB1
    clear hB1
    go_wp2_with fail
    refine (A2.out w1).mono ?_
    rintro e w2 ⟨rfl, hB2⟩
    have B2 := Lib.hid (B1.out.trans (hB2.mono B1.out.size))
    clear hB2
    go_wp2_with fail
    refine (A3.out w2).mono ?_
    rintro e w3 ⟨rfl, hB3⟩
    have B3 := Lib.hid (B2.out.trans (hB3.mono B2.out.size))
    clear hB3
    go_wp2_with fail
    refine (awake_end B3.out).mono ?_
    rintro e w4 ⟨rfl, hB4⟩
    go_wp2_with fail
    go_ret
    exact ⟨rfl, hB4⟩
  · rw [if_neg h] at A3
    have g1 : (mk (textL n)).toList.isEmpty = false := by rw [mk_toList]; simpa using h
    generalize textL n = t at A1 A2 A3 g1
    clear h
    go_enter Try.func3, Try.ntmps3
    go_wp2_with fail
    refine (A1.out W).mono ?_
    rintro e w1 ⟨rfl, hB1⟩
    have B1 := Lib.hid hB1
    clear hB1
    go_wp2_with fail
    refine (A2.out w1).mono ?_
    rintro e w2 ⟨rfl, hB2⟩
    have B2 := Lib.hid (B1.out.trans (hB2.mono B1.out.size))
    clear hB2
    go_wp2_with fail
    refine (A3.out w2).mono ?_
    rintro e w3 ⟨rfl, hB3⟩
    have B3 := Lib.hid (B2.out.trans (hB3.mono B2.out.size))
    clear hB3
    go_wp2_with fail
    refine (awake_end B3.out).mono ?_
    rintro e w4 ⟨rfl, hB4⟩
    go_wp2_with fail
    go_ret
    exact ⟨rfl, hB4⟩

set_option maxRecDepth 100000 in
set_option maxHeartbeats 1600000 in
theorem faultFinds_walk (s : ByteArray) (hs : s.size ≤ maxLen) (W : World) :
    Calls Try.prog 4 #[.string s] W fun e w' => e = .returned (.bool true) ∧ Below W.heap.size W w' := by
  unfold maxLen at hs
  have A := Lib.hid (awake_any W)
  by_cases hbig : 10000 < s.size
  · go_enter Try.func4, Try.ntmps4
    go_wp2_with fail
    refine A.out.mono ?_
    rintro e w' ⟨rfl, hB⟩
    go_wp2_with fail
    go_ret
    exact ⟨rfl, hB⟩
  · have A1 := Lib.hid (fun w => Find_any s.data.toList w)
    have A2 := Lib.hid (fun w => RFind_any s.data.toList w)
    rw [mk_of] at A1 A2
    generalize findL s.data.toList = r at A1 A2
    obtain ⟨r1, r2⟩ := r
    go_enter Try.func4, Try.ntmps4
    go_wp2_with fail
    refine (A1.out W).mono ?_
    rintro e w1 ⟨rfl, hB1⟩
    have B1 := Lib.hid hB1
    clear hB1
    go_wp2_with fail
    refine (A2.out w1).mono ?_
    rintro e w2 ⟨rfl, hB2⟩
    have B2 := Lib.hid (B1.out.trans (hB2.mono B1.out.size))
    clear hB2
    go_wp2_with fail
    refine (awake_end B2.out).mono ?_
    rintro e w3 ⟨rfl, hB3⟩
    go_wp2_with fail
    go_ret
    exact ⟨rfl, hB3⟩

set_option maxRecDepth 100000 in
set_option maxHeartbeats 1600000 in
theorem faultCodes_walk (s : ByteArray) (hs : s.size ≤ maxLen) (W : World) :
    Calls Try.prog 6 #[.string s] W fun e w' => e = .returned (.bool true) ∧ Below W.heap.size W w' := by
  unfold maxLen at hs
  have A := Lib.hid (awake_any W)
  by_cases hbig : 10000 < s.size
  · go_enter Try.func6, Try.ntmps6
    go_wp2_with fail
    refine A.out.mono ?_
    rintro e w' ⟨rfl, hB⟩
    go_wp2_with fail
    go_ret
    exact ⟨rfl, hB⟩
  · have hl : s.data.toList.length ≤ 200000 := by rw [show s.data.toList.length = s.size from Array.length_toList]; omega
    have A1 := Lib.hid (fun w => Code_any s.data.toList hl w)
    have A2 := Lib.hid (fun w => RCode_any s.data.toList hl w)
    rw [mk_of] at A1 A2
    generalize codeL s.data.toList = r at A1 A2
    obtain ⟨r1, r2, r3⟩ := r
    unfold tup3 at A1 A2
    clear hl
    go_enter Try.func6, Try.ntmps6
    go_wp2_with fail
    refine (A1.out W).mono ?_
    rintro e w1 ⟨rfl, hB1⟩
    have B1 := Lib.hid hB1
    clear hB1
    go_wp2_with fail
    refine (A2.out w1).mono ?_
    rintro e w2 ⟨rfl, hB2⟩
    have B2 := Lib.hid (B1.out.trans (hB2.mono B1.out.size))
    clear hB2
    go_wp2_with fail
    refine (awake_end B2.out).mono ?_
    rintro e w3 ⟨rfl, hB3⟩
    go_wp2_with fail
    go_ret
    exact ⟨rfl, hB3⟩

set_option maxRecDepth 100000 in
set_option maxHeartbeats 1600000 in
theorem faultJoins_walk (s : ByteArray) (n : Int) (hs : s.size ≤ maxLen) (hn : inI n) (W : World) :
    Calls Try.prog 5 #[.string s, .int .i64 n] W fun e w' => e = .returned (.bool true) ∧ Below W.heap.size W w' := by
  unfold maxLen at hs
  have HN := Lib.hid hn
  clear hn
  have A := Lib.hid (awake_any W)
  by_cases hbig : 10000 < s.size
  · go_enter Try.func5, Try.ntmps5
    go_wp2_with fail
    refine A.out.mono ?_
    rintro e w' ⟨rfl, hB⟩
    go_wp2_with fail
    go_ret
    exact ⟨rfl, hB⟩
  · have hl : s.data.toList.length ≤ 100000 := by rw [show s.data.toList.length = s.size from Array.length_toList]; omega
    have A1 := Lib.hid (fun w => At_any s.data.toList n hl HN.out w)
    have A2 := Lib.hid (fun w => RAt_any s.data.toList n hl HN.out w)
    have A3 := Lib.hid (fun w => RText_any n HN.out w)
    have A4 := Lib.hid (fun w => Code_any (atL s.data.toList n) (by have := atL_len s.data.toList n; omega) w)
    have A5 := Lib.hid (codeL_at s.data.toList n)
    rw [mk_of] at A1 A2
    by_cases h : textL n = []
    · rw [h] at A3
      have g1 : (mk []).toList = [] := mk_toList _
      generalize atL s.data.toList n = a at A1 A2
      clear h hl A4 A5
      go_enter Try.func5, Try.ntmps5
      go_wp2_with fail
      refine (A1.out W).mono ?_
      rintro e w1 ⟨rfl, hB1⟩
      have B1 := Lib.hid hB1
      clear hB1
      go_wp2_with fail
      refine (A2.out w1).mono ?_
      rintro e w2 ⟨rfl, hB2⟩
      have B2 := Lib.hid (B1.out.trans (hB2.mono B1.out.size))
      clear hB2
      go_wp2_with fail
      refine (A3.out w2).mono ?_
      rintro e w3 ⟨rfl, hB3⟩
      have B3 := Lib.hid (B2.out.trans (hB3.mono B2.out.size))
      clear hB3
      go_wp2_with fail
      refine (awake_end B3.out).mono ?_
      rintro e w4 ⟨rfl, hB4⟩
      go_wp2_with fail
      go_ret
      exact ⟨rfl, hB4⟩
    · have g1 : (mk (textL n)).toList.isEmpty = false := by rw [mk_toList]; simpa using h
      rw [A5.out h] at A4
      unfold tup3 at A4
      simp only [mk_of] at A4
      generalize atL s.data.toList n = a at A1 A2 A4
      generalize textL n = t at A3 g1
      clear h hl A5
      go_enter Try.func5, Try.ntmps5
      go_wp2_with fail
      refine (A1.out W).mono ?_
      rintro e w1 ⟨rfl, hB1⟩
      have B1 := Lib.hid hB1
      clear hB1
      go_wp2_with fail
      refine (A2.out w1).mono ?_
      rintro e w2 ⟨rfl, hB2⟩
      have B2 := Lib.hid (B1.out.trans (hB2.mono B1.out.size))
      clear hB2
      go_wp2_with fail
      refine (A3.out w2).mono ?_
      rintro e w3 ⟨rfl, hB3⟩
      have B3 := Lib.hid (B2.out.trans (hB3.mono B2.out.size))
      clear hB3
      go_wp2_with fail
      refine (A4.out w3).mono ?_
      rintro e w4 ⟨rfl, hB4⟩
      have B4 := Lib.hid (B3.out.trans (hB4.mono B3.out.size))
      clear hB4
      go_wp2_with fail
      refine (awake_end B4.out).mono ?_
      rintro e w5 ⟨rfl, hB5⟩
      go_wp2_with fail
      go_ret
      exact ⟨rfl, hB5⟩
end Go.Proofs.Ytpcohlacmhbclaa
