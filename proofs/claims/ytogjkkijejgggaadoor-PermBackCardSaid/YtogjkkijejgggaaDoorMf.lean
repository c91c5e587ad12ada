/-
  Walks: the reference's mark, Text, Type, Inherit, Base, Open.
-/
import Derived.Test.YtogjkkijejgggaaDoorMe
namespace Go.Proofs.YtogjkkijejgggaaDoor
open Go.RowKit

theorem Rmark_any (m p : Int) (c : UInt8) (hm : inI m) (hp : 0 < p ∧ p ≤ 4294967296) (w : World) :
    Calls Tryd.prog 25 #[.int .i64 m, .int .i64 p, .string ⟨#[c]⟩] w fun e w' => e = .returned (.string (mk [mrk m p c])) ∧ w = w' := by
  have B := RBit_any m p hm hp w
  have hr : mrk m p c = if bitB m p then c else 45 := rfl
  generalize mrk m p c = r at hr ⊢
  generalize bitB m p = b at B hr
  replace B := Lib.hid B
  cases b
  · obtain rfl : r = 45 := by simpa using hr
    clear hr
    go_enter Tryd.func25, Tryd.ntmps25
    go_wp2_with fail
    refine B.out.mono ?_
    rintro e w' ⟨rfl, rfl⟩
    go_wp2
    go_ret
    exact ⟨rfl, rfl⟩
  · obtain rfl : r = c := by simpa using hr
    clear hr
    go_enter Tryd.func25, Tryd.ntmps25
    go_wp2_with fail
    refine B.out.mono ?_
    rintro e w' ⟨rfl, rfl⟩
    go_wp2
    go_ret
    exact ⟨rfl, rfl⟩

theorem RType_any (m : Int) (hm : inI m) (w : World) :
    Calls Tryd.prog 15 #[.int .i64 m] w fun e w' => e = .returned (.int .i64 (typeI m)) ∧ w = w' := by
  have B1 := RBit_any m 2147483648 hm (by decide) w
  have B2 := RBit_any m 1073741824 hm (by decide) w
  have B3 := RBit_any m 536870912 hm (by decide) w
  have B4 := RBit_any m 134217728 hm (by decide) w
  have hr : typeI m = (if bitB m 2147483648 then 128 else 0) + (if bitB m 1073741824 then 64 else 0) + (if bitB m 536870912 then 32 else 0) + (if bitB m 134217728 then 8 else 0) := rfl
  generalize typeI m = r at hr ⊢
  generalize bitB m 2147483648 = b1 at *
  generalize bitB m 1073741824 = b2 at *
  generalize bitB m 536870912 = b3 at *
  generalize bitB m 134217728 = b4 at *
  replace B1 := Lib.hid B1
  replace B2 := Lib.hid B2
  replace B3 := Lib.hid B3
  replace B4 := Lib.hid B4
  replace hr := Lib.hid hr
  go_enter Tryd.func15, Tryd.ntmps15
  go_wp2_with fail
  refine B1.out.mono ?_
  rintro e w' ⟨rfl, rfl⟩
  cases b1
  all_goals
    go_wp2_with fail
    refine B2.out.mono ?_
    rintro e w' ⟨rfl, rfl⟩
    cases b2
    all_goals
      go_wp2_with fail
      refine B3.out.mono ?_
      rintro e w' ⟨rfl, rfl⟩
      cases b3
      all_goals
        go_wp2_with fail
        refine B4.out.mono ?_
        rintro e w' ⟨rfl, rfl⟩
        cases b4
        all_goals
          go_wp2
          go_ret
          rw [hr.out]
          exact ⟨rfl, rfl⟩
theorem Type_any (m : Int) (hm : inI m) (w : World) :
    Calls Tryd.prog 14 #[.int .i64 m] w fun e w' => e = .returned (.int .i64 (typeI m)) ∧ w = w' := by
  obtain ⟨hm1, hm2⟩ := hm
  by_cases h0 : m < 0
  · have hr := Lib.hid (typeI_neg h0)
    go_enter Tryd.func14, Tryd.ntmps14
    go_wp2
    go_ret
    exact ⟨ret_int hr.out.symm, rfl⟩
  · have hr := Lib.hid (type_bits (by omega) hm2)
    go_enter Tryd.func14, Tryd.ntmps14
    go_wp2
    go_ret
    exact ⟨ret_int hr.out, rfl⟩
theorem Inherit_any (d m : Int) (hd : inI d) (hm : inI m) (w : World) :
    Calls Tryd.prog 18 #[.int .i64 d, .int .i64 m] w fun e w' => e = .returned (.int .i64 (inhI d m)) ∧ w = w' := by
  obtain ⟨hm1, hm2⟩ := hm
  obtain ⟨hd1, hd2⟩ := hd
  by_cases h0 : 0 ≤ d
  · by_cases k0 : 0 ≤ m
    · have hb := and_bitB k0 hm2 31 (by decide)
      have e31 : ((2 ^ 31 : Nat) : Int) = 2147483648 := rfl
      rw [e31] at hb
      have hx : (bits .and .i64 m 2147483648 == 0) = !bitB m 2147483648 := by rw [← hb]; simp [bne]
      cases hbit : bitB m 2147483648 with
      | false =>
        have hr := Lib.hid (inh_bits k0 hm2 h0 hd2 _ hbit)
        rw [hbit] at hx
        clear hbit hb e31
        go_enter Tryd.func18, Tryd.ntmps18
        go_wp2
        go_ret
        exact ⟨ret_int hr.out, rfl⟩
      | true =>
        have hr := Lib.hid (inh_bits k0 hm2 h0 hd2 _ hbit)
        rw [hbit] at hx
        clear hbit hb e31
        go_enter Tryd.func18, Tryd.ntmps18
        go_wp2
        go_ret
        exact ⟨ret_int hr.out, rfl⟩
    · have hr : Hid (inhI d m = 0) := by unfold Hid inhI; rw [if_neg (by omega)]
      go_enter Tryd.func18, Tryd.ntmps18
      go_wp2
      go_ret
      exact ⟨ret_int hr.out.symm, rfl⟩
  · have hr : Hid (inhI d m = 0) := by unfold Hid inhI; rw [if_neg (by omega)]
    go_enter Tryd.func18, Tryd.ntmps18
    go_wp2
    go_ret
    exact ⟨ret_int hr.out.symm, rfl⟩
end Go.Proofs.YtogjkkijejgggaaDoor
