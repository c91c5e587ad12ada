/-
  Walks: the reference's Inherit, Base, Open; the program's Open.
-/
import Derived.Test.YtogjkkijejgggaaDoorMf
namespace Go.Proofs.YtogjkkijejgggaaDoor
open Go.RowKit

theorem exec_tests (k : Nat) (hk : k < 9) : (execB k = false ∧ (pw k == 1) = false ∧ (pw k == 8) = false ∧ (pw k == 64) = false) ∨ (execB k = true ∧ (k = 0 ∨ k = 3 ∨ k = 6)) := by
  match k, hk with
  | 0, _ | 1, _ | 2, _ | 3, _ | 4, _ | 5, _ | 6, _ | 7, _ | 8, _ => decide
  | n + 9, h => omega
theorem inhK_bd {d m : Int} (h0 : 0 ≤ m) (k : Nat) (hk : k ≤ 9) : -512 * k ≤ inhK d m k ∧ inhK d m k ≤ m := by
  induction k with
  | zero => show -512 * ((0 : Nat) : Int) ≤ m ∧ m ≤ m; omega
  | succ k ih =>
    have ih := ih (by omega)
    have hp := pw_bd k (by omega)
    show -512 * ((k + 1 : Nat) : Int) ≤ inhK d m k - (if cutB d m k then pw k else 0) ∧ inhK d m k - (if cutB d m k then pw k else 0) ≤ m
    split <;> omega

set_option maxHeartbeats 3200000 in
theorem RInherit_any (d m : Int) (hd : inI d) (hm : inI m) (w : World) :
    Calls Tryd.prog 19 #[.int .i64 d, .int .i64 m] w fun e w' => e = .returned (.int .i64 (inhI d m)) ∧ w = w' := by
  have B := Lib.hid (fun m p hm w hp => RBit_any m p hm hp w)
  have HM := Lib.hid hm
  have HD := Lib.hid hd
  obtain ⟨hm1, hm2⟩ := hm
  obtain ⟨hd1, hd2⟩ := hd
  by_cases h0 : 0 ≤ d
  · by_cases k0 : 0 ≤ m
    · have hr := Lib.hid (inhK_end k0 hm2 h0 hd2)
      have hbd := Lib.hid (fun k hk => inhK_bd (d := d) k0 k hk)
      have B3 := B.out m 2147483648 HM.out w (by decide)
      have hcd : Hid (∀ k, cutB d m k = ((bitB m (pw k) && !bitB d (pw k)) && (bitB m 2147483648 || !execB k))) := fun k => rfl
      generalize bitB m 2147483648 = bdir at B3 hcd
      replace B3 := Lib.hid B3
      go_enter Tryd.func19, Tryd.ntmps19
      go_wp2
      go_loop [5, 6] (fun vr vp => ∃ k : Nat, k ≤ 9 ∧ vp = .int .i64 (pw k) ∧ vr = .int .i64 (inhK d m k)) (fun _ vp => (512 - intOf vp).toNat)
      case atStart => exact ⟨0, by omega, rfl, rfl⟩
      case round =>
        obtain ⟨k, hk, rfl, rfl⟩ := hrel
        obtain ⟨r1, r2⟩ := hbd.out k hk
        by_cases hlt : k < 9
        · have hp := pw_bd k hk
          have hnx := pw_next k hlt
          have hle : pw k ≤ 256 := by have := pw_bd (k + 1) (by omega); omega
          have B1 := B.out m (pw k) HM.out w (by omega)
          have B2 := B.out d (pw k) HD.out w (by omega)
          have hc := hcd.out k
          have hs : inhK d m (k + 1) = inhK d m k - if cutB d m k then pw k else 0 := rfl
          rw [hc] at hs
          rcases exec_tests k hlt with ⟨ex, t1, t8, t64⟩ | ⟨ex, rfl | rfl | rfl⟩
          all_goals
            rw [ex] at hs
            clear ex hc
            generalize bitB m _ = bm at B1 hs
            generalize bitB d _ = bd at B2 hs
            replace B1 := Lib.hid B1
            replace B2 := Lib.hid B2
            replace hs := Lib.hid hs
            replace hnx := Lib.hid hnx
          rotate_left
          · have t1 : (pw 0 == 1) = true := by decide
            cases bm
            · go_wp2_with fail
              refine B1.out.mono ?_
              rintro e w' ⟨rfl, rfl⟩
              go_wp2
              go_round
              case rel => exact ⟨0 + 1, by omega, congrArg (Value.int .i64) hnx.out, congrArg (Value.int .i64) (by have h := hs.out; simpa using h.symm)⟩
              case measure => simp [intOf]; omega
            · cases bd
              · cases bdir
                all_goals
                  go_wp2_with fail
                  refine B1.out.mono ?_
                  rintro e w' ⟨rfl, rfl⟩
                  go_wp2_with fail
                  refine B2.out.mono ?_
                  rintro e w' ⟨rfl, rfl⟩
                  go_wp2_with fail
                  refine B3.out.mono ?_
                  rintro e w' ⟨rfl, rfl⟩
                  go_wp2
                  go_round
                  case rel => exact ⟨0 + 1, by omega, congrArg (Value.int .i64) hnx.out, congrArg (Value.int .i64) (by have h := hs.out; simpa using h.symm)⟩
                  case measure => simp [intOf]; omega
              · go_wp2_with fail
                refine B1.out.mono ?_
                rintro e w' ⟨rfl, rfl⟩
                go_wp2_with fail
                refine B2.out.mono ?_
                rintro e w' ⟨rfl, rfl⟩
                go_wp2
                go_round
                case rel => exact ⟨0 + 1, by omega, congrArg (Value.int .i64) hnx.out, congrArg (Value.int .i64) (by have h := hs.out; simpa using h.symm)⟩
                case measure => simp [intOf]; omega
          · have t1 : (pw 3 == 1) = false := by decide
            have t8 : (pw 3 == 8) = true := by decide
            cases bm
            · go_wp2_with fail
              refine B1.out.mono ?_
              rintro e w' ⟨rfl, rfl⟩
              go_wp2
              go_round
              case rel => exact ⟨3 + 1, by omega, congrArg (Value.int .i64) hnx.out, congrArg (Value.int .i64) (by have h := hs.out; simpa using h.symm)⟩
              case measure => simp [intOf]; omega
            · cases bd
              · cases bdir
                all_goals
                  go_wp2_with fail
                  refine B1.out.mono ?_
                  rintro e w' ⟨rfl, rfl⟩
                  go_wp2_with fail
                  refine B2.out.mono ?_
                  rintro e w' ⟨rfl, rfl⟩
                  go_wp2_with fail
                  refine B3.out.mono ?_
                  rintro e w' ⟨rfl, rfl⟩
                  go_wp2
                  go_round
                  case rel => exact ⟨3 + 1, by omega, congrArg (Value.int .i64) hnx.out, congrArg (Value.int .i64) (by have h := hs.out; simpa using h.symm)⟩
                  case measure => simp [intOf]; omega
              · go_wp2_with fail
                refine B1.out.mono ?_
                rintro e w' ⟨rfl, rfl⟩
                go_wp2_with fail
                refine B2.out.mono ?_
                rintro e w' ⟨rfl, rfl⟩
                go_wp2
                go_round
                case rel => exact ⟨3 + 1, by omega, congrArg (Value.int .i64) hnx.out, congrArg (Value.int .i64) (by have h := hs.out; simpa using h.symm)⟩
                case measure => simp [intOf]; omega
          · have t1 : (pw 6 == 1) = false := by decide
            have t8 : (pw 6 == 8) = false := by decide
            have t64 : (pw 6 == 64) = true := by decide
            cases bm
            · go_wp2_with fail
              refine B1.out.mono ?_
              rintro e w' ⟨rfl, rfl⟩
              go_wp2
              go_round
              case rel => exact ⟨6 + 1, by omega, congrArg (Value.int .i64) hnx.out, congrArg (Value.int .i64) (by have h := hs.out; simpa using h.symm)⟩
              case measure => simp [intOf]; omega
            · cases bd
              · cases bdir
                all_goals
                  go_wp2_with fail
                  refine B1.out.mono ?_
                  rintro e w' ⟨rfl, rfl⟩
                  go_wp2_with fail
                  refine B2.out.mono ?_
                  rintro e w' ⟨rfl, rfl⟩
                  go_wp2_with fail
                  refine B3.out.mono ?_
                  rintro e w' ⟨rfl, rfl⟩
                  go_wp2
                  go_round
                  case rel => exact ⟨6 + 1, by omega, congrArg (Value.int .i64) hnx.out, congrArg (Value.int .i64) (by have h := hs.out; simpa using h.symm)⟩
                  case measure => simp [intOf]; omega
              · go_wp2_with fail
                refine B1.out.mono ?_
                rintro e w' ⟨rfl, rfl⟩
                go_wp2_with fail
                refine B2.out.mono ?_
                rintro e w' ⟨rfl, rfl⟩
                go_wp2
                go_round
                case rel => exact ⟨6 + 1, by omega, congrArg (Value.int .i64) hnx.out, congrArg (Value.int .i64) (by have h := hs.out; simpa using h.symm)⟩
                case measure => simp [intOf]; omega
          · cases bm
            · go_wp2_with fail
              refine B1.out.mono ?_
              rintro e w' ⟨rfl, rfl⟩
              go_wp2
              go_round
              case rel => exact ⟨k + 1, by omega, congrArg (Value.int .i64) hnx.out, congrArg (Value.int .i64) (by have h := hs.out; simpa using h.symm)⟩
              case measure => simp [intOf]; omega
            · cases bd
              · cases bdir
                all_goals
                  go_wp2_with fail
                  refine B1.out.mono ?_
                  rintro e w' ⟨rfl, rfl⟩
                  go_wp2_with fail
                  refine B2.out.mono ?_
                  rintro e w' ⟨rfl, rfl⟩
                  go_wp2_with fail
                  refine B3.out.mono ?_
                  rintro e w' ⟨rfl, rfl⟩
                  go_wp2
                  go_round
                  case rel => exact ⟨k + 1, by omega, congrArg (Value.int .i64) hnx.out, congrArg (Value.int .i64) (by have h := hs.out; simpa using h.symm)⟩
                  case measure => simp [intOf]; omega
              · go_wp2_with fail
                refine B1.out.mono ?_
                rintro e w' ⟨rfl, rfl⟩
                go_wp2_with fail
                refine B2.out.mono ?_
                rintro e w' ⟨rfl, rfl⟩
                go_wp2
                go_round
                case rel => exact ⟨k + 1, by omega, congrArg (Value.int .i64) hnx.out, congrArg (Value.int .i64) (by have h := hs.out; simpa using h.symm)⟩
                case measure => simp [intOf]; omega
        · obtain rfl : k = 9 := by omega
          go_wp2
          go_ret
          exact ⟨ret_int hr.out, rfl⟩
    · have hr : Hid (inhI d m = 0) := by unfold Hid inhI; rw [if_neg (by omega)]
      go_enter Tryd.func19, Tryd.ntmps19
      go_wp2
      go_ret
      exact ⟨ret_int hr.out.symm, rfl⟩
  · have hr : Hid (inhI d m = 0) := by unfold Hid inhI; rw [if_neg (by omega)]
    go_enter Tryd.func19, Tryd.ntmps19
    go_wp2
    go_ret
    exact ⟨ret_int hr.out.symm, rfl⟩

theorem baseRights_any (b : Int) (h0 : 0 ≤ b) (h1 : b ≤ 3) (w : World) :
    Calls Tryd.prog 27 #[.int .i64 b] w fun e w' => e = .returned (.int .i64 (rightsL b false)) ∧ w = w' := by
  have h : b = 0 ∨ b = 1 ∨ b = 2 ∨ b = 3 := by omega
  rcases h with rfl | rfl | rfl | rfl
  all_goals
    go_enter Tryd.func27, Tryd.ntmps27
    go_wp2
    go_ret
    exact ⟨rfl, rfl⟩
theorem rights_or (b : Int) (h0 : 0 ≤ b) (h1 : b ≤ 3) : bits .or .i64 (rightsL b false) 2 = rightsL b true := by
  have h : b = 0 ∨ b = 1 ∨ b = 2 ∨ b = 3 := by omega
  rcases h with rfl | rfl | rfl | rfl <;> decide
theorem ret_two {a b : Int} {x : Int × Int} (h : (a, b) = x) : Ending.returned (.tuple #[.int .i64 a, .int .i64 b]) = .returned (.tuple #[.int .i64 x.1, .int .i64 x.2]) := by rw [← h]
set_option maxHeartbeats 1600000 in
theorem Open_any (m : Int) (hm : inI m) (w : World) :
    Calls Tryd.prog 16 #[.int .i64 m] w fun e w' => e = .returned (.tuple #[.int .i64 (openI m).1, .int .i64 (openI m).2]) ∧ w = w' := by
  obtain ⟨hm1, hm2⟩ := hm
  by_cases h0 : 0 ≤ m
  · have ho := open_bits h0 hm2
    cases hk : okO m with
    | false =>
      have hr : Hid ((0, 12) = openI m) := by unfold Hid openI; rw [hk]; rfl
      rw [hk] at ho
      have ho' : (bits .andNot .i64 m 83 == 0) = false := by simpa [bne] using ho
      clear hk
      go_enter Tryd.func16, Tryd.ntmps16
      go_wp2
      go_ret2
      exact ⟨ret_two hr.out, rfl⟩
    | true =>
      have hr : Hid ((rightsL (m % 4) (truncO m), 0) = openI m) := by unfold Hid openI; rw [hk]; rfl
      rw [hk] at ho
      have ht := trunc_bits h0 hm2
      have hb := base_bits h0 hm2
      have C := baseRights_any (m % 4) (by omega) (by omega) w
      have hor := rights_or (m % 4) (by omega) (by omega)
      have HR2 : Hid (∀ t, truncO m = t → (if t then rightsL (m % 4) true else rightsL (m % 4) false, (0 : Int)) = openI m) := fun t h => by
        rw [← hr.out, h]; cases t <;> rfl
      generalize rightsL (m % 4) false = ra at C hor HR2
      rw [← hb] at C
      clear hk hb hr
      have hr2 : Hid (∀ t, truncO m = t → (if t then rightsL (m % 4) true else ra, (0 : Int)) = openI m) := HR2.out
      replace C := Lib.hid C
      generalize rightsL (m % 4) true = rb at *
      replace hor := Lib.hid hor
      cases htr : truncO m with
      | false =>
        rw [htr] at ht
        have hr3 := Lib.hid (hr2.out _ htr)
        have ht' : (bits .and .i64 m 16 == 0) = true := by simpa [bne] using ht
        clear htr
        go_enter Tryd.func16, Tryd.ntmps16
        go_wp2_with fail
        refine C.out.mono ?_
        rintro e w' ⟨rfl, rfl⟩
        go_wp2
        go_ret2
        exact ⟨ret_two (by have h := hr3.out; simpa using h), rfl⟩
      | true =>
        rw [htr] at ht
        have hr3 := Lib.hid (hr2.out _ htr)
        have ht' : (bits .and .i64 m 16 == 0) = false := by simpa [bne] using ht
        clear htr
        go_enter Tryd.func16, Tryd.ntmps16
        go_wp2_with fail
        refine C.out.mono ?_
        rintro e w' ⟨rfl, rfl⟩
        have hor2 := hor.out
        go_wp2
        go_ret2
        exact ⟨ret_two (by have h := hr3.out; simpa using h), rfl⟩
  · have hr : Hid ((0, 12) = openI m) := by
      unfold Hid openI
      have : okO m = false := by unfold okO; simp only [decide_eq_false_iff_not]; omega
      rw [this]; rfl
    go_enter Tryd.func16, Tryd.ntmps16
    go_wp2
    go_ret2
    exact ⟨ret_two hr.out, rfl⟩

theorem ret_three {a : Int} {b c : Bool} {x : Int × Bool × Bool} (h : x = (a, b, c)) : Ending.returned (.tuple #[.int .i64 a, .bool b, .bool c]) = .returned (.tuple #[.int .i64 x.1, .bool x.2.1, .bool x.2.2]) := by rw [h]
set_option maxHeartbeats 1600000 in
theorem RBase_any (x : Int) (hx : -1000 ≤ x ∧ x ≤ 1000) (w : World) :
    Calls Tryd.prog 28 #[.int .i64 x] w fun e w' => e = .returned (.tuple #[.int .i64 (baseI x).1, .bool (baseI x).2.1, .bool (baseI x).2.2]) ∧ w = w' := by
  obtain ⟨hx1, hx2⟩ := hx
  have HH := Lib.hid (fun k h0 h1 => hits (x := x) (k := k) h0 h1)
  have HN := Lib.hid (fun h => hits_none (x := x) h)
  generalize baseI x = r at *
  go_enter Tryd.func28, Tryd.ntmps28
  go_wp2
  go_loop [5] (fun vk => ∃ k : Nat, k ≤ 4 ∧ vk = .int .i64 (k : Int) ∧ Hid (∀ j : Int, 0 ≤ j → j < k → hitO x j = false ∧ hitT x j = false)) (fun vk => 4 - (intOf vk).toNat)
  case atStart => exact ⟨0, by omega, rfl, fun j h0 h1 => by omega⟩
  case round =>
    obtain ⟨k, hk, rfl, hj⟩ := hrel
    by_cases hlt : k < 4
    · obtain ⟨hA, hB⟩ := HH.out k (by omega) (by omega)
      replace hA := Lib.hid hA
      replace hB := Lib.hid hB
      have bt : ∀ c : Int, x - (k : Int) = c → ((x - (k : Int) == c) = true) := fun c h => by simpa using h
      have bf : ∀ c : Int, ¬ x - (k : Int) = c → ((x - (k : Int) == c) = false) := fun c h => by simpa using h
      replace bt := Lib.hid bt
      replace bf := Lib.hid bf
      by_cases y0 : x - (k : Int) = 0
      · have t0 := bt.out 0 y0
        have Y := Lib.hid y0
        clear y0
        go_wp2
        go_ret3
        exact ⟨ret_three (hA.out (decide_eq_true (.inl Y.out))), rfl⟩
      have t0 := bf.out 0 y0
      have Y0 := Lib.hid y0
      clear y0
      by_cases y1 : x - (k : Int) = 64
      · have t1 := bt.out 64 y1
        have Y := Lib.hid y1
        clear y1
        go_wp2
        go_ret3
        exact ⟨ret_three (hA.out (decide_eq_true (.inr Y.out))), rfl⟩
      have t1 := bf.out 64 y1
      have Y1 := Lib.hid y1
      clear y1
      by_cases y2 : x - (k : Int) = 16
      · have t2 := bt.out 16 y2
        have Y := Lib.hid y2
        clear y2
        go_wp2
        go_ret3
        exact ⟨ret_three (hB.out (decide_eq_true (.inl Y.out))), rfl⟩
      have t2 := bf.out 16 y2
      have Y2 := Lib.hid y2
      clear y2
      by_cases y3 : x - (k : Int) = 80
      · have t3 := bt.out 80 y3
        have Y := Lib.hid y3
        clear y3
        go_wp2
        go_ret3
        exact ⟨ret_three (hB.out (decide_eq_true (.inr Y.out))), rfl⟩
      have t3 := bf.out 80 y3
      have Y3 := Lib.hid y3
      clear y3
      go_wp2
      go_round
      case rel =>
        refine ⟨k + 1, by omega, by go_num, fun j h0 h1 => ?_⟩
        by_cases e : j = k
        · subst e
          exact ⟨decide_eq_false (by have := Y0.out; have := Y1.out; omega), decide_eq_false (by have := Y2.out; have := Y3.out; omega)⟩
        · exact hj.out j h0 (by omega)
      case measure => simp [intOf]; omega
    · obtain rfl : k = 4 := by omega
      have hr := HN.out (fun j h0 h1 => hj.out j h0 (by omega))
      replace hr := Lib.hid hr
      go_wp2
      go_ret3
      exact ⟨ret_three hr.out, rfl⟩
end Go.Proofs.YtogjkkijejgggaaDoor
