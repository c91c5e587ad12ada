/-
  The reference's Get.
-/
import Derived.Test.YtagllhphchmfhaaOd
namespace Go.Proofs.Ytagllhphchmfhaa
open Go.RowKit

/-- The most significant bytes are read first: what is read is the value of the last ones. -/
theorem val_cons_sub (s : ByteArray) (a k : Nat) (h : a < s.size) : val (sub s a (k + 1)) = s[a].toNat + 256 * val (sub s (a + 1) k) := by
  have hlen : s.data.toList.length = s.size := Array.length_toList
  unfold sub
  rw [List.drop_eq_getElem_cons (by omega), List.take_succ_cons, val]
  rfl
theorem val_more (s : ByteArray) (a : Nat) : ∀ (j k : Nat), a + (j + k) ≤ s.size → val (sub s a (j + k)) = val (sub s a j) + 256 ^ j * val (sub s (a + j) k) := by
  intro j
  induction j with
  | zero => intro k _; simp [sub, val]
  | succ j ih =>
    intro k h
    rw [show j + 1 + k = j + (k + 1) by omega, ih (k + 1) (by omega), val_cons_sub s (a + j) k (by omega), val_sub s a j (by omega), Nat.pow_succ, show a + (j + 1) = a + j + 1 by omega, Nat.mul_add, Nat.mul_assoc]
    omega

set_option maxRecDepth 100000 in
set_option maxHeartbeats 800000 in
theorem RGet_any (s : ByteArray) (at' wd : Int) (hs : s.size ≤ maxLen) (w : World) :
    Calls Try.prog 12 #[.string s, .int .i64 at', .int .i64 wd] w fun e w' => e = .returned (.tuple #[.int .i64 (getR s.data.toList at' wd).1, .int .i64 (getR s.data.toList at' wd).2.1, .int .i64 (getR s.data.toList at' wd).2.2]) ∧ w = w' := by
  have hlen : s.data.toList.length = s.size := Array.length_toList
  unfold maxLen at hs
  by_cases hwd : wdB wd = true
  · have hwr := (wdB_iff wd).1 hwd
    obtain ⟨hw1, hw2⟩ := hwr
    have HW := Lib.hid hwd
    clear hwd
    by_cases h0 : at' < 0
    · have HR : Hid (getR s.data.toList at' wd = (0, 0, 1)) := by rw [getR, if_pos (by omega)]; exact rfl
      clear hlen
      go_enter Try.func12, Try.ntmps12
      go_wp2_with (go_at_call 22; refine (valid_any _ _).mono ?_; rw [HW.out]; rintro e w' ⟨rfl, rfl⟩)
      go_ret3
      rw [HR.out]
      exact ⟨rfl, rfl⟩
    obtain ⟨a, rfl⟩ : ∃ a : Nat, at' = a := ⟨at'.toNat, by omega⟩
    obtain ⟨k, rfl⟩ : ∃ k : Nat, wd = k := ⟨wd.toNat, by omega⟩
    by_cases h1 : s.size < a
    · have HR : Hid (getR s.data.toList a k = (0, 0, 1)) := by rw [getR, if_pos (by omega)]; exact rfl
      clear hlen
      go_enter Try.func12, Try.ntmps12
      go_wp2_with (go_at_call 22; refine (valid_any _ _).mono ?_; rw [HW.out]; rintro e w' ⟨rfl, rfl⟩)
      go_ret3
      rw [HR.out]
      exact ⟨rfl, rfl⟩
    by_cases h2 : s.size < a + k
    · have HR : Hid (getR s.data.toList a k = (0, 0, 3)) := by rw [getR, if_neg (by omega), if_pos (by omega)]; exact rfl
      clear hlen
      go_enter Try.func12, Try.ntmps12
      go_wp2_with (go_at_call 22; refine (valid_any _ _).mono ?_; rw [HW.out]; rintro e w' ⟨rfl, rfl⟩)
      go_ret3
      rw [HR.out]
      exact ⟨rfl, rfl⟩
    have HL := Lib.hid hlen
    clear hlen
    go_enter Try.func12, Try.ntmps12
    go_wp2_with (go_at_call 22; refine (valid_any _ _).mono ?_; rw [HW.out]; rintro e w' ⟨rfl, rfl⟩)
    go_loop [9, 10] (fun vn vj => ∃ (j : Nat) (i : Int) (n : Nat), vj = .int .i64 i ∧ i = (j : Int) - 1 ∧ vn = .int .i64 (n : Int) ∧ j ≤ k ∧ n < 9223372036854775808 ∧ Hid (n = val (sub s (a + j) (k - j)))) (fun _ vj => (intOf vj + 1).toNat)
    case atStart => exact ⟨k, _, 0, rfl, by omega, rfl, by omega, by omega, (by simp [sub, val] : 0 = val (sub s (a + k) (k - k)))⟩
    case round =>
      obtain ⟨j, i, n, rfl, hi, rfl, hj, hn, hv⟩ := hrel
      by_cases hj0 : j = 0
      · subst hj0
        obtain rfl : i = -1 := by omega
        have hsub : sub s (a + 0) (k - 0) = (s.data.toList.drop (a : Int).toNat).take (k : Int).toNat := rfl
        have HR : Hid (getR s.data.toList a k = ((n : Int), (a : Int) + (k : Int), 0)) := by
          have := HL.out
          rw [getR, if_neg (by omega), if_neg (by omega), ← hsub, ← hv.out, if_neg (by omega)]; exact rfl
        clear hsub hi
        go_wp2
        go_ret3
        rw [HR.out]
        exact ⟨rfl, rfl⟩
      · obtain ⟨j, rfl⟩ : ∃ d, j = d + 1 := ⟨j - 1, by omega⟩
        obtain rfl : i = (j : Int) := by omega
        have hvc := val_cons_sub s (a + j) (k - (j + 1)) (by omega)
        rw [show a + j + 1 = a + (j + 1) by omega, ← hv.out, show k - (j + 1) + 1 = k - j by omega] at hvc
        by_cases hbig : 36028797018963968 ≤ n
        · have HR : Hid (getR s.data.toList a k = (0, 0, 5)) := by
            have hL := HL.out
            have hm := val_more s a j (k - j) (by omega)
            rw [show j + (k - j) = k by omega] at hm
            have hp : 0 < 256 ^ j := Nat.pow_pos (by omega)
            have hq : val (sub s (a + j) (k - j)) ≤ 256 ^ j * val (sub s (a + j) (k - j)) := Nat.le_mul_of_pos_left _ hp
            rw [getR, if_neg (by omega), if_neg (by omega), if_pos (by show _ ≤ val (sub s a k); omega)]; exact rfl
          have hd : decide ((36028797018963968 : Int) ≤ (n : Int)) = true := by simpa using (by omega : (36028797018963968 : Int) ≤ (n : Int))
          have hn' : (n : Int) ≤ 9223372036854775807 := by omega
          clear hvc hi hbig hn
          go_wp2
          go_ret3
          rw [HR.out]
          exact ⟨rfl, rfl⟩
        · have hbd : a + j < s.size := by omega
          have hc : (s[a + j].toNat : Int) < 256 := by have := s[a + j].toNat_lt; omega
          have HV := Lib.hid hvc
          have hd : decide ((36028797018963968 : Int) ≤ (n : Int)) = false := by simpa using (by omega : (n : Int) < (36028797018963968 : Int))
          have HN := Lib.hid hbig
          clear hvc hi hbig hn
          go_wp2
          have hN := HN.out
          refine ⟨⟨j, (j : Int) - 1, s[a + j].toNat + 256 * n, by first | rfl | (congr 1), rfl, ?_, by omega, by omega, HV.out.symm⟩, ?_⟩
          · have e1 : wrap64 (256 * (n : Int)) = 256 * n := IntWalk.wrap64_in _ (by omega)
            rw [e1, IntWalk.wrap64_in _ (by omega)]
            congr 1
            omega
          · simp [intOf]; try omega
  · have hb : wdB wd = false := by simpa using hwd
    have HR : Hid (getR s.data.toList at' wd = (0, 0, 1)) := by
      have : ¬ (1 ≤ wd ∧ wd ≤ 8) := fun h => by rw [(wdB_iff wd).2 h] at hb; cases hb
      rw [getR, if_pos (by omega)]; exact rfl
    have HB := Lib.hid hb
    clear hb hwd hlen
    go_enter Try.func12, Try.ntmps12
    go_wp2_with (go_at_call 22; refine (valid_any _ _).mono ?_; rw [HB.out]; rintro e w' ⟨rfl, rfl⟩)
    go_ret3
    rw [HR.out]
    exact ⟨rfl, rfl⟩
end Go.Proofs.Ytagllhphchmfhaa
