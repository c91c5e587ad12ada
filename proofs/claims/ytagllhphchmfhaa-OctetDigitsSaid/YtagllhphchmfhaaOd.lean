/-
  octet.Get.
-/
import Derived.Test.YtagllhphchmfhaaOc
namespace Go.Proofs.Ytagllhphchmfhaa
open Go.RowKit

/-- The bytes of s from a on, k of them. -/
def sub (s : ByteArray) (a k : Nat) : List UInt8 := (s.data.toList.drop a).take k

theorem sub_len (s : ByteArray) (a k : Nat) (h : a + k ≤ s.size) : (sub s a k).length = k := by
  have hlen : s.data.toList.length = s.size := Array.length_toList
  unfold sub; rw [List.length_take, List.length_drop]; omega
theorem sub_snoc (s : ByteArray) (a k : Nat) (h : a + k < s.size) : sub s a (k + 1) = sub s a k ++ [s[a + k]] := by
  have hlen : s.data.toList.length = s.size := Array.length_toList
  unfold sub
  rw [List.take_succ_eq_append_getElem (by rw [List.length_drop]; omega), List.getElem_drop]
  rfl
theorem val_sub (s : ByteArray) (a k : Nat) (h : a + k < s.size) : val (sub s a (k + 1)) = val (sub s a k) + 256 ^ k * s[a + k].toNat := by
  rw [sub_snoc s a k h, val_snoc, sub_len s a k (by omega)]
theorem val_sub_lt (s : ByteArray) (a k : Nat) (h : a + k ≤ s.size) : val (sub s a k) < 256 ^ k := by
  have := val_lt (sub s a k); rwa [sub_len s a k h] at this
theorem pow_step {j : Nat} (hj : j < 8) : 256 ^ j * 256 ≤ 18446744073709551616 := by
  rcases (show j = 0 ∨ j = 1 ∨ j = 2 ∨ j = 3 ∨ j = 4 ∨ j = 5 ∨ j = 6 ∨ j = 7 by omega) with rfl | rfl | rfl | rfl | rfl | rfl | rfl | rfl <;> decide
theorem lt_step {j n c : Nat} (hn : n < 256 ^ j) (hc : c < 256) : n + 256 ^ j * c < 256 ^ j * 256 := by
  have h : 256 ^ j * c + 256 ^ j ≤ 256 ^ j * 256 := by rw [← Nat.mul_succ]; exact Nat.mul_le_mul_left _ (by omega)
  omega
theorem or_step (n j c : Nat) (hn : n < 256 ^ j) (hc : c < 256) (hj : j < 8) : bits .or .u64 (n : Int) (IntKind.u64.wrap (IntKind.u64.wrap (c : Int) * 2 ^ (8 * j))) = ((n + 256 ^ j * c : Nat) : Int) := by
  have hp := pow_step hj
  have hs := lt_step hn hc
  have e2 : (2 : Nat) ^ (8 * j) = 256 ^ j := by rw [Nat.pow_mul]
  have e1 : IntKind.u64.wrap (c : Int) = c := by rw [IntKind.wrap_u64]; omega
  have e3 : ((c : Int) * 2 ^ (8 * j)) = ((256 ^ j * c : Nat) : Int) := by rw [← e2, Int.natCast_mul, Int.natCast_pow, Int.mul_comm]; rfl
  rw [e1, e3, show IntKind.u64.wrap ((256 ^ j * c : Nat) : Int) = ((256 ^ j * c : Nat) : Int) by rw [IntKind.wrap_u64]; omega, u64_or_nat _ _ (by omega) (by omega), Nat.or_comm, ← e2, ← Nat.two_pow_add_eq_or_of_lt (by rw [e2]; exact hn), Nat.add_comm]

set_option maxRecDepth 100000 in
set_option maxHeartbeats 800000 in
theorem Get_any (s : ByteArray) (at' wd : Int) (hs : s.size ≤ maxLen) (w : World) :
    Calls Try.prog 11 #[.string s, .int .i64 at', .int .i64 wd] w fun e w' => e = .returned (.tuple #[.int .i64 (getR s.data.toList at' wd).1, .int .i64 (getR s.data.toList at' wd).2.1, .int .i64 (getR s.data.toList at' wd).2.2]) ∧ w = w' := by
  have hlen : s.data.toList.length = s.size := Array.length_toList
  unfold maxLen at hs
  by_cases hwd : wdB wd = true
  · have hwr := (wdB_iff wd).1 hwd
    obtain ⟨hw1, hw2⟩ := hwr
    have HW := Lib.hid hwd
    clear hwd
    by_cases h0 : at' < 0
    · have HR : Hid (getR s.data.toList at' wd = (0, 0, 1)) := by rw [getR, if_pos (by omega)]; exact rfl
      clear hlen
      go_enter Try.func11, Try.ntmps11
      go_wp2_with (go_at_call 21; refine (isWidth_any _ _).mono ?_; rw [HW.out]; rintro e w' ⟨rfl, rfl⟩)
      go_ret3
      rw [HR.out]
      exact ⟨rfl, rfl⟩
    obtain ⟨a, rfl⟩ : ∃ a : Nat, at' = a := ⟨at'.toNat, by omega⟩
    obtain ⟨k, rfl⟩ : ∃ k : Nat, wd = k := ⟨wd.toNat, by omega⟩
    by_cases h1 : s.size < a
    · have HR : Hid (getR s.data.toList a k = (0, 0, 1)) := by rw [getR, if_pos (by omega)]; exact rfl
      clear hlen
      go_enter Try.func11, Try.ntmps11
      go_wp2_with (go_at_call 21; refine (isWidth_any _ _).mono ?_; rw [HW.out]; rintro e w' ⟨rfl, rfl⟩)
      go_ret3
      rw [HR.out]
      exact ⟨rfl, rfl⟩
    by_cases h2 : s.size < a + k
    · have HR : Hid (getR s.data.toList a k = (0, 0, 3)) := by rw [getR, if_neg (by omega), if_pos (by omega)]; exact rfl
      clear hlen
      go_enter Try.func11, Try.ntmps11
      go_wp2_with (go_at_call 21; refine (isWidth_any _ _).mono ?_; rw [HW.out]; rintro e w' ⟨rfl, rfl⟩)
      go_ret3
      rw [HR.out]
      exact ⟨rfl, rfl⟩
    have HL := Lib.hid hlen
    clear hlen
    go_enter Try.func11, Try.ntmps11
    go_wp2_with (go_at_call 21; refine (isWidth_any _ _).mono ?_; rw [HW.out]; rintro e w' ⟨rfl, rfl⟩)
    go_loop [9, 31] (fun vn vj => ∃ (j n : Nat), vj = .int .i64 (j : Int) ∧ vn = .int .u64 (n : Int) ∧ j ≤ k ∧ n < 18446744073709551616 ∧ Hid (n = val (sub s a j))) (fun _ vj => k - (intOf vj).toNat)
    case atStart => exact ⟨0, 0, rfl, rfl, by omega, by omega, (by simp [sub, val] : 0 = val (sub s a 0))⟩
    case round =>
      obtain ⟨j, n, rfl, rfl, hj, hn, hv⟩ := hrel
      by_cases hjk : j < k
      · have hbd : a + j < s.size := by omega
        have hvs := val_sub s a j hbd
        have hvl := val_sub_lt s a j (by omega)
        rw [← hv.out] at hvs hvl
        have hos := or_step n j s[a + j].toNat hvl s[a + j].toNat_lt (by omega)
        have hbig := Nat.lt_of_lt_of_le (lt_step hvl s[a + j].toNat_lt) (pow_step (show j < 8 by omega))
        have HV := Lib.hid hvs
        have HO := Lib.hid hos
        clear hvs hvl hos
        go_wp2
        rw [HO.out]
        exact ⟨⟨j + 1, n + 256 ^ j * s[a + j].toNat, by go_num, rfl, by omega, hbig, HV.out.symm⟩, by simp [intOf]; omega⟩
      · obtain rfl : j = k := by omega
        have hsub : sub s a j = (s.data.toList.drop (a : Int).toNat).take (j : Int).toNat := rfl
        by_cases hm : 9223372036854775808 ≤ n
        · have HR : Hid (getR s.data.toList a j = (0, 0, 5)) := by
            have := HL.out
            rw [getR, if_neg (by omega), if_neg (by omega), ← hsub, ← hv.out, if_pos hm]; exact rfl
          clear hsub
          go_wp2
          go_ret3
          rw [HR.out]
          exact ⟨rfl, rfl⟩
        · have HR : Hid (getR s.data.toList a j = ((n : Int), (a : Int) + (j : Int), 0)) := by
            have := HL.out
            rw [getR, if_neg (by omega), if_neg (by omega), ← hsub, ← hv.out, if_neg hm]; exact rfl
          clear hsub
          go_wp2
          go_ret3
          rw [HR.out]
          exact ⟨rfl, rfl⟩
  · have hb : wdB wd = false := by simpa using hwd
    have HR : Hid (getR s.data.toList at' wd = (0, 0, 1)) := by
      have : ¬ (1 ≤ wd ∧ wd ≤ 8) := fun h => by rw [(wdB_iff wd).2 h] at hb; cases hb
      rw [getR, if_pos (by omega)]; exact rfl
    have HB := Lib.hid hb
    clear hb hwd hlen
    go_enter Try.func11, Try.ntmps11
    go_wp2_with (go_at_call 21; refine (isWidth_any _ _).mono ?_; rw [HB.out]; rintro e w' ⟨rfl, rfl⟩)
    go_ret3
    rw [HR.out]
    exact ⟨rfl, rfl⟩
end Go.Proofs.Ytagllhphchmfhaa
