/-
  The reference's Put.
-/
import Derived.Test.YtagllhphchmfhaaOb
namespace Go.Proofs.Ytagllhphchmfhaa
open Go.RowKit

/-- What is left of n behind j bytes is what the loop holds; the string holds the bytes before. -/
theorem divpow (m j : Nat) : m / 256 ^ j / 256 = m / 256 ^ (j + 1) := by rw [Nat.div_div_eq_div_mul, Nat.pow_succ]
theorem app_byte (l : List UInt8) (c : UInt8) : (⟨l.toArray⟩ : ByteArray) ++ ⟨#[c]⟩ = ⟨(l ++ [c]).toArray⟩ := by
  apply ByteArray.ext
  simp [ByteArray.data_append]

/-- 'string([]byte{c})'. -/
theorem string_one (w : World) (c : UInt8) (x : Int) (hx : x = (c.toNat : Int)) :
    (convert 39 9 (.slice (some ⟨w.heap.size, 0, none⟩) 1 1)).run Try.prog (w.alloc (.cells #[.int .u8 x] 5)) = .ok (.string ⟨[c].toArray⟩) (w.alloc (.cells #[.int .u8 x] 5)) := by
  subst hx
  refine run_convert_bytes_back _ _ _ _ ⟨w.heap.size, 0, none⟩ 1 [c] Try.underlying39 Try.underlying5 Try.underlying9 fun j hj => ?_
  obtain rfl : j = 0 := by simpa using hj
  rw [show (⟨w.heap.size, 0, none⟩ : Addr).add 0 = ⟨w.heap.size, 0, none⟩ by simp [Addr.add], World.cell?_alloc_new]
  rfl

set_option maxRecDepth 100000 in
set_option maxHeartbeats 800000 in
theorem RPut_any (n wd : Int) (hn : inI n) (w : World) :
    Calls Try.prog 10 #[.int .i64 n, .int .i64 wd] w fun e w' => e = .returned (.tuple #[.string ⟨(putR n wd).1.toArray⟩, .int .i64 (putR n wd).2]) ∧ Below w.heap.size w w' := by
  obtain ⟨hn1, hn2⟩ := hn
  by_cases hwd : wdB wd = true
  · have hwr := (wdB_iff wd).1 hwd
    obtain ⟨hw1, hw2⟩ := hwr
    have HW := Lib.hid hwd
    clear hwd
    by_cases h0 : n < 0
    · rw [putR_no ⟨hw1, hw2⟩ (.inl h0)]
      go_enter Try.func10, Try.ntmps10
      go_wp2_with (go_at_call 22; refine (valid_any _ _).mono ?_; rw [HW.out]; rintro e w' ⟨rfl, rfl⟩)
      refine wp_loop_rounds 1 ?_
      rw [rounds_succ]
      go_wp2
      go_ret2
      exact ⟨rfl, Below.refl _ _⟩
    · obtain ⟨k, rfl⟩ : ∃ k : Nat, wd = k := ⟨wd.toNat, by omega⟩
      obtain ⟨m, rfl⟩ : ∃ m : Nat, n = m := ⟨n.toNat, by omega⟩
      go_enter Try.func10, Try.ntmps10
      go_wp2_with (go_at_call 22; refine (valid_any _ _).mono ?_; rw [HW.out]; rintro e w' ⟨rfl, rfl⟩)
      go_loopw [6, 7, 8] (fun vs vl vj wr => ∃ (j : Nat) (r : Nat) (l : List UInt8), vj = .int .i64 (j : Int) ∧ vl = .int .i64 (r : Int) ∧ vs = .string ⟨l.toArray⟩ ∧ j ≤ k ∧ (r : Int) ≤ 9223372036854775807 ∧ l.length ≤ 8 ∧ Hid (r = m / 256 ^ j) ∧ Hid (l = le j m) ∧ Hid (Below w.heap.size w wr)) (fun _ _ vj _ => k - (intOf vj).toNat)
      case atStart => exact ⟨0, m, [], rfl, rfl, rfl, by omega, hn2, by simp, (by simp : m = m / 256 ^ 0), (rfl : [] = le 0 m), Below.refl _ _⟩
      case round =>
        obtain ⟨j, r, l, rfl, rfl, rfl, hj, hr, hl8, hrm, hl, hb⟩ := hrel
        by_cases hjk : j < k
        · have h1 := string_one wr (UInt8.ofNat (r % 256)) ((r : Int) % 256) (by simp)
          go_wp2
          refine ⟨⟨j + 1, r / 256, l ++ [UInt8.ofNat (r % 256)], by go_num, by go_num, ?_, by omega, by omega, ?_, ?_, ?_, ?_⟩, by simp [intOf]; omega⟩
          · rw [app_byte]
          · have h := hl.out; subst h; simp [le_len]; omega
          · have h := hrm.out; subst h; exact (divpow m j)
          · have h := hrm.out; subst h; have h := hl.out; subst h; exact (le_snoc j m).symm
          · exact hb.out.alloc hb.out.size _
        · obtain rfl : j = k := by omega
          have e1 := hrm.out
          by_cases hz : r = 0
          · have hR := putR_ok ⟨hw1, hw2⟩ (show (0 : Int) ≤ (m : Int) by omega) (by
              have : m < 256 ^ j := by
                rcases Nat.lt_or_ge m (256 ^ j) with h | h
                · exact h
                · have := Nat.div_pos h (Nat.pow_pos (by omega)); omega
              simpa using this)
            have HR := Lib.hid hR
            subst hz
            clear hR e1
            go_wp2
            go_ret2
            rw [HR.out, hl.out]
            exact ⟨by simp, hb.out⟩
          · have hR := putR_no ⟨hw1, hw2⟩ (.inr (by
              have : ¬ m < 256 ^ j := fun h => hz (by rw [e1, Nat.div_eq_of_lt h])
              simp; omega : 256 ^ ((j : Int)).toNat ≤ ((m : Int)).toNat))
            have HR := Lib.hid hR
            have hz' : ((r : Int) != 0) = true := by rw [bne_iff_ne]; omega
            clear hR e1 hz
            go_wp2
            go_ret2
            rw [HR.out]
            exact ⟨by simp, hb.out⟩
  · have hb : wdB wd = false := by simpa using hwd
    rw [putR_bad hb]
    have HB := Lib.hid hb
    clear hb hwd
    go_enter Try.func10, Try.ntmps10
    go_wp2_with (go_at_call 22; refine (valid_any _ _).mono ?_; rw [HB.out]; rintro e w' ⟨rfl, rfl⟩)
    go_ret2
    exact ⟨rfl, Below.refl _ _⟩
end Go.Proofs.Ytagllhphchmfhaa
