/-
  The reference's octets: Put, Get, PutText, GetText.
-/
import Derived.Test.YtlfdmbfbfadifaaGreatDoorSb
namespace Go.Proofs.YtlfdmbfbfadifaaGreatDoor.St
open Go.RowKit

set_option maxHeartbeats 400000 in
theorem valid_any (n : Int) (w : World) :
    Calls Tryz.prog 50 #[.int .i64 n] w fun e w' => e = .returned (.bool (wdB n)) ∧ w = w' := by
  go_enter Tryz.func50, Tryz.ntmps50
  go_wp2
  all_goals go_ret
  all_goals (refine ⟨retb ?_, rfl⟩; simp_all [wdB]; try omega)

/-- What is left of n behind j bytes is what the loop holds; the string holds the bytes before. -/
theorem divpow (m j : Nat) : m / 256 ^ j / 256 = m / 256 ^ (j + 1) := by rw [Nat.div_div_eq_div_mul, Nat.pow_succ]
set_option maxRecDepth 100000 in
set_option maxHeartbeats 800000 in
theorem rPut_any (n wd : Int) (hn : inI n) (w : World) :
    Calls Tryz.prog 25 #[.int .i64 n, .int .i64 wd] w fun e w' => e = .returned (.tuple #[.string ⟨(putR n wd).1.toArray⟩, .int .i64 (putR n wd).2]) ∧ Below w.heap.size w w' := by
  obtain ⟨hn1, hn2⟩ := hn
  by_cases hwd : wdB wd = true
  · have hwr := (wdB_iff wd).1 hwd
    obtain ⟨hw1, hw2⟩ := hwr
    have HW := Lib.hid hwd
    clear hwd
    by_cases h0 : n < 0
    · rw [putR_no ⟨hw1, hw2⟩ (.inl h0)]
      go_enter Tryz.func25, Tryz.ntmps25
      go_wp2_with (go_at_call 50; refine (valid_any _ _).mono ?_; rw [HW.out]; rintro e w' ⟨rfl, rfl⟩)
      refine wp_loop_rounds 1 ?_
      rw [rounds_succ]
      go_wp2
      go_ret2
      exact ⟨rfl, Below.refl _ _⟩
    · obtain ⟨k, rfl⟩ : ∃ k : Nat, wd = k := ⟨wd.toNat, by omega⟩
      obtain ⟨m, rfl⟩ : ∃ m : Nat, n = m := ⟨n.toNat, by omega⟩
      go_enter Tryz.func25, Tryz.ntmps25
      go_wp2_with (go_at_call 50; refine (valid_any _ _).mono ?_; rw [HW.out]; rintro e w' ⟨rfl, rfl⟩)
      go_loopw [6, 7, 8] (fun vs vl vj wr => ∃ (j : Nat) (r : Nat) (l : List UInt8), vj = .int .i64 (j : Int) ∧ vl = .int .i64 (r : Int) ∧ vs = .string ⟨l.toArray⟩ ∧ j ≤ k ∧ (r : Int) ≤ 9223372036854775807 ∧ l.length ≤ 8 ∧ Hid (r = m / 256 ^ j) ∧ Hid (l = le j m) ∧ Hid (Below w.heap.size w wr)) (fun _ _ vj _ => k - (intOf vj).toNat)
      case atStart => exact ⟨0, m, [], rfl, rfl, rfl, by omega, hn2, by simp, (by simp : m = m / 256 ^ 0), (rfl : [] = le 0 m), Below.refl _ _⟩
      case round =>
        obtain ⟨j, r, l, rfl, rfl, rfl, hj, hr, hl8, hrm, hl, hb⟩ := hrel
        by_cases hjk : j < k
        · have h1 := string_one wr (UInt8.ofNat (r % 256)) ((r : Int) % 256) (by simp)
          go_wp2
          refine ⟨⟨j + 1, r / 256, l ++ [UInt8.ofNat (r % 256)], by go_num, by go_num, ?_, by omega, by omega, ?_, ?_, ?_, ?_⟩, by simp [intOf]; omega⟩
          · rw [app_byte]
          · have h := hl.out; subst h; simp [le_len]; omega
          · have h := hrm.out; subst h; exact (divpow m j)
          · have h := hrm.out; subst h; have h := hl.out; subst h; exact (le_snoc j m).symm
          · exact hb.out.alloc hb.out.size _
        · obtain rfl : j = k := by omega
          have e1 := hrm.out
          by_cases hz : r = 0
          · have hR := putR_ok ⟨hw1, hw2⟩ (show (0 : Int) ≤ (m : Int) by omega) (by
              have : m < 256 ^ j := by
                rcases Nat.lt_or_ge m (256 ^ j) with h | h
                · exact h
                · have := Nat.div_pos h (Nat.pow_pos (by omega)); omega
              simpa using this)
            have HR := Lib.hid hR
            subst hz
            clear hR e1
            go_wp2
            go_ret2
            rw [HR.out, hl.out]
            exact ⟨by simp, hb.out⟩
          · have hR := putR_no ⟨hw1, hw2⟩ (.inr (by
              have : ¬ m < 256 ^ j := fun h => hz (by rw [e1, Nat.div_eq_of_lt h])
              simp; omega : 256 ^ ((j : Int)).toNat ≤ ((m : Int)).toNat))
            have HR := Lib.hid hR
            have hz' : ((r : Int) != 0) = true := by rw [bne_iff_ne]; omega
            clear hR e1 hz
            go_wp2
            go_ret2
            rw [HR.out]
            exact ⟨by simp, hb.out⟩
  · have hb : wdB wd = false := by simpa using hwd
    rw [putR_bad hb]
    have HB := Lib.hid hb
    clear hb hwd
    go_enter Tryz.func25, Tryz.ntmps25
    go_wp2_with (go_at_call 50; refine (valid_any _ _).mono ?_; rw [HB.out]; rintro e w' ⟨rfl, rfl⟩)
    go_ret2
    exact ⟨rfl, Below.refl _ _⟩
/-- The most significant bytes are read first: what is read is the value of the last ones. -/
theorem val_cons_sub (s : ByteArray) (a k : Nat) (h : a < s.size) : val (sub s a (k + 1)) = s[a].toNat + 256 * val (sub s (a + 1) k) := by
  have hlen : s.data.toList.length = s.size := Array.length_toList
  unfold sub
  rw [List.drop_eq_getElem_cons (by omega), List.take_succ_cons, val]
  rfl
theorem val_more (s : ByteArray) (a : Nat) : ∀ (j k : Nat), a + (j + k) ≤ s.size → val (sub s a (j + k)) = val (sub s a j) + 256 ^ j * val (sub s (a + j) k) := by
  intro j
  induction j with
  | zero => intro k _; simp [sub, val]
  | succ j ih =>
    intro k h
    rw [show j + 1 + k = j + (k + 1) by omega, ih (k + 1) (by omega), val_cons_sub s (a + j) k (by omega), val_sub s a j (by omega), Nat.pow_succ, show a + (j + 1) = a + j + 1 by omega, Nat.mul_add, Nat.mul_assoc]
    omega

set_option maxRecDepth 100000 in
set_option maxHeartbeats 800000 in
theorem rGet_any (s : ByteArray) (at' wd : Int) (hs : s.size ≤ maxLen) (w : World) :
    Calls Tryz.prog 28 #[.string s, .int .i64 at', .int .i64 wd] w fun e w' => e = .returned (.tuple #[.int .i64 (getR s.data.toList at' wd).1, .int .i64 (getR s.data.toList at' wd).2.1, .int .i64 (getR s.data.toList at' wd).2.2]) ∧ w = w' := by
  have hlen : s.data.toList.length = s.size := Array.length_toList
  unfold maxLen at hs
  by_cases hwd : wdB wd = true
  · have hwr := (wdB_iff wd).1 hwd
    obtain ⟨hw1, hw2⟩ := hwr
    have HW := Lib.hid hwd
    clear hwd
    by_cases h0 : at' < 0
    · have HR : Hid (getR s.data.toList at' wd = (0, 0, 1)) := by rw [getR, if_pos (by omega)]; exact rfl
      clear hlen
      go_enter Tryz.func28, Tryz.ntmps28
      go_wp2_with (go_at_call 50; refine (valid_any _ _).mono ?_; rw [HW.out]; rintro e w' ⟨rfl, rfl⟩)
      go_ret3
      rw [HR.out]
      exact ⟨rfl, rfl⟩
    obtain ⟨a, rfl⟩ : ∃ a : Nat, at' = a := ⟨at'.toNat, by omega⟩
    obtain ⟨k, rfl⟩ : ∃ k : Nat, wd = k := ⟨wd.toNat, by omega⟩
    by_cases h1 : s.size < a
    · have HR : Hid (getR s.data.toList a k = (0, 0, 1)) := by rw [getR, if_pos (by omega)]; exact rfl
      clear hlen
      go_enter Tryz.func28, Tryz.ntmps28
      go_wp2_with (go_at_call 50; refine (valid_any _ _).mono ?_; rw [HW.out]; rintro e w' ⟨rfl, rfl⟩)
      go_ret3
      rw [HR.out]
      exact ⟨rfl, rfl⟩
    by_cases h2 : s.size < a + k
    · have HR : Hid (getR s.data.toList a k = (0, 0, 3)) := by rw [getR, if_neg (by omega), if_pos (by omega)]; exact rfl
      clear hlen
      go_enter Tryz.func28, Tryz.ntmps28
      go_wp2_with (go_at_call 50; refine (valid_any _ _).mono ?_; rw [HW.out]; rintro e w' ⟨rfl, rfl⟩)
      go_ret3
      rw [HR.out]
      exact ⟨rfl, rfl⟩
    have HL := Lib.hid hlen
    clear hlen
    go_enter Tryz.func28, Tryz.ntmps28
    go_wp2_with (go_at_call 50; refine (valid_any _ _).mono ?_; rw [HW.out]; rintro e w' ⟨rfl, rfl⟩)
    go_loop [9, 10] (fun vn vj => ∃ (j : Nat) (i : Int) (n : Nat), vj = .int .i64 i ∧ i = (j : Int) - 1 ∧ vn = .int .i64 (n : Int) ∧ j ≤ k ∧ n < 9223372036854775808 ∧ Hid (n = val (sub s (a + j) (k - j)))) (fun _ vj => (intOf vj + 1).toNat)
    case atStart => exact ⟨k, _, 0, rfl, by omega, rfl, by omega, by omega, (by simp [sub, val] : 0 = val (sub s (a + k) (k - k)))⟩
    case round =>
      obtain ⟨j, i, n, rfl, hi, rfl, hj, hn, hv⟩ := hrel
      by_cases hj0 : j = 0
      · subst hj0
        obtain rfl : i = -1 := by omega
        have hsub : sub s (a + 0) (k - 0) = (s.data.toList.drop (a : Int).toNat).take (k : Int).toNat := rfl
        have HR : Hid (getR s.data.toList a k = ((n : Int), (a : Int) + (k : Int), 0)) := by
          have := HL.out
          rw [getR, if_neg (by omega), if_neg (by omega), ← hsub, ← hv.out, if_neg (by omega)]; exact rfl
        clear hsub hi
        go_wp2
        go_ret3
        rw [HR.out]
        exact ⟨rfl, rfl⟩
      · obtain ⟨j, rfl⟩ : ∃ d, j = d + 1 := ⟨j - 1, by omega⟩
        obtain rfl : i = (j : Int) := by omega
        have hvc := val_cons_sub s (a + j) (k - (j + 1)) (by omega)
        rw [show a + j + 1 = a + (j + 1) by omega, ← hv.out, show k - (j + 1) + 1 = k - j by omega] at hvc
        by_cases hbig : 36028797018963968 ≤ n
        · have HR : Hid (getR s.data.toList a k = (0, 0, 5)) := by
            have hL := HL.out
            have hm := val_more s a j (k - j) (by omega)
            rw [show j + (k - j) = k by omega] at hm
            have hp : 0 < 256 ^ j := Nat.pow_pos (by omega)
            have hq : val (sub s (a + j) (k - j)) ≤ 256 ^ j * val (sub s (a + j) (k - j)) := Nat.le_mul_of_pos_left _ hp
            rw [getR, if_neg (by omega), if_neg (by omega), if_pos (by show _ ≤ val (sub s a k); omega)]; exact rfl
          have hd : decide ((36028797018963968 : Int) ≤ (n : Int)) = true := by simpa using (by omega : (36028797018963968 : Int) ≤ (n : Int))
          have hn' : (n : Int) ≤ 9223372036854775807 := by omega
          clear hvc hi hbig hn
          go_wp2
          go_ret3
          rw [HR.out]
          exact ⟨rfl, rfl⟩
        · have hbd : a + j < s.size := by omega
          have hc : (s[a + j].toNat : Int) < 256 := by have := s[a + j].toNat_lt; omega
          have HV := Lib.hid hvc
          have hd : decide ((36028797018963968 : Int) ≤ (n : Int)) = false := by simpa using (by omega : (n : Int) < (36028797018963968 : Int))
          have HN := Lib.hid hbig
          clear hvc hi hbig hn
          go_wp2
          have hN := HN.out
          refine ⟨⟨j, (j : Int) - 1, s[a + j].toNat + 256 * n, by first | rfl | (congr 1), rfl, ?_, by omega, by omega, HV.out.symm⟩, ?_⟩
          · have e1 : wrap64 (256 * (n : Int)) = 256 * n := IntWalk.wrap64_in _ (by omega)
            rw [e1, IntWalk.wrap64_in _ (by omega)]
            congr 1
            omega
          · simp [intOf]; try omega
  · have hb : wdB wd = false := by simpa using hwd
    have HR : Hid (getR s.data.toList at' wd = (0, 0, 1)) := by
      have : ¬ (1 ≤ wd ∧ wd ≤ 8) := fun h => by rw [(wdB_iff wd).2 h] at hb; cases hb
      rw [getR, if_pos (by omega)]; exact rfl
    have HB := Lib.hid hb
    clear hb hwd hlen
    go_enter Tryz.func28, Tryz.ntmps28
    go_wp2_with (go_at_call 50; refine (valid_any _ _).mono ?_; rw [HB.out]; rintro e w' ⟨rfl, rfl⟩)
    go_ret3
    rw [HR.out]
    exact ⟨rfl, rfl⟩
set_option maxRecDepth 100000 in
set_option maxHeartbeats 800000 in
theorem rPutText_any (s : ByteArray) (hs : s.size ≤ maxLen) (w : World) :
    Calls Tryz.prog 75 #[.string s] w fun e w' => e = .returned (.tuple #[.string ⟨(putTextR s.data.toList).1.toArray⟩, .int .i64 (putTextR s.data.toList).2]) ∧ Below w.heap.size w w' := by
  have hlen : s.data.toList.length = s.size := Array.length_toList
  unfold maxLen at hs
  have hp := rPut_any s.size 2 ⟨by omega, by omega⟩ w
  rw [putR_len] at hp
  by_cases h : 65536 ≤ s.size
  · have HR : Hid (putTextR s.data.toList = ([], 4)) := by rw [putTextR, if_pos (by omega)]; exact rfl
    rw [if_pos h] at hp
    have HP := Lib.hid hp
    clear hp hlen
    go_enter Tryz.func75, Tryz.ntmps75
    go_wp2_with fail
    refine HP.out.mono ?_
    rintro e w' ⟨rfl, hB⟩
    go_wp2
    go_ret2
    rw [HR.out]
    exact ⟨rfl, hB⟩
  · have HR : Hid (putTextR s.data.toList = (le 2 s.size ++ s.data.toList, 0)) := by rw [putTextR, if_neg (by omega), hlen]; exact rfl
    rw [if_neg h] at hp
    have HP := Lib.hid hp
    have hz : (⟨(le 2 s.size).toArray⟩ : ByteArray).size = 2 := by show (le 2 s.size).toArray.size = 2; rw [List.size_toArray, le_len]
    have h2 : s.size ≤ 65535 := by omega
    clear hp hlen
    go_enter Tryz.func75, Tryz.ntmps75
    go_wp2_with fail
    refine HP.out.mono ?_
    rintro e w' ⟨rfl, hB⟩
    go_wp2
    go_ret2
    rw [HR.out, app_text]
    exact ⟨rfl, hB⟩

theorem retSEE {a b : ByteArray} {x y x' y' : Int} (h : a = b) (h2 : x = x') (h3 : y = y') : Ending.returned (.tuple #[.string a, .int .i64 x, .int .i64 y]) = .returned (.tuple #[.string b, .int .i64 x', .int .i64 y']) := by rw [h, h2, h3]
set_option maxRecDepth 100000 in
set_option maxHeartbeats 800000 in
theorem rGetText_any (s : ByteArray) (at' : Int) (hs : s.size ≤ maxLen) (w : World) :
    Calls Tryz.prog 79 #[.string s, .int .i64 at'] w fun e w' => e = .returned (.tuple #[.string ⟨(getTextR s.data.toList at').1.toArray⟩, .int .i64 (getTextR s.data.toList at').2.1, .int .i64 (getTextR s.data.toList at').2.2]) ∧ Below w.heap.size w w' := by
  have hlen : s.data.toList.length = s.size := Array.length_toList
  have hg := rGet_any s at' 2 hs w
  unfold maxLen at hs
  rcases getR2 s at' with ⟨c, hc, hc1, hc2, hr⟩ | ⟨n, b, hn, rfl, hb, hr⟩
  · have HR := Lib.hid (getTextR_bad hr hc)
    rw [hr] at hg
    have HG := Lib.hid hg
    have hcb : (c != 0) = true := by simpa using hc
    clear hg hr hlen
    go_enter Tryz.func79, Tryz.ntmps79
    go_wp2_with fail
    refine HG.out.mono ?_
    rintro e w' ⟨rfl, rfl⟩
    go_wp2
    go_ret3
    rw [HR.out]
    exact ⟨rfl, Below.refl _ _⟩
  · rw [hr] at hg
    have HG := Lib.hid hg
    by_cases h2 : s.size < b + 2 + n
    · have HR := Lib.hid (getTextR_short hlen hr h2)
      clear hg hr hlen
      go_enter Tryz.func79, Tryz.ntmps79
      go_wp2_with fail
      refine HG.out.mono ?_
      rintro e w' ⟨rfl, rfl⟩
      go_wp2
      go_ret3
      rw [HR.out]
      exact ⟨rfl, Below.refl _ _⟩
    · have HR := Lib.hid (getTextR_ok hlen hr h2)
      have HX := Lib.hid (ex_sub s (b + 2) n)
      clear hg hr hlen
      go_enter Tryz.func79, Tryz.ntmps79
      go_wp2_with fail
      refine HG.out.mono ?_
      rintro e w' ⟨rfl, rfl⟩
      go_wp2
      go_ret3
      rw [HR.out]
      exact ⟨retSEE HX.out rfl rfl, Below.refl _ _⟩
/-! ### The same over lists of bytes -/
theorem RPutM (n wd : Int) (hn : inI n) (w : World) :
    Calls Tryz.prog 25 #[.int .i64 n, .int .i64 wd] w fun e w' => e = .returned (.tuple #[.string (mk (putR n wd).1), .int .i64 (putR n wd).2]) ∧ Below w.heap.size w w' := rPut_any n wd hn w
theorem RGetM (l : List UInt8) (at' wd : Int) (hs : l.length ≤ maxLen) (w : World) :
    Calls Tryz.prog 28 #[.string (mk l), .int .i64 at', .int .i64 wd] w fun e w' => e = .returned (.tuple #[.int .i64 (getR l at' wd).1, .int .i64 (getR l at' wd).2.1, .int .i64 (getR l at' wd).2.2]) ∧ w = w' := by
  have h := rGet_any (mk l) at' wd (by rw [mk_size]; exact hs) w
  rw [mk_data] at h
  exact h
theorem RPutTextM (l : List UInt8) (hs : l.length ≤ maxLen) (w : World) :
    Calls Tryz.prog 75 #[.string (mk l)] w fun e w' => e = .returned (.tuple #[.string (mk (putTextR l).1), .int .i64 (putTextR l).2]) ∧ Below w.heap.size w w' := by
  have h := rPutText_any (mk l) (by rw [mk_size]; exact hs) w
  rw [mk_data] at h
  exact h
theorem RGetTextM (l : List UInt8) (at' : Int) (hs : l.length ≤ maxLen) (w : World) :
    Calls Tryz.prog 79 #[.string (mk l), .int .i64 at'] w fun e w' => e = .returned (.tuple #[.string (mk (getTextR l at').1), .int .i64 (getTextR l at').2.1, .int .i64 (getTextR l at').2.2]) ∧ Below w.heap.size w w' := by
  have h := rGetText_any (mk l) at' (by rw [mk_size]; exact hs) w
  rw [mk_data] at h
  exact h
end Go.Proofs.YtlfdmbfbfadifaaGreatDoor.St
