/-
  The walk over the statement OctetOnly.
-/
import Derived.Test.YtagllhphchmfhaaOn
namespace Go.Proofs.Ytagllhphchmfhaa
open Go.RowKit

theorem getR_cases (s : ByteArray) (a w : Int) : (∃ c, c ≠ 0 ∧ getR s.data.toList a w = (0, 0, c)) ∨
    (∃ (b k n : Nat), a = b ∧ w = k ∧ b + k ≤ s.size ∧ k ≤ 8 ∧ n < 9223372036854775808 ∧ getR s.data.toList a w = ((n : Int), (b : Int) + k, 0) ∧ putR n k = (sub s b k, 0)) := by
  have hlen : s.data.toList.length = s.size := Array.length_toList
  by_cases h1 : w < 1 ∨ 8 < w ∨ a < 0 ∨ (s.data.toList.length : Int) < a
  · exact .inl ⟨1, by omega, by rw [getR, if_pos h1]⟩
  by_cases h2 : (s.data.toList.length : Int) - a < w
  · exact .inl ⟨3, by omega, by rw [getR, if_neg h1, if_pos h2]⟩
  obtain ⟨b, rfl⟩ : ∃ b : Nat, a = b := ⟨a.toNat, by omega⟩
  obtain ⟨k, rfl⟩ : ∃ k : Nat, w = k := ⟨w.toNat, by omega⟩
  have hs : (s.data.toList.drop (b : Int).toNat).take (k : Int).toNat = sub s b k := rfl
  by_cases h3 : 9223372036854775808 ≤ val (sub s b k)
  · exact .inl ⟨5, by omega, by rw [getR, if_neg h1, if_neg h2, hs, if_pos h3]⟩
  have hl := sub_len s b k (by omega)
  have hv := val_sub_lt s b k (by omega)
  refine .inr ⟨b, k, val (sub s b k), rfl, rfl, by omega, by omega, by omega, by rw [getR, if_neg h1, if_neg h2, hs, if_neg h3], ?_⟩
  rw [putR_ok ⟨by omega, by omega⟩ (by omega) (by simpa using hv)]
  have := le_val (sub s b k)
  rw [hl] at this
  simp [this]
theorem sub_add (s : ByteArray) (a j k : Nat) : sub s a (j + k) = sub s a j ++ sub s (a + j) k := by
  unfold sub
  rw [List.take_add, List.drop_drop]
theorem getTextR_cases (s : ByteArray) (a : Int) : (∃ c, c ≠ 0 ∧ getTextR s.data.toList a = ([], 0, c)) ∨
    (∃ (b n : Nat), a = b ∧ b + 2 + n ≤ s.size ∧ n < 65536 ∧ getTextR s.data.toList a = (sub s (b + 2) n, (b : Int) + 2 + n, 0) ∧ putTextR (sub s (b + 2) n) = (sub s b (2 + n), 0)) := by
  have hlen : s.data.toList.length = s.size := Array.length_toList
  rcases getR_cases s a 2 with ⟨c, hc, h⟩ | ⟨b, k, n, rfl, hk, hb, _, hn, hg, hp⟩
  · exact .inl ⟨c, hc, getTextR_bad h hc⟩
  · obtain rfl : k = 2 := by omega
    rw [show ((2 : Nat) : Int) = 2 from rfl] at hp hg
    rw [putR_len] at hp
    have hn2 : n < 65536 := by
      rcases Nat.lt_or_ge n 65536 with h | h
      · exact h
      · rw [if_pos h] at hp; have := congrArg Prod.snd hp; simp at this
    rw [if_neg (by omega)] at hp
    have hle : le 2 n = sub s b 2 := by injection hp
    by_cases h2 : s.size < b + 2 + n
    · exact .inl ⟨3, by omega, getTextR_short hlen hg h2⟩
    · refine .inr ⟨b, n, rfl, by omega, hn2, getTextR_ok hlen hg h2, ?_⟩
      have hl := sub_len s (b + 2) n (by omega)
      rw [putTextR, hl, if_neg (by omega), hle, sub_add]

set_option maxRecDepth 100000 in
set_option maxHeartbeats 3200000 in
theorem octetOnly_walk (s : ByteArray) (at' wd : Int) (hs : s.size ≤ maxLen) (_ha : inI at') (_hw : inI wd) (w : World) :
    Calls Try.prog 7 #[.string s, .int .i64 at', .int .i64 wd] w fun e w' => e = .returned (.bool true) ∧ Below w.heap.size w w' := by
  have HA := Lib.hid (fun w => alive_any w)
  have H1 := Lib.hid (Get_any s at' wd hs w)
  have H3 := Lib.hid (fun w => GetText_any s at' hs w)
  have hs' := hs
  unfold maxLen at hs
  by_cases hbig : 1000 < s.size
  · clear H1 H3
    go_enter Try.func7, Try.ntmps7
    go_wp2_with fail
    refine (HA.out _).mono ?_
    rintro e w' ⟨rfl, hB⟩
    go_wp2
    go_ret
    exact ⟨rfl, hB⟩
  have HT := Lib.hid (getTextR_cases s at')
  rcases getR_cases s at' wd with ⟨c, hc, h⟩ | ⟨b, k, n, rfl, rfl, hb, hk, hn, h, hp⟩
  · rw [h] at H1
    have hc0 : (c == 0) = false := by simpa using hc
    clear h hc
    rcases HT.out with ⟨d, hd, g⟩ | ⟨b2, m, rfl, hb2, hm, g, hpt⟩
    · rw [g] at H3
      have hd0 : (d == 0) = false := by simpa using hd
      clear g hd HT
      go_enter Try.func7, Try.ntmps7
      go_wp2_with fail
      refine H1.out.mono ?_
      rintro e w' ⟨rfl, rfl⟩
      go_wp2_with fail
      refine (H3.out _).mono ?_
      rintro e w3 ⟨rfl, B3⟩
      have HB := Lib.hid B3
      clear B3
      go_wp2_with fail
      refine (HA.out _).mono ?_
      rintro e w4 ⟨rfl, B4⟩
      go_wp2
      go_ret
      exact ⟨rfl, HB.out.trans (B4.mono HB.out.size)⟩
    · rw [g] at H3
      have hx := ex_sub s b2 (2 + m)
      rw [show b2 + (2 + m) = b2 + 2 + m by omega] at hx
      have h4 := fun w => PutText_any ⟨(sub s (b2 + 2) m).toArray⟩ (by show (sub s (b2 + 2) m).toArray.size ≤ _; rw [List.size_toArray, sub_len _ _ _ hb2]; unfold maxLen; omega) w
      rw [show (⟨(sub s (b2 + 2) m).toArray⟩ : ByteArray).data.toList = sub s (b2 + 2) m by simp, hpt] at h4
      have H4 := Lib.hid h4
      clear g hpt HT h4
      generalize sub s b2 (2 + m) = z at hx H4
      generalize sub s (b2 + 2) m = y at H3 H4
      go_enter Try.func7, Try.ntmps7
      go_wp2_with fail
      refine H1.out.mono ?_
      rintro e w' ⟨rfl, rfl⟩
      go_wp2_with fail
      refine (H3.out _).mono ?_
      rintro e w3 ⟨rfl, B3⟩
      have HB := Lib.hid B3
      clear B3
      go_wp2_with fail
      refine (H4.out _).mono ?_
      rintro e w4 ⟨rfl, B4⟩
      have HB2 := Lib.hid (HB.out.trans (B4.mono HB.out.size))
      clear HB B4
      go_wp2_with fail
      refine (HA.out _).mono ?_
      rintro e w4 ⟨rfl, B4⟩
      go_wp2
      go_ret
      exact ⟨rfl, HB2.out.trans (B4.mono HB2.out.size)⟩
  · rw [h] at H1
    have hx0 := ex_sub s b k
    have H2 := Lib.hid (fun w => Put_any n k ⟨by omega, by omega⟩ w)
    rw [hp] at H2
    clear h hp
    generalize sub s b k = u at hx0 H2
    rcases HT.out with ⟨d, hd, g⟩ | ⟨b2, m, hbb, hb2, hm, g, hpt⟩
    · rw [g] at H3
      have hd0 : (d == 0) = false := by simpa using hd
      clear g hd HT
      go_enter Try.func7, Try.ntmps7
      go_wp2_with fail
      refine H1.out.mono ?_
      rintro e w' ⟨rfl, rfl⟩
      go_wp2_with fail
      refine (H2.out _).mono ?_
      rintro e w2 ⟨rfl, B2⟩
      have HB0 := Lib.hid B2
      clear B2
      go_wp2_with fail
      refine (H3.out _).mono ?_
      rintro e w3 ⟨rfl, B3⟩
      have HB := Lib.hid (HB0.out.trans (B3.mono HB0.out.size))
      clear B3 HB0
      go_wp2_with fail
      refine (HA.out _).mono ?_
      rintro e w4 ⟨rfl, B4⟩
      go_wp2
      go_ret
      exact ⟨rfl, HB.out.trans (B4.mono HB.out.size)⟩
    · obtain rfl : b = b2 := by omega
      rw [g] at H3
      have hx := ex_sub s b (2 + m)
      rw [show b + (2 + m) = b + 2 + m by omega] at hx
      have h4 := fun w => PutText_any ⟨(sub s (b + 2) m).toArray⟩ (by show (sub s (b + 2) m).toArray.size ≤ _; rw [List.size_toArray, sub_len _ _ _ hb2]; unfold maxLen; omega) w
      rw [show (⟨(sub s (b + 2) m).toArray⟩ : ByteArray).data.toList = sub s (b + 2) m by simp, hpt] at h4
      have H4 := Lib.hid h4
      clear g hpt HT h4 hbb
      generalize sub s b (2 + m) = z at hx H4
      generalize sub s (b + 2) m = y at H3 H4
      go_enter Try.func7, Try.ntmps7
      go_wp2_with fail
      refine H1.out.mono ?_
      rintro e w' ⟨rfl, rfl⟩
      go_wp2_with fail
      refine (H2.out _).mono ?_
      rintro e w2 ⟨rfl, B2⟩
      have HB0 := Lib.hid B2
      clear B2
      go_wp2_with fail
      refine (H3.out _).mono ?_
      rintro e w3 ⟨rfl, B3⟩
      have HB := Lib.hid (HB0.out.trans (B3.mono HB0.out.size))
      clear B3 HB0
      go_wp2_with fail
      refine (H4.out _).mono ?_
      rintro e w4 ⟨rfl, B4⟩
      have HB2 := Lib.hid (HB.out.trans (B4.mono HB.out.size))
      clear HB B4
      go_wp2_with fail
      refine (HA.out _).mono ?_
      rintro e w4 ⟨rfl, B4⟩
      go_wp2
      go_ret
      exact ⟨rfl, HB2.out.trans (B4.mono HB2.out.size)⟩
end Go.Proofs.Ytagllhphchmfhaa
