/-
  PutText and GetText, package octet's and the reference's.
-/
import Derived.Test.YtagllhphchmfhaaOe
import Derived.Test.YtagllhphchmfhaaShelf
namespace Go.Proofs.Ytagllhphchmfhaa
open Go.RowKit

theorem putR_len (n : Nat) : putR (n : Int) 2 = if 65536 ≤ n then ([], 5) else (le 2 n, 0) := by
  by_cases h : 65536 ≤ n
  · rw [if_pos h, putR_no ⟨by omega, by omega⟩ (.inr (by simpa using h))]
  · rw [if_neg h, putR_ok ⟨by omega, by omega⟩ (by omega) (by simp; omega)]; rfl
theorem app_text (a : List UInt8) (s : ByteArray) : (⟨a.toArray⟩ : ByteArray) ++ s = ⟨(a ++ s.data.toList).toArray⟩ := by
  apply ByteArray.ext
  simp [ByteArray.data_append]

set_option maxRecDepth 100000 in
set_option maxHeartbeats 800000 in
theorem PutText_any (s : ByteArray) (hs : s.size ≤ maxLen) (w : World) :
    Calls Try.prog 13 #[.string s] w fun e w' => e = .returned (.tuple #[.string ⟨(putTextR s.data.toList).1.toArray⟩, .int .i64 (putTextR s.data.toList).2]) ∧ Below w.heap.size w w' := by
  have hlen : s.data.toList.length = s.size := Array.length_toList
  unfold maxLen at hs
  have hp := Put_any s.size 2 ⟨by omega, by omega⟩ w
  rw [putR_len] at hp
  by_cases h : 65536 ≤ s.size
  · have HR : Hid (putTextR s.data.toList = ([], 4)) := by rw [putTextR, if_pos (by omega)]; exact rfl
    rw [if_pos h] at hp
    have HP := Lib.hid hp
    clear hp hlen
    go_enter Try.func13, Try.ntmps13
    go_wp2_with fail
    refine HP.out.mono ?_
    rintro e w' ⟨rfl, hB⟩
    go_wp2
    go_ret2
    rw [HR.out]
    exact ⟨rfl, hB⟩
  · have HR : Hid (putTextR s.data.toList = (le 2 s.size ++ s.data.toList, 0)) := by rw [putTextR, if_neg (by omega), hlen]; exact rfl
    rw [if_neg h] at hp
    have HP := Lib.hid hp
    have hz : (⟨(le 2 s.size).toArray⟩ : ByteArray).size = 2 := by show (le 2 s.size).toArray.size = 2; rw [List.size_toArray, le_len]
    have h2 : s.size ≤ 65535 := by omega
    clear hp hlen
    go_enter Try.func13, Try.ntmps13
    go_wp2_with fail
    refine HP.out.mono ?_
    rintro e w' ⟨rfl, hB⟩
    go_wp2
    go_ret2
    rw [HR.out, app_text]
    exact ⟨rfl, hB⟩
set_option maxRecDepth 100000 in
set_option maxHeartbeats 800000 in
theorem RPutText_any (s : ByteArray) (hs : s.size ≤ maxLen) (w : World) :
    Calls Try.prog 14 #[.string s] w fun e w' => e = .returned (.tuple #[.string ⟨(putTextR s.data.toList).1.toArray⟩, .int .i64 (putTextR s.data.toList).2]) ∧ Below w.heap.size w w' := by
  have hlen : s.data.toList.length = s.size := Array.length_toList
  unfold maxLen at hs
  have hp := RPut_any s.size 2 ⟨by omega, by omega⟩ w
  rw [putR_len] at hp
  by_cases h : 65536 ≤ s.size
  · have HR : Hid (putTextR s.data.toList = ([], 4)) := by rw [putTextR, if_pos (by omega)]; exact rfl
    rw [if_pos h] at hp
    have HP := Lib.hid hp
    clear hp hlen
    go_enter Try.func14, Try.ntmps14
    go_wp2_with fail
    refine HP.out.mono ?_
    rintro e w' ⟨rfl, hB⟩
    go_wp2
    go_ret2
    rw [HR.out]
    exact ⟨rfl, hB⟩
  · have HR : Hid (putTextR s.data.toList = (le 2 s.size ++ s.data.toList, 0)) := by rw [putTextR, if_neg (by omega), hlen]; exact rfl
    rw [if_neg h] at hp
    have HP := Lib.hid hp
    have hz : (⟨(le 2 s.size).toArray⟩ : ByteArray).size = 2 := by show (le 2 s.size).toArray.size = 2; rw [List.size_toArray, le_len]
    have h2 : s.size ≤ 65535 := by omega
    clear hp hlen
    go_enter Try.func14, Try.ntmps14
    go_wp2_with fail
    refine HP.out.mono ?_
    rintro e w' ⟨rfl, hB⟩
    go_wp2
    go_ret2
    rw [HR.out, app_text]
    exact ⟨rfl, hB⟩

/-- What Get of two bytes comes to: an error, or a length below 65536 and the offset behind it. -/
theorem getR2 (s : ByteArray) (a : Int) : (∃ c, c ≠ 0 ∧ 0 < c ∧ c < 6 ∧ getR s.data.toList a 2 = (0, 0, c)) ∨ (∃ (n b : Nat), n < 65536 ∧ a = b ∧ b + 2 ≤ s.size ∧ getR s.data.toList a 2 = ((n : Int), (b : Int) + 2, 0)) := by
  have hlen : s.data.toList.length = s.size := Array.length_toList
  by_cases h1 : a < 0 ∨ (s.size : Int) < a
  · exact .inl ⟨1, by omega, by omega, by omega, by rw [getR, if_pos (by omega)]⟩
  by_cases h2 : (s.size : Int) - a < 2
  · exact .inl ⟨3, by omega, by omega, by omega, by rw [getR, if_neg (by omega), if_pos (by omega)]⟩
  obtain ⟨b, rfl⟩ : ∃ b : Nat, a = b := ⟨a.toNat, by omega⟩
  have hv := val_sub_lt s b 2 (by omega)
  refine .inr ⟨val (sub s b 2), b, by simpa using hv, rfl, by omega, ?_⟩
  rw [getR, if_neg (by omega), if_neg (by omega), if_neg (by show ¬ _ ≤ val (sub s b 2); omega)]
  rfl
theorem ex_sub (s : ByteArray) (b n : Nat) : s.extract b (b + n) = ⟨(sub s b n).toArray⟩ := by
  apply ByteArray.ext
  apply Array.ext'
  simp [ByteArray.data_extract, sub, Array.toList_extract, List.extract]
theorem getTextR_bad {l : List UInt8} {a c : Int} (h : getR l a 2 = (0, 0, c)) (hc : c ≠ 0) : getTextR l a = ([], 0, c) := by rw [getTextR, h, if_pos hc]
theorem getTextR_short {l : List UInt8} {b n : Nat} {m : Nat} (hl : l.length = m) (h : getR l (b : Int) 2 = ((n : Int), (b : Int) + 2, 0)) (h2 : m < b + 2 + n) : getTextR l b = ([], 0, 3) := by
  rw [getTextR, h, if_neg (by simp), if_pos (by simp only; omega)]
theorem getTextR_ok {l : List UInt8} {b n : Nat} {m : Nat} (hl : l.length = m) (h : getR l (b : Int) 2 = ((n : Int), (b : Int) + 2, 0)) (h2 : ¬ m < b + 2 + n) : getTextR l b = ((l.drop (b + 2)).take n, (b : Int) + 2 + n, 0) := by
  rw [getTextR, h, if_neg (by simp), if_neg (by simp only; omega)]
  simp only [Int.toNat_natCast]
  rw [show ((b : Int) + 2).toNat = b + 2 by omega]

set_option maxHeartbeats 400000 in
theorem sClone_any (s : ByteArray) (w : World) (hs : s.size ≤ 281474976710656) :
    Calls Try.prog 23 #[.string s] w fun e w' => e = .returned (.string s) ∧ Below w.heap.size w w' := by
  have H := Lib.hid (Try.stringslite_Clone s w hs)
  go_enter Try.func23, Try.ntmps23
  go_wp2_with fail
  refine H.out.mono ?_
  rintro e w' ⟨rfl, hB⟩
  go_wp2
  go_ret
  exact ⟨rfl, hB⟩
theorem retSEE {a b : ByteArray} {x y x' y' : Int} (h : a = b) (h2 : x = x') (h3 : y = y') : Ending.returned (.tuple #[.string a, .int .i64 x, .int .i64 y]) = .returned (.tuple #[.string b, .int .i64 x', .int .i64 y']) := by rw [h, h2, h3]

set_option maxRecDepth 100000 in
set_option maxHeartbeats 800000 in
theorem GetText_any (s : ByteArray) (at' : Int) (hs : s.size ≤ maxLen) (w : World) :
    Calls Try.prog 15 #[.string s, .int .i64 at'] w fun e w' => e = .returned (.tuple #[.string ⟨(getTextR s.data.toList at').1.toArray⟩, .int .i64 (getTextR s.data.toList at').2.1, .int .i64 (getTextR s.data.toList at').2.2]) ∧ Below w.heap.size w w' := by
  have hlen : s.data.toList.length = s.size := Array.length_toList
  have hg := Get_any s at' 2 hs w
  unfold maxLen at hs
  rcases getR2 s at' with ⟨c, hc, hc1, hc2, hr⟩ | ⟨n, b, hn, rfl, hb, hr⟩
  · have HR := Lib.hid (getTextR_bad hr hc)
    rw [hr] at hg
    have HG := Lib.hid hg
    have hcb : (c != 0) = true := by simpa using hc
    clear hg hr hlen
    go_enter Try.func15, Try.ntmps15
    go_wp2_with fail
    refine HG.out.mono ?_
    rintro e w' ⟨rfl, rfl⟩
    go_wp2
    go_ret3
    rw [HR.out]
    exact ⟨rfl, Below.refl _ _⟩
  · rw [hr] at hg
    have HG := Lib.hid hg
    by_cases h2 : s.size < b + 2 + n
    · have HR := Lib.hid (getTextR_short hlen hr h2)
      clear hg hr hlen
      go_enter Try.func15, Try.ntmps15
      go_wp2_with fail
      refine HG.out.mono ?_
      rintro e w' ⟨rfl, rfl⟩
      go_wp2
      go_ret3
      rw [HR.out]
      exact ⟨rfl, Below.refl _ _⟩
    · have HR := Lib.hid (getTextR_ok hlen hr h2)
      have HX := Lib.hid (ex_sub s (b + 2) n)
      clear hg hr hlen
      go_enter Try.func15, Try.ntmps15
      go_wp2_with fail
      refine HG.out.mono ?_
      rintro e w' ⟨rfl, rfl⟩
      go_wp2_with fail
      refine (sClone_any _ _ (by rw [ByteArray.size_extract]; omega)).mono ?_
      rintro e w' ⟨rfl, hB⟩
      go_wp2
      go_ret3
      rw [HR.out]
      exact ⟨retSEE HX.out rfl rfl, hB⟩
set_option maxRecDepth 100000 in
set_option maxHeartbeats 800000 in
theorem RGetText_any (s : ByteArray) (at' : Int) (hs : s.size ≤ maxLen) (w : World) :
    Calls Try.prog 16 #[.string s, .int .i64 at'] w fun e w' => e = .returned (.tuple #[.string ⟨(getTextR s.data.toList at').1.toArray⟩, .int .i64 (getTextR s.data.toList at').2.1, .int .i64 (getTextR s.data.toList at').2.2]) ∧ Below w.heap.size w w' := by
  have hlen : s.data.toList.length = s.size := Array.length_toList
  have hg := RGet_any s at' 2 hs w
  unfold maxLen at hs
  rcases getR2 s at' with ⟨c, hc, hc1, hc2, hr⟩ | ⟨n, b, hn, rfl, hb, hr⟩
  · have HR := Lib.hid (getTextR_bad hr hc)
    rw [hr] at hg
    have HG := Lib.hid hg
    have hcb : (c != 0) = true := by simpa using hc
    clear hg hr hlen
    go_enter Try.func16, Try.ntmps16
    go_wp2_with fail
    refine HG.out.mono ?_
    rintro e w' ⟨rfl, rfl⟩
    go_wp2
    go_ret3
    rw [HR.out]
    exact ⟨rfl, Below.refl _ _⟩
  · rw [hr] at hg
    have HG := Lib.hid hg
    by_cases h2 : s.size < b + 2 + n
    · have HR := Lib.hid (getTextR_short hlen hr h2)
      clear hg hr hlen
      go_enter Try.func16, Try.ntmps16
      go_wp2_with fail
      refine HG.out.mono ?_
      rintro e w' ⟨rfl, rfl⟩
      go_wp2
      go_ret3
      rw [HR.out]
      exact ⟨rfl, Below.refl _ _⟩
    · have HR := Lib.hid (getTextR_ok hlen hr h2)
      have HX := Lib.hid (ex_sub s (b + 2) n)
      clear hg hr hlen
      go_enter Try.func16, Try.ntmps16
      go_wp2_with fail
      refine HG.out.mono ?_
      rintro e w' ⟨rfl, rfl⟩
      go_wp2
      go_ret3
      rw [HR.out]
      exact ⟨retSEE HX.out rfl rfl, Below.refl _ _⟩
end Go.Proofs.Ytagllhphchmfhaa
