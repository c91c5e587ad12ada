/-
  The walks over the statements OctetTexts, OctetDigits and OctetOnly.
-/
import Derived.Test.YtagllhphchmfhaaOm
namespace Go.Proofs.Ytagllhphchmfhaa
open Go.RowKit

set_option maxRecDepth 100000 in
set_option maxHeartbeats 1600000 in
theorem octetTexts_walk (s : ByteArray) (at' : Int) (hs : s.size ≤ maxLen) (_ha : inI at') (w : World) :
    Calls Try.prog 4 #[.string s, .int .i64 at'] w fun e w' => e = .returned (.bool true) ∧ Below w.heap.size w w' := by
  have HA := Lib.hid (fun w => alive_any w)
  have H1 := Lib.hid (PutText_any s hs w)
  have H2 := Lib.hid (fun w => RPutText_any s hs w)
  have H3 := Lib.hid (fun w => GetText_any s at' hs w)
  have H4 := Lib.hid (fun w => RGetText_any s at' hs w)
  unfold maxLen at hs
  generalize putTextR s.data.toList = r at H1 H2
  generalize getTextR s.data.toList at' = q at H3 H4
  obtain ⟨r1, r2⟩ := r
  obtain ⟨q1, q2, q3⟩ := q
  by_cases hbig : 70000 < s.size
  · clear H1 H2 H3 H4
    go_enter Try.func4, Try.ntmps4
    go_wp2_with fail
    refine (HA.out _).mono ?_
    rintro e w' ⟨rfl, hB⟩
    go_wp2
    go_ret
    exact ⟨rfl, hB⟩
  · go_enter Try.func4, Try.ntmps4
    go_wp2_with fail
    refine H1.out.mono ?_
    rintro e w1 ⟨rfl, B1⟩
    go_wp2_with fail
    refine (H2.out _).mono ?_
    rintro e w2 ⟨rfl, B2⟩
    have HB := Lib.hid (B1.trans (B2.mono B1.size))
    clear B1 B2
    go_wp2_with fail
    refine (H3.out _).mono ?_
    rintro e w3 ⟨rfl, B3⟩
    have HB3 := Lib.hid (HB.out.trans (B3.mono HB.out.size))
    clear HB B3
    go_wp2_with fail
    refine (H4.out _).mono ?_
    rintro e w4 ⟨rfl, B4⟩
    have HB := Lib.hid (HB3.out.trans (B4.mono HB3.out.size))
    clear HB3 B4
    go_wp2_with fail
    refine (HA.out _).mono ?_
    rintro e w3 ⟨rfl, B3⟩
    go_wp2
    go_ret
    exact ⟨rfl, HB.out.trans (B3.mono HB.out.size)⟩

theorem unhexR_cases (l : List UInt8) : unhexR l = ([], 2) ∨ ∃ r, unhexR l = (r, 0) ∧ hexL r = l := by
  unfold unhexR
  cases h : unhexL l with
  | none => exact .inl rfl
  | some r => exact .inr ⟨r, rfl, hex_unhex l r h⟩
theorem unhexR_hex (l : List UInt8) : unhexR (hexL l) = (l, 0) := by unfold unhexR; rw [unhex_hex]

set_option maxRecDepth 100000 in
set_option maxHeartbeats 1600000 in
theorem octetDigits_walk (s : ByteArray) (hs : s.size ≤ maxLen) (w : World) :
    Calls Try.prog 5 #[.string s] w fun e w' => e = .returned (.bool true) ∧ Below w.heap.size w w' := by
  have HA := Lib.hid (fun w => alive_any w)
  have hlen : s.data.toList.length = s.size := Array.length_toList
  unfold maxLen at hs
  by_cases hbig : 400 < s.size
  · clear hlen
    go_enter Try.func5, Try.ntmps5
    go_wp2_with fail
    refine (HA.out _).mono ?_
    rintro e w' ⟨rfl, hB⟩
    go_wp2
    go_ret
    exact ⟨rfl, hB⟩
  · have H1 := Lib.hid (Unhex_any s (by omega) w)
    have H2 := Lib.hid (fun w => RUnhex_any s (by omega) w)
    have H3 := Lib.hid (fun w => Hex_any s (by omega) w)
    have H4 := Lib.hid (fun w => RHex_any s (by omega) w)
    have hz : (⟨(hexL s.data.toList).toArray⟩ : ByteArray).size ≤ 100000000 := by show (hexL s.data.toList).toArray.size ≤ _; rw [List.size_toArray, hexL_len]; omega
    have h5 := fun w => Unhex_any ⟨(hexL s.data.toList).toArray⟩ hz w
    rw [show (⟨(hexL s.data.toList).toArray⟩ : ByteArray).data.toList = hexL s.data.toList by simp, unhexR_hex] at h5
    have hsd : (⟨s.data.toList.toArray⟩ : ByteArray) = s := by apply ByteArray.ext; simp
    simp only [hsd] at h5
    have H5 := Lib.hid h5
    clear h5
    rcases unhexR_cases s.data.toList with h | ⟨r, h, hr⟩
    · rw [h] at H1 H2
      clear h hlen hsd
      generalize hexL s.data.toList = x at H3 H4 H5
      go_enter Try.func5, Try.ntmps5
      go_wp2_with fail
      refine H1.out.mono ?_
      rintro e w1 ⟨rfl, B1⟩
      have HB := Lib.hid B1
      clear B1 H1
      go_wp2_with fail
      refine (H2.out _).mono ?_
      rintro e w2 ⟨rfl, B2⟩
      have HB2 := Lib.hid (HB.out.trans (B2.mono HB.out.size))
      clear HB B2 H2
      go_wp2_with fail
      refine (H3.out _).mono ?_
      rintro e w3 ⟨rfl, B2⟩
      have HB := Lib.hid (HB2.out.trans (B2.mono HB2.out.size))
      clear HB2 B2
      go_wp2_with fail
      refine (H5.out _).mono ?_
      rintro e w4 ⟨rfl, B2⟩
      have HB2 := Lib.hid (HB.out.trans (B2.mono HB.out.size))
      clear HB B2
      go_wp2_with fail
      refine (H3.out _).mono ?_
      rintro e w5 ⟨rfl, B2⟩
      have HB := Lib.hid (HB2.out.trans (B2.mono HB2.out.size))
      clear HB2 B2
      go_wp2_with fail
      refine (H4.out _).mono ?_
      rintro e w6 ⟨rfl, B2⟩
      have HB2 := Lib.hid (HB.out.trans (B2.mono HB.out.size))
      clear HB B2
      go_wp2_with fail
      refine (HA.out _).mono ?_
      rintro e w7 ⟨rfl, B2⟩
      have HB := Lib.hid (HB2.out.trans (B2.mono HB2.out.size))
      clear HB2 B2
      go_wp2
      go_ret
      exact ⟨rfl, HB.out⟩
    · rw [h] at H1 H2
      have hrl : r.length ≤ 400 := by have := hexL_len r; rw [hr] at this; omega
      have h6 := fun w => Hex_any ⟨r.toArray⟩ (by show r.toArray.size ≤ _; rw [List.size_toArray]; omega) w
      rw [show (⟨r.toArray⟩ : ByteArray).data.toList = r by simp, hr] at h6
      simp only [hsd] at h6
      have H6 := Lib.hid h6
      clear h h6 hlen hr hrl hsd
      generalize hexL s.data.toList = x at H3 H4 H5
      go_enter Try.func5, Try.ntmps5
      go_wp2_with fail
      refine H1.out.mono ?_
      rintro e w1 ⟨rfl, B1⟩
      have HB := Lib.hid B1
      clear B1 H1
      go_wp2_with fail
      refine (H2.out _).mono ?_
      rintro e w2 ⟨rfl, B2⟩
      have HB2 := Lib.hid (HB.out.trans (B2.mono HB.out.size))
      clear HB B2 H2
      go_wp2_with fail
      refine (H3.out _).mono ?_
      rintro e w3 ⟨rfl, B2⟩
      have HB := Lib.hid (HB2.out.trans (B2.mono HB2.out.size))
      clear HB2 B2
      go_wp2_with fail
      refine (H5.out _).mono ?_
      rintro e w4 ⟨rfl, B2⟩
      have HB2 := Lib.hid (HB.out.trans (B2.mono HB.out.size))
      clear HB B2
      go_wp2_with fail
      refine (H3.out _).mono ?_
      rintro e w5 ⟨rfl, B2⟩
      have HB := Lib.hid (HB2.out.trans (B2.mono HB2.out.size))
      clear HB2 B2
      go_wp2_with fail
      refine (H4.out _).mono ?_
      rintro e w6 ⟨rfl, B2⟩
      have HB2 := Lib.hid (HB.out.trans (B2.mono HB.out.size))
      clear HB B2
      go_wp2_with fail
      refine (H6.out _).mono ?_
      rintro e w6 ⟨rfl, B2⟩
      have HB := Lib.hid (HB2.out.trans (B2.mono HB2.out.size))
      clear HB2 B2
      go_wp2_with fail
      refine (HA.out _).mono ?_
      rintro e w7 ⟨rfl, B2⟩
      have HB2 := Lib.hid (HB.out.trans (B2.mono HB.out.size))
      clear HB B2
      go_wp2
      go_ret
      exact ⟨rfl, HB2.out⟩
end Go.Proofs.Ytagllhphchmfhaa
