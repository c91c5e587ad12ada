/-
  The chapter's examples hold (alive); the walks over the statements of layer 2 that take no array.
-/
import Derived.Test.YtagllhphchmfhaaOk
namespace Go.Proofs.Ytagllhphchmfhaa
open Go.RowKit

set_option maxRecDepth 100000 in
set_option maxHeartbeats 1600000 in
theorem alive_any (w : World) : Calls Try.prog 8 #[] w fun e w' => e = .returned (.bool true) ∧ Below w.heap.size w w' := by
  have h1 := Put_any 258 2 ⟨by omega, by omega⟩ w
  rw [show putR 258 2 = ([2, 1], 0) by decide] at h1
  have H1 := Lib.hid h1
  clear h1
  go_enter Try.func8, Try.ntmps8
  go_wp2_with fail
  refine H1.out.mono ?_
  rintro e w1 ⟨rfl, B1⟩
  have h2 := Put_any 256 1 ⟨by omega, by omega⟩ w1
  rw [show putR 256 1 = ([], 5) by decide] at h2
  have H2 := Lib.hid h2
  have HB1 := Lib.hid B1
  clear h2 H1 B1
  go_wp2_with fail
  refine H2.out.mono ?_
  rintro e w2 ⟨rfl, B2⟩
  have h3 := Get_any ⟨#[9, 2, 1]⟩ 1 2 (by decide) w2
  rw [show getR (⟨#[9, 2, 1]⟩ : ByteArray).data.toList 1 2 = (258, 3, 0) by decide] at h3
  have H3 := Lib.hid h3
  have HB2 := Lib.hid (HB1.out.trans (B2.mono HB1.out.size))
  clear h3 H2 B2 HB1
  go_wp2_with fail
  refine H3.out.mono ?_
  rintro e w' ⟨rfl, rfl⟩
  have h4 := PutText_any ⟨#[97, 98]⟩ (by decide) w2
  rw [show putTextR (⟨#[97, 98]⟩ : ByteArray).data.toList = ([2, 0, 97, 98], 0) by decide] at h4
  have H4 := Lib.hid h4
  clear h4 H3
  go_wp2_with fail
  refine H4.out.mono ?_
  rintro e w4 ⟨rfl, B4⟩
  have h5 := GetText_any ⟨#[2, 0, 97, 98]⟩ 0 (by decide) w4
  rw [show getTextR (⟨#[2, 0, 97, 98]⟩ : ByteArray).data.toList 0 = ([97, 98], 4, 0) by decide] at h5
  have H5 := Lib.hid h5
  have HB4 := Lib.hid (HB2.out.trans (B4.mono HB2.out.size))
  clear h5 H4 B4 HB2
  go_wp2_with fail
  refine H5.out.mono ?_
  rintro e w5 ⟨rfl, B5⟩
  have h6 := Unhex_any ⟨#[48, 48, 65, 70]⟩ (by decide) w5
  rw [show unhexR (⟨#[48, 48, 65, 70]⟩ : ByteArray).data.toList = ([], 2) by decide] at h6
  have H6 := Lib.hid h6
  have HB5 := Lib.hid (HB4.out.trans (B5.mono HB4.out.size))
  clear h6 H5 B5 HB4
  go_wp2_with fail
  refine H6.out.mono ?_
  rintro e w6 ⟨rfl, B6⟩
  have h7 := Unhex_any ⟨#[48, 48, 97, 102]⟩ (by decide) w6
  rw [show unhexR (⟨#[48, 48, 97, 102]⟩ : ByteArray).data.toList = ([0, 175], 0) by decide] at h7
  have H7 := Lib.hid h7
  have HB6 := Lib.hid (HB5.out.trans (B6.mono HB5.out.size))
  clear h7 H6 B6 HB5
  go_wp2_with fail
  refine H7.out.mono ?_
  rintro e w7 ⟨rfl, B7⟩
  have h8 := Hex_any ⟨#[0, 175]⟩ (by decide) w7
  rw [show hexL (⟨#[0, 175]⟩ : ByteArray).data.toList = [48, 48, 97, 102] by decide] at h8
  have H8 := Lib.hid h8
  have HB7 := Lib.hid (HB6.out.trans (B7.mono HB6.out.size))
  clear h8 H7 B7 HB6
  go_wp2_with fail
  refine H8.out.mono ?_
  rintro e w8 ⟨rfl, B8⟩
  have HB8 := Lib.hid (HB7.out.trans (B8.mono HB7.out.size))
  clear B8 HB7 H8
  go_wp2
  go_ret
  exact ⟨rfl, HB8.out⟩

set_option maxRecDepth 100000 in
set_option maxHeartbeats 1600000 in
theorem octetNumbers_walk (n wd : Int) (s : ByteArray) (at' : Int) (hn : inI n) (_hw : inI wd) (hs : s.size ≤ maxLen) (_ha : inI at') (w : World) :
    Calls Try.prog 3 #[.int .i64 n, .int .i64 wd, .string s, .int .i64 at'] w fun e w' => e = .returned (.bool true) ∧ Below w.heap.size w w' := by
  have HA := Lib.hid (fun w => alive_any w)
  have H1 := Lib.hid (Put_any n wd hn w)
  have H2 := Lib.hid (fun w => RPut_any n wd hn w)
  have H3 := Lib.hid (fun w => Get_any s at' wd hs w)
  have H4 := Lib.hid (fun w => RGet_any s at' wd hs w)
  unfold maxLen at hs
  generalize putR n wd = r at H1 H2
  generalize getR s.data.toList at' wd = q at H3 H4
  obtain ⟨r1, r2⟩ := r
  obtain ⟨q1, q2, q3⟩ := q
  clear hn
  by_cases hbig : 1000 < s.size
  · clear H1 H2 H3 H4
    go_enter Try.func3, Try.ntmps3
    go_wp2_with fail
    refine (HA.out _).mono ?_
    rintro e w' ⟨rfl, hB⟩
    go_wp2
    go_ret
    exact ⟨rfl, hB⟩
  · go_enter Try.func3, Try.ntmps3
    go_wp2_with fail
    refine H1.out.mono ?_
    rintro e w1 ⟨rfl, B1⟩
    go_wp2_with fail
    refine (H2.out _).mono ?_
    rintro e w2 ⟨rfl, B2⟩
    have HB := Lib.hid (B1.trans (B2.mono B1.size))
    clear B1 B2
    go_wp2_with fail
    refine (H3.out _).mono ?_
    rintro e w' ⟨rfl, rfl⟩
    go_wp2_with fail
    refine (H4.out _).mono ?_
    rintro e w' ⟨rfl, rfl⟩
    go_wp2_with fail
    refine (HA.out _).mono ?_
    rintro e w3 ⟨rfl, B3⟩
    go_wp2
    go_ret
    exact ⟨rfl, HB.out.trans (B3.mono HB.out.size)⟩
end Go.Proofs.Ytagllhphchmfhaa
