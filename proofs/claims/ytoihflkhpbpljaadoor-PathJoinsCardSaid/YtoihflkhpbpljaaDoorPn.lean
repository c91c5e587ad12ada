/-
  The fixed examples with which every statement of layer 3 ends hold; the walks over the statements that compare with the reference.
-/
import Derived.Test.YtoihflkhpbpljaaDoorPm
import Derived.Shelf.Vars
namespace Go.Proofs.YtoihflkhpbpljaaDoor
open Go.RowKit

/-- What the row's world gives the walks. -/
theorem shapedG {W : World} (h : W.ShapedOpen Tryd.prog) : G W :=
  Go.Proofs.cell_of_shapedOpen_int (zero := #[.int .i64 0]) (t := 3) h (of_decide_eq_true (by kernel_rfl)) (by kernel_rfl) rfl (by kernel_rfl) (by kernel_rfl) Tryd.underlying3

set_option maxRecDepth 100000 in
set_option maxHeartbeats 1600000 in
theorem awake_any (w : World) (g : G w) : Calls Tryd.prog 11 #[] w fun e w' => e = .returned (.bool true) ∧ Below w.heap.size w w' := by
  have HG := Lib.hid g
  have h1 := Clean_any ⟨#[47, 97, 47, 46, 46, 47, 98, 47, 47, 99, 47, 46]⟩ (by decide) w g
  rw [show cleanR (⟨#[47, 97, 47, 46, 46, 47, 98, 47, 47, 99, 47, 46]⟩ : ByteArray).data.toList = ([47, 98, 47, 99], 0) by decide, show mk ([47, 98, 47, 99], (0 : Int)).1 = ⟨#[47, 98, 47, 99]⟩ from rfl] at h1
  have H1 := Lib.hid h1
  clear h1 g
  go_enter Tryd.func11, Tryd.ntmps11
  go_wp2_with fail
  refine H1.out.mono ?_
  rintro e w1 ⟨rfl, hB1⟩
  have h2 := Join_any ⟨#[47, 97, 47, 98]⟩ ⟨#[46, 46, 47, 99]⟩ (by decide) (by decide) w1 (HG.out.below hB1)
  rw [show joinR (⟨#[47, 97, 47, 98]⟩ : ByteArray).data.toList (⟨#[46, 46, 47, 99]⟩ : ByteArray).data.toList = ([47, 97, 47, 99], 0) by decide, show mk ([47, 97, 47, 99], (0 : Int)).1 = ⟨#[47, 97, 47, 99]⟩ from rfl] at h2
  have H2 := Lib.hid h2
  have B1 := Lib.hid hB1
  clear h2 hB1 H1
  go_wp2_with fail
  refine H2.out.mono ?_
  rintro e w2 ⟨rfl, hB2⟩
  have B2 := Lib.hid (B1.out.trans (hB2.mono B1.out.size))
  have h3 := Valid_any ⟨#[97, 46, 98]⟩ (by decide) w2
  rw [show validL (⟨#[97, 46, 98]⟩ : ByteArray).data.toList = true by decide] at h3
  have H3 := Lib.hid h3
  have h4 := Valid_any ⟨#[46, 46]⟩ (by decide) w2
  rw [show validL (⟨#[46, 46]⟩ : ByteArray).data.toList = false by decide] at h4
  have H4 := Lib.hid h4
  have h5 := Base_any ⟨#[47, 97, 47, 98, 47]⟩ (by decide) w2 (HG.out.below B2.out)
  rw [show baseR (⟨#[47, 97, 47, 98, 47]⟩ : ByteArray).data.toList = [98] by decide, show mk [98] = ⟨#[98]⟩ from rfl] at h5
  have H5 := Lib.hid h5
  clear h3 h4 h5 hB2 B1 H2
  go_wp2_with fail
  refine H3.out.mono ?_
  rintro e w' ⟨rfl, rfl⟩
  go_wp2_with fail
  refine H4.out.mono ?_
  rintro e w' ⟨rfl, rfl⟩
  go_wp2_with fail
  refine H5.out.mono ?_
  rintro e w3 ⟨rfl, hB3⟩
  have B3 := Lib.hid (B2.out.trans (hB3.mono B2.out.size))
  have h6 := Under_any ⟨#[47, 97]⟩ ⟨#[47, 97, 47, 98]⟩ (by decide) (by decide) w3 (HG.out.below B3.out)
  rw [show underR (⟨#[47, 97]⟩ : ByteArray).data.toList (⟨#[47, 97, 47, 98]⟩ : ByteArray).data.toList = true by decide] at h6
  have H6 := Lib.hid h6
  clear h6 hB3 B2 H3 H4 H5
  go_wp2_with fail
  refine H6.out.mono ?_
  rintro e w4 ⟨rfl, hB4⟩
  have B4 := Lib.hid (B3.out.trans (hB4.mono B3.out.size))
  have h7 := Under_any ⟨#[47, 97]⟩ ⟨#[47, 97, 98]⟩ (by decide) (by decide) w4 (HG.out.below B4.out)
  rw [show underR (⟨#[47, 97]⟩ : ByteArray).data.toList (⟨#[47, 97, 98]⟩ : ByteArray).data.toList = false by decide] at h7
  have H7 := Lib.hid h7
  clear h7 hB4 B3 H6
  go_wp2_with fail
  refine H7.out.mono ?_
  rintro e w5 ⟨rfl, hB5⟩
  have B5 := Lib.hid (B4.out.trans (hB5.mono B4.out.size))
  clear hB5
  go_wp2_with fail
  go_ret
  exact ⟨rfl, B5.out⟩

/-- 'awake()' at the end of a walk: behind whatever has been made. -/
theorem awake_end {W w : World} (g : G W) (hB : Below W.heap.size W w) : Calls Tryd.prog 11 #[] w fun e w' => e = .returned (.bool true) ∧ Below W.heap.size W w' :=
  (awake_any w (g.below hB)).mono fun _ _ ⟨he, hB2⟩ => ⟨he, hB.trans (hB2.mono hB.size)⟩

set_option maxRecDepth 100000 in
set_option maxHeartbeats 1600000 in
theorem pathNames_walk (s : ByteArray) (hs : s.size ≤ maxLen) (W : World) (g : G W) :
    Calls Tryd.prog 3 #[.string s] W fun e w' => e = .returned (.bool true) ∧ Below W.heap.size W w' := by
  unfold maxLen at hs
  have A := Lib.hid (awake_any W g)
  by_cases hbig : 5000 < s.size
  · clear g
    go_enter Tryd.func3, Tryd.ntmps3
    go_wp2_with fail
    refine A.out.mono ?_
    rintro e w' ⟨rfl, hB⟩
    go_wp2_with fail
    go_ret
    exact ⟨rfl, hB⟩
  · have A1 := Lib.hid (Valid_any s (by omega) W)
    have A2 := Lib.hid (RValid_any s (by omega) W)
    generalize validL s.data.toList = r at A1 A2
    clear g
    go_enter Tryd.func3, Tryd.ntmps3
    go_wp2_with fail
    refine A1.out.mono ?_
    rintro e w' ⟨rfl, rfl⟩
    go_wp2_with fail
    refine A2.out.mono ?_
    rintro e w' ⟨rfl, rfl⟩
    go_wp2_with fail
    refine A.out.mono ?_
    rintro e w' ⟨rfl, hB⟩
    go_wp2_with fail
    go_ret
    exact ⟨rfl, hB⟩

set_option maxRecDepth 100000 in
set_option maxHeartbeats 1600000 in
theorem pathCleans_walk (s : ByteArray) (hs : s.size ≤ maxLen) (W : World) (g : G W) :
    Calls Tryd.prog 4 #[.string s] W fun e w' => e = .returned (.bool true) ∧ Below W.heap.size W w' := by
  unfold maxLen at hs
  have HG := Lib.hid g
  by_cases hbig : 5000 < s.size
  · have A := Lib.hid (awake_any W g)
    clear g
    go_enter Tryd.func4, Tryd.ntmps4
    go_wp2_with fail
    refine A.out.mono ?_
    rintro e w' ⟨rfl, hB⟩
    go_wp2_with fail
    go_ret
    exact ⟨rfl, hB⟩
  · have A1 := Lib.hid (fun w g => Clean_any s (by omega) w g)
    have A2 := Lib.hid (fun w => RClean_any s (by omega) w)
    have A3 := Lib.hid (fun w g => Split_any s (by omega) w g)
    have A4 := Lib.hid (fun w => RSplit_any s (by omega) w)
    have hl : (splitR s.data.toList).1.length ≤ 32 := by
      rcases splitR_cases s.data.toList with ⟨c, hc, h⟩ | ⟨es, h, _, _, hl, _⟩ <;> rw [h]
      · simp
      · exact hl
    generalize cleanR s.data.toList = c at A1 A2
    generalize splitR s.data.toList = p at A3 A4 hl
    obtain ⟨c1, c2⟩ := c
    obtain ⟨L, c3⟩ := p
    have HL := Lib.hid hl
    clear g hl
    go_enter Tryd.func4, Tryd.ntmps4
    go_wp2_with fail
    refine (A1.out W HG.out).mono ?_
    rintro e w1 ⟨rfl, hB1⟩
    have B1 := Lib.hid hB1
    clear hB1
    go_wp2_with fail
    refine (A2.out w1).mono ?_
    rintro e w2 ⟨rfl, hB2⟩
    have B2 := Lib.hid (B1.out.trans (hB2.mono B1.out.size))
    clear hB2
    go_wp2_with fail
    refine (A3.out w2 (HG.out.below B2.out)).mono ?_
    rintro e w3 ⟨v, rfl, hv, hB3⟩
    have B3 := Lib.hid (B2.out.trans (hB3.mono B2.out.size))
    have HV := Lib.hid hv
    clear hB3 hv
    go_wp2_with fail
    refine (A4.out w3).mono ?_
    rintro e w4 ⟨u, rfl, hu, hB4⟩
    have B4 := Lib.hid (B3.out.trans (hB4.mono B3.out.size))
    have HS := same_any v u L L w4 (HV.out.below hB4) hu (Nat.le_trans HL.out (by omega)) (Nat.le_trans HL.out (by omega))
    rw [show decide (L = L) = true by simp] at HS
    have HS' := Lib.hid HS
    clear hB4 hu HS
    go_wp2_with fail
    refine HS'.out.mono ?_
    rintro e w5 ⟨rfl, hB5⟩
    have B5 := Lib.hid (B4.out.trans (hB5.mono B4.out.size))
    clear hB5
    go_wp2_with fail
    refine (awake_end HG.out B5.out).mono ?_
    rintro e w6 ⟨rfl, hB6⟩
    go_wp2_with fail
    go_ret
    exact ⟨rfl, hB6⟩

set_option maxRecDepth 100000 in
set_option maxHeartbeats 1600000 in
theorem pathJoins_walk (d s : ByteArray) (hd : d.size ≤ maxLen) (hs : s.size ≤ maxLen) (W : World) (g : G W) :
    Calls Tryd.prog 5 #[.string d, .string s] W fun e w' => e = .returned (.bool true) ∧ Below W.heap.size W w' := by
  unfold maxLen at hs hd
  have HG := Lib.hid g
  have A := Lib.hid (awake_any W g)
  by_cases hbig : 5000 < d.size
  · clear g
    go_enter Tryd.func5, Tryd.ntmps5
    go_wp2_with fail
    refine A.out.mono ?_
    rintro e w' ⟨rfl, hB⟩
    go_wp2_with fail
    go_ret
    exact ⟨rfl, hB⟩
  by_cases hbig2 : 5000 < s.size
  · clear g
    go_enter Tryd.func5, Tryd.ntmps5
    go_wp2_with fail
    refine A.out.mono ?_
    rintro e w' ⟨rfl, hB⟩
    go_wp2_with fail
    go_ret
    exact ⟨rfl, hB⟩
  · have A1 := Lib.hid (Join_any d s (by omega) (by omega) W g)
    have A2 := Lib.hid (fun w => RJoin_any d s (by omega) (by omega) w)
    generalize joinR d.data.toList s.data.toList = c at A1 A2
    obtain ⟨c1, c2⟩ := c
    clear g
    go_enter Tryd.func5, Tryd.ntmps5
    go_wp2_with fail
    refine A1.out.mono ?_
    rintro e w1 ⟨rfl, hB1⟩
    have B1 := Lib.hid hB1
    clear hB1
    go_wp2_with fail
    refine (A2.out w1).mono ?_
    rintro e w2 ⟨rfl, hB2⟩
    have B2 := Lib.hid (B1.out.trans (hB2.mono B1.out.size))
    clear hB2
    go_wp2_with fail
    refine (awake_end HG.out B2.out).mono ?_
    rintro e w3 ⟨rfl, hB3⟩
    go_wp2_with fail
    go_ret
    exact ⟨rfl, hB3⟩

set_option maxRecDepth 100000 in
set_option maxHeartbeats 1600000 in
theorem pathEnds_walk (s : ByteArray) (hs : s.size ≤ maxLen) (W : World) (g : G W) :
    Calls Tryd.prog 6 #[.string s] W fun e w' => e = .returned (.bool true) ∧ Below W.heap.size W w' := by
  unfold maxLen at hs
  have HG := Lib.hid g
  by_cases hbig : 5000 < s.size
  · have A := Lib.hid (awake_any W g)
    clear g
    go_enter Tryd.func6, Tryd.ntmps6
    go_wp2_with fail
    refine A.out.mono ?_
    rintro e w' ⟨rfl, hB⟩
    go_wp2_with fail
    go_ret
    exact ⟨rfl, hB⟩
  · have A1 := Lib.hid (Base_any s (by omega) W g)
    have A2 := Lib.hid (fun w => RBase_any s (by omega) w)
    have A3 := Lib.hid (fun w g => Dir_any s (by omega) w g)
    have A4 := Lib.hid (fun w => RDir_any s (by omega) w)
    generalize baseR s.data.toList = b at A1 A2
    generalize dirR s.data.toList = d at A3 A4
    clear g
    go_enter Tryd.func6, Tryd.ntmps6
    go_wp2_with fail
    refine A1.out.mono ?_
    rintro e w1 ⟨rfl, hB1⟩
    have B1 := Lib.hid hB1
    clear hB1
    go_wp2_with fail
    refine (A2.out w1).mono ?_
    rintro e w2 ⟨rfl, hB2⟩
    have B2 := Lib.hid (B1.out.trans (hB2.mono B1.out.size))
    clear hB2
    go_wp2_with fail
    refine (A3.out w2 (HG.out.below B2.out)).mono ?_
    rintro e w3 ⟨rfl, hB3⟩
    have B3 := Lib.hid (B2.out.trans (hB3.mono B2.out.size))
    clear hB3
    go_wp2_with fail
    refine (A4.out w3).mono ?_
    rintro e w4 ⟨rfl, hB4⟩
    have B4 := Lib.hid (B3.out.trans (hB4.mono B3.out.size))
    clear hB4
    go_wp2_with fail
    refine (awake_end HG.out B4.out).mono ?_
    rintro e w5 ⟨rfl, hB5⟩
    go_wp2_with fail
    go_ret
    exact ⟨rfl, hB5⟩

set_option maxRecDepth 100000 in
set_option maxHeartbeats 1600000 in
theorem pathContains_walk (d s : ByteArray) (hd : d.size ≤ maxLen) (hs : s.size ≤ maxLen) (W : World) (g : G W) :
    Calls Tryd.prog 7 #[.string d, .string s] W fun e w' => e = .returned (.bool true) ∧ Below W.heap.size W w' := by
  unfold maxLen at hs hd
  have HG := Lib.hid g
  have A := Lib.hid (awake_any W g)
  by_cases hbig : 5000 < d.size
  · clear g
    go_enter Tryd.func7, Tryd.ntmps7
    go_wp2_with fail
    refine A.out.mono ?_
    rintro e w' ⟨rfl, hB⟩
    go_wp2_with fail
    go_ret
    exact ⟨rfl, hB⟩
  by_cases hbig2 : 5000 < s.size
  · clear g
    go_enter Tryd.func7, Tryd.ntmps7
    go_wp2_with fail
    refine A.out.mono ?_
    rintro e w' ⟨rfl, hB⟩
    go_wp2_with fail
    go_ret
    exact ⟨rfl, hB⟩
  · have A1 := Lib.hid (Under_any d s (by omega) (by omega) W g)
    have A2 := Lib.hid (fun w => RUnder_any d s (by omega) (by omega) w)
    generalize underR d.data.toList s.data.toList = c at A1 A2
    clear g
    go_enter Tryd.func7, Tryd.ntmps7
    go_wp2_with fail
    refine A1.out.mono ?_
    rintro e w1 ⟨rfl, hB1⟩
    have B1 := Lib.hid hB1
    clear hB1
    go_wp2_with fail
    refine (A2.out w1).mono ?_
    rintro e w2 ⟨rfl, hB2⟩
    have B2 := Lib.hid (B1.out.trans (hB2.mono B1.out.size))
    clear hB2
    go_wp2_with fail
    refine (awake_end HG.out B2.out).mono ?_
    rintro e w3 ⟨rfl, hB3⟩
    go_wp2_with fail
    go_ret
    exact ⟨rfl, hB3⟩
end Go.Proofs.YtoihflkhpbpljaaDoor
