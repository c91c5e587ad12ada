/-
  The walk over the statement that what is joined lies within the directory.
-/
import Derived.Test.YtoihflkhpbpljaaDoorPo
namespace Go.Proofs.YtoihflkhpbpljaaDoor
open Go.RowKit

theorem all_take_ne {ps : List (List UInt8)} {k : Nat} (h : k < ps.length) (ha : ∀ x ∈ ps.take k, x ≠ [46, 46]) (hk : ps[k] ≠ [46, 46]) : ∀ x ∈ ps.take (k + 1), x ≠ [46, 46] := by
  rw [List.take_succ_eq_append_getElem h]
  intro x hx
  rcases List.mem_append.1 hx with hx | hx
  · exact ha x hx
  · simp only [List.mem_singleton] at hx; rw [hx]; exact hk

set_option maxRecDepth 100000 in
set_option maxHeartbeats 3200000 in
theorem pathNests_walk (t d s : ByteArray) (ht : t.size ≤ maxLen) (hd : d.size ≤ maxLen) (hs : s.size ≤ maxLen) (W : World) (g : G W) :
    Calls Tryd.prog 10 #[.string t, .string d, .string s] W fun e w' => e = .returned (.bool true) ∧ Below W.heap.size W w' := by
  unfold maxLen at hs hd ht
  have HG := Lib.hid g
  have A := Lib.hid (awake_any W g)
  by_cases h1 : 300 < t.size
  · clear g
    go_enter Tryd.func10, Tryd.ntmps10
    go_wp2_with fail
    refine A.out.mono ?_
    rintro e w' ⟨rfl, hB⟩
    go_wp2_with fail
    go_ret
    exact ⟨rfl, hB⟩
  by_cases h2 : 300 < d.size
  · clear g
    go_enter Tryd.func10, Tryd.ntmps10
    go_wp2_with fail
    refine A.out.mono ?_
    rintro e w' ⟨rfl, hB⟩
    go_wp2_with fail
    go_ret
    exact ⟨rfl, hB⟩
  by_cases h3 : 300 < s.size
  · clear g
    go_enter Tryd.func10, Tryd.ntmps10
    go_wp2_with fail
    refine A.out.mono ?_
    rintro e w' ⟨rfl, hB⟩
    go_wp2_with fail
    go_ret
    exact ⟨rfl, hB⟩
  have R1 := Rooted_any s (by omega) W
  have R2 := Rooted_any d (by omega) W
  cases hrs : rootedL s.data.toList with
  | true =>
    rw [hrs] at R1
    have HR1 := Lib.hid R1
    clear R1 R2 g hrs
    go_enter Tryd.func10, Tryd.ntmps10
    go_wp2_with fail
    refine HR1.out.mono ?_
    rintro e w' ⟨rfl, rfl⟩
    go_wp2_with fail
    refine A.out.mono ?_
    rintro e w' ⟨rfl, hB⟩
    go_wp2_with fail
    go_ret
    exact ⟨rfl, hB⟩
  | false =>
  rw [hrs] at R1
  cases hrd : rootedL d.data.toList with
  | false =>
    rw [hrd] at R2
    have HR1 := Lib.hid R1
    have HR2 := Lib.hid R2
    clear R1 R2 g hrs hrd
    go_enter Tryd.func10, Tryd.ntmps10
    go_wp2_with fail
    refine HR1.out.mono ?_
    rintro e w' ⟨rfl, rfl⟩
    go_wp2_with fail
    refine HR2.out.mono ?_
    rintro e w' ⟨rfl, rfl⟩
    go_wp2_with fail
    refine A.out.mono ?_
    rintro e w' ⟨rfl, hB⟩
    go_wp2_with fail
    go_ret
    exact ⟨rfl, hB⟩
  | true =>
  rw [hrd] at R2
  have HR1 := Lib.hid R1
  have HR2 := Lib.hid R2
  have HP := Lib.hid (Parts_any s (by omega) W)
  have J := Lib.hid (fun w g => Join_any d s (by omega) (by omega) w g)
  have C := Lib.hid (fun w g => Clean_any d (by omega) w g)
  have U1 := Lib.hid (fun j hj w g => Under_any d (mk j) (by omega) hj w g)
  have U2 := Lib.hid (fun w g => Under_any t d (by omega) (by omega) w g)
  have U3 := Lib.hid (fun j hj w g => Under_any t (mk j) (by omega) hj w g)
  have HRS := Lib.hid hrs
  have HRD := Lib.hid hrd
  have hne := pieces_ne s.data.toList
  have hpl := pieces_len s.data.toList
  rw [← Lib.size_eq] at hpl
  generalize hps : pieces s.data.toList = ps at HP hne hpl
  have HPS := Lib.hid hps
  have HNE := Lib.hid hne
  clear R1 R2 g hrs hrd hps hne
  go_enter Tryd.func10, Tryd.ntmps10
  go_wp2_with fail
  refine HR1.out.mono ?_
  rintro e w' ⟨rfl, rfl⟩
  go_wp2_with fail
  refine HR2.out.mono ?_
  rintro e w' ⟨rfl, rfl⟩
  go_wp2_with fail
  refine HP.out.mono ?_
  rintro e w1 ⟨vp, rfl, hown1, hB1⟩
  obtain ⟨gp, capp, rfl, hgb, hcp, hcm, hcell⟩ := own_form hown1 HNE.out
  have HC := Lib.hid hcell
  have B1 := Lib.hid hB1
  clear hcell hB1 hown1
  go_wp2_with fail
  go_loop [40] (fun vi => ∃ (k : Nat), vi = .int .i64 (k : Int) ∧ k ≤ ps.length ∧ Hid (∀ x ∈ ps.take k, x ≠ [46, 46])) (fun vi => ps.length - (intOf vi).toNat)
  case atStart => exact ⟨0, rfl, by omega, by simp [Hid]⟩
  case round =>
    obtain ⟨k, rfl, hk, hall⟩ := hrel
    by_cases hkn : k < ps.length
    · have hck := HC.out k hkn
      have hok := fun h => all_take_ne hkn hall.out h
      generalize ps[k] = x at *
      rw [show sv x = .string (mk x) from rfl] at hck
      have hT := mk_toList x
      by_cases hx : x = [46, 46]
      · have hq : ((mk x).toList == [46, 46]) = true := by rw [hT, hx]; decide
        clear hok hx hT
        go_wp2_with fail
        refine (awake_end HG.out B1.out).mono ?_
        rintro e w3 ⟨rfl, hB3⟩
        go_wp2_with fail
        go_ret
        exact ⟨rfl, hB3⟩
      · have hq : ((mk x).toList == [46, 46]) = false := by rw [hT]; simpa using hx
        have HA := Lib.hid (hok hx)
        clear hok hx hT
        go_wp2_with fail
        exact ⟨⟨k + 1, by go_num, by omega, HA⟩, by simp [intOf]; omega⟩
    have hkl : k = ps.length := by omega
    have ha := hall.out
    rw [hkl, List.take_length, ← HPS.out] at ha
    have hd0 : d.data.toList ≠ [] := by intro e; have := HRD.out; rw [e] at this; simp [rootedL] at this
    have hju : joinR d.data.toList s.data.toList = cleanR (d.data.toList ++ 47 :: s.data.toList) := by
      rw [joinR, if_neg (by rintro (e | e); · exact hd0 e
                            · rw [HRS.out] at e; cases e)]
    rcases splitR_cases (d.data.toList ++ 47 :: s.data.toList) with ⟨c, hc, h⟩ | ⟨es, h, -⟩
    · have J' := fun w g => J.out w g
      rw [hju, cleanR_bad hc h] at J'
      have HJ := Lib.hid J'
      have C' := Lib.hid (fun w g => C.out w g)
      generalize cleanR d.data.toList = cc at C'
      obtain ⟨c1, c2⟩ := cc
      have hc1 : (c != 0) = true := by simpa using hc
      have hc2 : (c == 0) = false := by simpa using hc
      clear J' hju h hc ha hd0 hkl hall
      go_wp2_with fail
      refine (HJ.out w1 (HG.out.below B1.out)).mono ?_
      rintro e w2 ⟨rfl, hB2⟩
      have B2 := Lib.hid (B1.out.trans (hB2.mono B1.out.size))
      clear hB2
      go_wp2_with fail
      refine (C'.out w2 (HG.out.below B2.out)).mono ?_
      rintro e w3 ⟨rfl, hB3⟩
      have B3 := Lib.hid (B2.out.trans (hB3.mono B2.out.size))
      clear hB3
      go_wp2_with fail
      refine (awake_end HG.out B3.out).mono ?_
      rintro e w4 ⟨rfl, hB4⟩
      go_wp2_with fail
      go_ret
      exact ⟨rfl, hB4⟩
    have J' := fun w g => J.out w g
    rw [hju, cleanR_ok h] at J'
    have hroot : rootedL (d.data.toList ++ 47 :: s.data.toList) = true := by rw [rootedL_cons hd0, HRD.out]
    rw [hroot] at J'
    have hbl := build_len h
    rw [hroot] at hbl
    rcases splitR_cases d.data.toList with ⟨c, hc, h2⟩ | ⟨D, h2, -⟩
    · have C' := fun w g => C.out w g
      rw [cleanR_bad hc h2] at C'
      have HJ := Lib.hid J'
      have HCl := Lib.hid C'
      have hc1 : (c != 0) = true := by simpa using hc
      have hc2 : (c == 0) = false := by simpa using hc
      generalize buildR true es = cl at HJ
      clear J' C' hju h h2 hc ha hd0 hroot hkl hall hbl
      go_wp2_with fail
      refine (HJ.out w1 (HG.out.below B1.out)).mono ?_
      rintro e w2 ⟨rfl, hB2⟩
      have B2 := Lib.hid (B1.out.trans (hB2.mono B1.out.size))
      clear hB2
      go_wp2_with fail
      refine (HCl.out w2 (HG.out.below B2.out)).mono ?_
      rintro e w3 ⟨rfl, hB3⟩
      have B3 := Lib.hid (B2.out.trans (hB3.mono B2.out.size))
      clear hB3
      go_wp2_with fail
      refine (awake_end HG.out B3.out).mono ?_
      rintro e w4 ⟨rfl, hB4⟩
      go_wp2_with fail
      go_ret
      exact ⟨rfl, hB4⟩
    have C' := fun w g => C.out w g
    rw [cleanR_ok h2] at C'
    obtain ⟨-, hn1, hn2⟩ := nest (t := t.data.toList) HRD.out HRS.out ha h2 h
    have U1' := fun w g => U1.out (buildR true es) (by rw [mk_size]; omega) w g
    have U3' := fun w g => U3.out (buildR true es) (by rw [mk_size]; omega) w g
    rw [mk_data] at U1' U3'
    rw [hn1] at U1'
    have U2' := Lib.hid (fun w g => U2.out w g)
    generalize underR t.data.toList d.data.toList = ru at U2' hn2
    generalize underR t.data.toList (buildR true es) = rv at U3' hn2
    generalize buildR true es = cl at J' U1' U3'
    generalize buildR (rootedL d.data.toList) D = cd at C'
    replace J' := Lib.hid J'
    replace C' := Lib.hid C'
    replace U1' := Lib.hid U1'
    replace U3' := Lib.hid U3'
    clear hju h h2 ha hd0 hroot hkl hall hbl hn1 J C U1 U2 U3
    cases ru with
    | false =>
      clear hn2 U3'
      go_wp2_with fail
      refine (J'.out w1 (HG.out.below B1.out)).mono ?_
      rintro e w2 ⟨rfl, hB2⟩
      have B2 := Lib.hid (B1.out.trans (hB2.mono B1.out.size))
      clear hB2
      go_wp2_with fail
      refine (C'.out w2 (HG.out.below B2.out)).mono ?_
      rintro e w3 ⟨rfl, hB3⟩
      have B3 := Lib.hid (B2.out.trans (hB3.mono B2.out.size))
      clear hB3
      go_wp2_with fail
      refine (U1'.out w3 (HG.out.below B3.out)).mono ?_
      rintro e w4 ⟨rfl, hB4⟩
      have B4 := Lib.hid (B3.out.trans (hB4.mono B3.out.size))
      clear hB4
      go_wp2_with fail
      refine (U2'.out w4 (HG.out.below B4.out)).mono ?_
      rintro e w5 ⟨rfl, hB5⟩
      have B5 := Lib.hid (B4.out.trans (hB5.mono B4.out.size))
      clear hB5
      go_wp2_with fail
      refine (awake_end HG.out B5.out).mono ?_
      rintro e w6 ⟨rfl, hB6⟩
      go_wp2_with fail
      go_ret
      exact ⟨rfl, hB6⟩
    | true =>
      have hrv := hn2 rfl
      subst hrv
      clear hn2
      go_wp2_with fail
      refine (J'.out w1 (HG.out.below B1.out)).mono ?_
      rintro e w2 ⟨rfl, hB2⟩
      have B2 := Lib.hid (B1.out.trans (hB2.mono B1.out.size))
      clear hB2
      go_wp2_with fail
      refine (C'.out w2 (HG.out.below B2.out)).mono ?_
      rintro e w3 ⟨rfl, hB3⟩
      have B3 := Lib.hid (B2.out.trans (hB3.mono B2.out.size))
      clear hB3
      go_wp2_with fail
      refine (U1'.out w3 (HG.out.below B3.out)).mono ?_
      rintro e w4 ⟨rfl, hB4⟩
      have B4 := Lib.hid (B3.out.trans (hB4.mono B3.out.size))
      clear hB4
      go_wp2_with fail
      refine (U2'.out w4 (HG.out.below B4.out)).mono ?_
      rintro e w5 ⟨rfl, hB5⟩
      have B5 := Lib.hid (B4.out.trans (hB5.mono B4.out.size))
      clear hB5
      go_wp2_with fail
      refine (U3'.out w5 (HG.out.below B5.out)).mono ?_
      rintro e w6 ⟨rfl, hB6⟩
      have B6 := Lib.hid (B5.out.trans (hB6.mono B5.out.size))
      clear hB6
      go_wp2_with fail
      refine (awake_end HG.out B6.out).mono ?_
      rintro e w7 ⟨rfl, hB7⟩
      go_wp2_with fail
      go_ret
      exact ⟨rfl, hB7⟩
end Go.Proofs.YtoihflkhpbpljaaDoor
