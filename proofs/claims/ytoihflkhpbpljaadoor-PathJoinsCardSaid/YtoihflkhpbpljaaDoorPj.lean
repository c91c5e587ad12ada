/-
  Under, of package path and of the reference; the law's comparison of two lists.
-/
import Derived.Test.YtoihflkhpbpljaaDoorPi
namespace Go.Proofs.YtoihflkhpbpljaaDoor
open Go.RowKit

theorem below_dn (w : World) (n : Nat) : Below w.heap.size w (w.drewN n) := ⟨rfl, rfl, rfl, Nat.le_refl _, fun _ _ => rfl⟩
theorem map_mk_inj {a b : List (List UInt8)} (h : a.map mk = b.map mk) : a = b := by
  have e : ∀ L : List (List UInt8), (L.map mk).map (·.data.toList) = L := fun L => by
    rw [List.map_map]
    conv => rhs; rw [← List.map_id L]
    exact List.map_congr_left fun x _ => mk_data x
  rw [← e a, ← e b, h]

/-- slices.Equal of a list and of as many elements of another one. -/
theorem Equal_lib (v : Value) (q : Option Addr) (cap : Nat) (L M : List (List UInt8)) (w : World) (hv : SRow w v L) (hu : SRow w (.slice q M.length cap) M) (hlen : L.length ≤ M.length) :
    Calls Tryd.prog 35 #[v, .slice q L.length cap] w fun e w' => e = .returned (.bool (decide (L <+: M))) ∧ Below w.heap.size w w' := by
  obtain ⟨p, c, rfl, hc, hm, h⟩ := hv
  obtain ⟨q', cap', e1, hc2, hm2, h2⟩ := hu
  injection e1 with e1 _ e2
  subst e1 e2
  have hm' : maxLen ≤ 9223372036854775807 := by unfold maxLen; omega
  by_cases h0 : L = []
  · subst h0
    refine (Tryd.slices_Equal_string_empty p q c 0 cap w (by omega)).mono ?_
    rintro e w' ⟨rfl, rfl⟩
    exact ⟨by simp, Below.refl _ _⟩
  · obtain ⟨b1, o1, rfl, hb1, hc1⟩ := h h0
    obtain ⟨b2, o2, rfl, hb2, hcc⟩ := h2 (by rintro rfl; exact h0 (List.eq_nil_of_length_eq_zero (by simpa using hlen)))
    have get : ∀ (K : List (List UInt8)) j (hj : j < (K.map mk).length), (K.map mk).getD j ByteArray.empty = mk (K[j]'(by simpa using hj)) := fun K j hj => by
      rw [List.getD_eq_getElem?_getD, List.getElem?_eq_getElem hj]; simp
    refine (Tryd.slices_Equal_string b1 o1 L.length c b2 o2 L.length cap (L.map mk) (M.map mk) w (by simp) (by simpa using hlen) (by omega) (by omega)
      (fun j hj => by rw [get L j hj]; exact hc1 j (by simpa using hj)) (fun j hj => by rw [get M j hj]; exact hcc j (by simpa using hj))).mono ?_
    rintro e w' ⟨rfl, n, rfl⟩
    refine ⟨?_, below_dn _ _⟩
    congr 2
    rw [decide_eq_decide, List.prefix_iff_eq_take, ← List.map_take, ← List.map_take, List.take_length]
    exact ⟨map_mk_inj, fun h => by rw [← h]⟩

theorem underR_bad1 {d p : List UInt8} {c : Int} (hc : c ≠ 0) (h : splitR d = ([], c)) : underR d p = false := by unfold underR; simp [h, hc]
theorem underR_bad2 {d p : List UInt8} {c : Int} (hc : c ≠ 0) (h : splitR p = ([], c)) : underR d p = false := by unfold underR; simp [h, hc]
theorem underR_ok {d p : List UInt8} {L M : List (List UInt8)} (h1 : splitR d = (L, 0)) (h2 : splitR p = (M, 0)) : underR d p = (rootedL d && (rootedL p && decide (L <+: M))) := by
  unfold underR; rw [Bool.eq_iff_iff]; simp [h1, h2]

set_option maxRecDepth 100000 in
set_option maxHeartbeats 3200000 in
theorem Under_any (d s : ByteArray) (hd : d.size ≤ 100000) (hs : s.size ≤ 100000) (w : World) (g : G w) :
    Calls Tryd.prog 25 #[.string d, .string s] w fun e w' => e = .returned (.bool (underR d.data.toList s.data.toList)) ∧ Below w.heap.size w w' := by
  have HR1 := Lib.hid (fun W => isRooted_any d W)
  have HR2 := Lib.hid (fun W => isRooted_any s W)
  have H1 := Split_any d hd w g
  have H2 := fun W g => Split_any s hs W g
  have HG := Lib.hid g
  clear g
  rcases splitR_cases d.data.toList with ⟨c, hc, h⟩ | ⟨L, h, -, -, hl, -⟩
  · rw [underR_bad1 hc h]
    rw [h] at H1
    have hc1 : (c != 0) = true := by simpa using hc
    have hc2 : (c == 0) = false := by simpa using hc
    have HS1 := Lib.hid H1
    have HS2 := Lib.hid H2
    clear H1 H2 h hc
    generalize splitR s.data.toList = res at HS2
    obtain ⟨r1, r2⟩ := res
    go_enter Tryd.func25, Tryd.ntmps25
    go_wp2_with fail
    refine HS1.out.mono ?_
    rintro e w1 ⟨v, rfl, hv, hB⟩
    have HB := Lib.hid hB
    clear hv hB
    go_wp2_with fail
    refine (HS2.out w1 (HG.out.below HB.out)).mono ?_
    rintro e w2 ⟨u, rfl, hu, hB2⟩
    have HB2 := Lib.hid (HB.out.trans (hB2.mono HB.out.size))
    clear hu hB2
    go_wp2_with fail
    go_ret
    exact ⟨rfl, HB2.out⟩
  rw [h] at H1
  rcases splitR_cases s.data.toList with ⟨c, hc, h2⟩ | ⟨M, h2, -, -, hm, -⟩
  · rw [underR_bad2 hc h2]
    rw [h2] at H2
    have hc1 : (c != 0) = true := by simpa using hc
    have hc2 : (c == 0) = false := by simpa using hc
    have HS1 := Lib.hid H1
    have HS2 := Lib.hid H2
    clear H1 H2 h h2 hc
    go_enter Tryd.func25, Tryd.ntmps25
    go_wp2_with fail
    refine HS1.out.mono ?_
    rintro e w1 ⟨v, rfl, hv, hB⟩
    have HB := Lib.hid hB
    clear hv hB
    go_wp2_with fail
    refine (HS2.out w1 (HG.out.below HB.out)).mono ?_
    rintro e w2 ⟨u, rfl, hu, hB2⟩
    have HB2 := Lib.hid (HB.out.trans (hB2.mono HB.out.size))
    clear hu hB2
    go_wp2_with fail
    go_ret
    exact ⟨rfl, HB2.out⟩
  rw [h2] at H2
  rw [underR_ok h h2]
  have HS1 := Lib.hid H1
  have HS2 := Lib.hid H2
  clear H1 H2 h h2
  generalize rootedL d.data.toList = r1 at HR1 ⊢
  generalize rootedL s.data.toList = r2 at HR2 ⊢
  cases r1 with
  | false =>
    go_enter Tryd.func25, Tryd.ntmps25
    go_wp2_with fail
    refine HS1.out.mono ?_
    rintro e w1 ⟨v, rfl, hv, hB⟩
    have HB := Lib.hid hB
    clear hv hB
    go_wp2_with fail
    refine (HS2.out w1 (HG.out.below HB.out)).mono ?_
    rintro e w2 ⟨u, rfl, hu, hB2⟩
    have HB2 := Lib.hid (HB.out.trans (hB2.mono HB.out.size))
    clear hu hB2
    go_wp2_with fail
    refine (HR1.out w2).mono ?_
    rintro e w' ⟨rfl, rfl⟩
    go_wp2_with fail
    go_ret
    exact ⟨rfl, HB2.out⟩
  | true =>
    cases r2 with
    | false =>
      go_enter Tryd.func25, Tryd.ntmps25
      go_wp2_with fail
      refine HS1.out.mono ?_
      rintro e w1 ⟨v, rfl, hv, hB⟩
      have HB := Lib.hid hB
      clear hv hB
      go_wp2_with fail
      refine (HS2.out w1 (HG.out.below HB.out)).mono ?_
      rintro e w2 ⟨u, rfl, hu, hB2⟩
      have HB2 := Lib.hid (HB.out.trans (hB2.mono HB.out.size))
      clear hu hB2
      go_wp2_with fail
      refine (HR1.out w2).mono ?_
      rintro e w' ⟨rfl, rfl⟩
      go_wp2_with fail
      refine (HR2.out w2).mono ?_
      rintro e w' ⟨rfl, rfl⟩
      go_wp2_with fail
      go_ret
      exact ⟨rfl, HB2.out⟩
    | true =>
      by_cases hlm : L.length ≤ M.length
      · have HE := Lib.hid (fun v q cap w hv hu => Equal_lib v q cap L M w hv hu hlm)
        have hr : (true && (true && decide (L <+: M))) = decide (L <+: M) := by simp
        rw [hr]
        clear hr
        generalize decide (L <+: M) = res at HE ⊢
        go_enter Tryd.func25, Tryd.ntmps25
        go_wp2_with fail
        refine HS1.out.mono ?_
        rintro e w1 ⟨v, rfl, hv, hB⟩
        have HB := Lib.hid hB
        have HV := Lib.hid hv
        clear hB
        go_wp2_with fail
        refine (HS2.out w1 (HG.out.below HB.out)).mono ?_
        rintro e w2 ⟨u, rfl, hu, hB2⟩
        have HV2 := Lib.hid (HV.out.below hB2)
        have HU2 := Lib.hid hu
        have HB2 := Lib.hid (HB.out.trans (hB2.mono HB.out.size))
        obtain ⟨p, c, rfl, -⟩ := hv
        obtain ⟨q, cap, rfl, hqc, -⟩ := hu
        clear hB2 HB HV
        go_wp2_with fail
        refine (HR1.out w2).mono ?_
        rintro e w' ⟨rfl, rfl⟩
        go_wp2_with fail
        refine (HR2.out w2).mono ?_
        rintro e w' ⟨rfl, rfl⟩
        go_wp2_with fail
        refine (HE.out _ q cap w2 HV2.out HU2.out).mono ?_
        rintro e w3 ⟨rfl, hB3⟩
        have HB3 := Lib.hid (HB2.out.trans (hB3.mono HB2.out.size))
        clear hB3
        go_wp2_with fail
        go_ret
        exact ⟨rfl, HB3.out⟩
      · have hr : decide (L <+: M) = false := by
          rw [decide_eq_false_iff_not]; intro h; exact hlm h.length_le
        rw [hr]
        clear hr
        go_enter Tryd.func25, Tryd.ntmps25
        go_wp2_with fail
        refine HS1.out.mono ?_
        rintro e w1 ⟨v, rfl, hv, hB⟩
        have HB := Lib.hid hB
        clear hB
        go_wp2_with fail
        refine (HS2.out w1 (HG.out.below HB.out)).mono ?_
        rintro e w2 ⟨u, rfl, hu, hB2⟩
        have HB2 := Lib.hid (HB.out.trans (hB2.mono HB.out.size))
        obtain ⟨p, c, rfl, -⟩ := hv
        obtain ⟨q, cap, rfl, hqc, -⟩ := hu
        clear hB2 HB
        go_wp2_with fail
        refine (HR1.out w2).mono ?_
        rintro e w' ⟨rfl, rfl⟩
        go_wp2_with fail
        refine (HR2.out w2).mono ?_
        rintro e w' ⟨rfl, rfl⟩
        go_wp2_with fail
        go_ret
        exact ⟨rfl, HB2.out⟩
end Go.Proofs.YtoihflkhpbpljaaDoor
