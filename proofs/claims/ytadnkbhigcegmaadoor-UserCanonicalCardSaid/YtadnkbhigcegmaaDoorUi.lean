/-
  Check: package user's.
-/
import Derived.Test.YtadnkbhigcegmaaDoorUh
namespace Go.Proofs.YtadnkbhigcegmaaDoor
open Go.RowKit Go.Maps Go.WideMaps Go.WideShapes

theorem chk_err {L : List U} {k : Nat} {e : Int} (hk : k < L.length) (h : oneL L k = e) (he : e ≠ 0) : chk L k (L.length - k) = e := by
  rw [show L.length - k = (L.length - (k + 1)) + 1 by omega, chk, h, if_pos he]
theorem chk_ok {L : List U} {k : Nat} (hk : k < L.length) (h : oneL L k = 0) : chk L k (L.length - k) = chk L (k + 1) (L.length - (k + 1)) := by
  conv => lhs; rw [show L.length - k = (L.length - (k + 1)) + 1 by omega, chk, h, if_neg (by simp)]
theorem one_25 {L : List U} {k : Nat} (h : validL (getL L k).n = false) : oneL L k = 25 := by unfold oneL; rw [if_pos h]
theorem one_7 {L : List U} {k : Nat} (h : validL (getL L k).n = true) (h2 : atL L (getL L k).n < k) : oneL L k = 7 := by unfold oneL; rw [if_neg (by simp [h]), if_pos h2]
theorem one_26 {L : List U} {k : Nat} (h : validL (getL L k).n = true) (h2 : ¬ atL L (getL L k).n < k) (h3 : groupL L (getL L k) = false) : oneL L k = 26 := by unfold oneL; rw [if_neg (by simp [h]), if_neg h2, if_pos h3]
theorem one_0 {L : List U} {k : Nat} (h : validL (getL L k).n = true) (h2 : ¬ atL L (getL L k).n < k) (h3 : groupL L (getL L k) = true) : oneL L k = 0 := by unfold oneL; rw [if_neg (by simp [h]), if_neg h2, if_neg (by simp [h3])]
theorem has_self {L : List U} {k : Nat} (hk : k < L.length) : hasL L (getL L k).n = true := by
  have := atL_self hk
  unfold hasL
  rw [decide_eq_true_eq]; omega

theorem hown_below {w w' : World} {b n : Nat} {D : DataW Unit} (h : w.ownsMap Tryd.prog 9 (plainElem Tryd.prog 3) b n D) (hB : Below w.heap.size w w') : w'.ownsMap Tryd.prog 9 (plainElem Tryd.prog 3) b n D :=
  h.kept (row := none) ⟨hB.os, hB.tape, hB.output, hB.size, fun k hk _ => hB.block k hk⟩ (by simp)

set_option maxRecDepth 100000 in
set_option maxHeartbeats 3200000 in
theorem Check_any (v : Value) (L : List U) (w : World) (h : URow w v L) (hb : Big L) :
    Calls Tryd.prog 16 #[v] w fun e w' => e = .returned (.int .i64 (checkL L)) ∧ Below w.heap.size w w' := by
  have HU := Lib.hid h
  have F := Lib.hid (firstByName_any v L w h hb)
  have HBig := Lib.hid hb
  obtain ⟨p, cap, rfl, hc, hm, _⟩ := h
  have hl := hb.1
  clear hb
  by_cases h64 : 64 < L.length
  · have hr : Hid (checkL L = 22) := if_pos h64
    generalize checkL L = res at hr ⊢
    go_enter Tryd.func16, Tryd.ntmps16
    go_wp2
    go_ret
    rw [hr.out]
    exact ⟨rfl, Below.refl _ _⟩
  · have hr : Hid (checkL L = chk L 0 (L.length - 0)) := if_neg h64
    generalize checkL L = res at hr ⊢
    go_enter Tryd.func16, Tryd.ntmps16
    go_wp2_with fail
    refine F.out.mono ?_
    rintro e w1 ⟨rfl, hF, hB⟩
    have HB1 := Lib.hid hB
    have hsz1 := hB.size
    obtain ⟨D, hown, hD⟩ := hF
    have HO := Lib.hid hown
    have HD := Lib.hid hD
    clear hB hown hD F
    go_wp2_with fail
    go_loopw [13] (fun vi wr => ∃ k : Nat, vi = .int .i64 (k : Int) ∧ k ≤ L.length ∧ Hid (res = chk L k (L.length - k)) ∧ Hid (Below w1.heap.size w1 wr)) (fun vi _ => L.length - (intOf vi).toNat)
    case atStart => exact ⟨0, rfl, by omega, hr, Below.refl _ _⟩
    case round =>
      obtain ⟨k, rfl, hk, HR, HB⟩ := hrel
      have hsz := HB.out.size
      by_cases hlt : k < L.length
      · obtain ⟨b, o, cap', q, c, hp, hb, hcl, c0, c1, c2, hqc, hs⟩ := HU.out.at_ (HB1.out.trans (HB.out.mono hsz1)) hlt
        obtain ⟨rfl, rfl⟩ : p = some ⟨b, o, none⟩ ∧ cap = cap' := by injection hp with h1 h2 h3; exact ⟨h1, h3⟩
        obtain ⟨hb1, hb2, hb3, hb4⟩ := HBig.out.2 k
        have hkey := keyS (x := (getL L k).n) (by omega)
        have ha := HB.out.alloc hsz (.cells #[.string (mk (getL L k).n), .string (mk (getL L k).l), .slice q (getL L k).m.length c] 32)
        have hO2 := hown_below HO.out ha
        have hF2 : FMap (wr.alloc (.cells #[.string (mk (getL L k).n), .string (mk (getL L k).l), .slice q (getL L k).m.length c] 32)) w.heap.size L.length L := ⟨D, hO2, HD.out⟩
        have hs2 := hs.below (HB1.out.trans (ha.mono hsz1))
        have HV := Lib.hid (Valid_any (getL L k).n hb1 (wr.alloc (.cells #[.string (mk (getL L k).n), .string (mk (getL L k).l), .slice q (getL L k).m.length c] 32)))
        have HG := Lib.hid (isGroup_any (getL L k) L q c w.heap.size L.length _ hs2 hF2 hb3 hb2 hb4)
        have HO2 := Lib.hid hO2
        have HA := Lib.hid ha
        have hat : ∀ cc : Int, D.atKey (.string (getL L k).n) (.lit (.int .i64 0)) = .lit (.int .i64 cc) → cc = (atL L (getL L k).n : Int) := fun cc e => by
          rw [(HD.out _).2 (has_self hlt)] at e
          injection e with e; injection e with e1 e2; exact e2.symm
        have HAT := Lib.hid hat
        have H25 := Lib.hid (fun h => HR.out.trans (chk_err hlt (one_25 (L := L) (k := k) h) (by decide)))
        have H7 := Lib.hid (fun h h2 => HR.out.trans (chk_err hlt (one_7 (L := L) (k := k) h h2) (by decide)))
        have H26 := Lib.hid (fun h h2 h3 => HR.out.trans (chk_err hlt (one_26 (L := L) (k := k) h h2 h3) (by decide)))
        have H0 := Lib.hid (fun h h2 h3 => HR.out.trans (chk_ok hlt (one_0 (L := L) (k := k) h h2 h3)))
        clear hp hs hb1 hb2 hb3 hb4 ha hO2 hF2 hs2 hat HR
        generalize groupL L (getL L k) = gr at HG H26 H0
        generalize atL L (getL L k).n = m at HAT H7 H26 H0
        generalize validL (getL L k).n = va at HV H25 H7 H26 H0
        generalize hu : getL L k = uk at c0 c1 c2 hqc HV HG HO2 HA HAT hkey
        clear hu
        obtain ⟨un, ul, um⟩ := uk
        cases va with
        | false =>
          have HR := Lib.hid (H25.out rfl)
          clear H25 H7 H26 H0 HG
          go_wp2_with (go_at_call 11; refine HV.out.mono ?_; rintro e w' ⟨rfl, rfl⟩)
          go_ret
          rw [HR.out]
          exact ⟨rfl, HB1.out.trans (HA.out.mono hsz1)⟩
        | true =>
          by_cases hmk : (m : Int) < (k : Int)
          · have HR := Lib.hid (H7.out rfl (by omega))
            clear H25 H7 H26 H0 HG
            go_wp2_with (first
              | (go_at_call 11; refine HV.out.mono ?_; rintro e w' ⟨rfl, rfl⟩)
              | (at_lookup; refine wpList_lookup_own_int _ rfl _ _ 53 rfl 9 3 .i64 lawS Tryd.underlying53 Tryd.underlying3 (zeroI _) w.heap.size L.length D rfl HO2.out _ _ rfl hkey ?_; intro cc hat hwc; have hcc := HAT.out cc hat; subst hcc; clear hat hwc))
            go_ret
            rw [HR.out]
            exact ⟨rfl, HB1.out.trans (HA.out.mono hsz1)⟩
          · cases gr with
            | false =>
              have HR := Lib.hid (H26.out rfl (by omega) rfl)
              clear H25 H7 H26 H0
              go_wp2_with (first
                | (go_at_call 11; refine HV.out.mono ?_; rintro e w' ⟨rfl, rfl⟩)
                | (go_at_call 35; refine HG.out.mono ?_)
                | (at_lookup; refine wpList_lookup_own_int _ rfl _ _ 53 rfl 9 3 .i64 lawS Tryd.underlying53 Tryd.underlying3 (zeroI _) w.heap.size L.length D rfl HO2.out _ _ rfl hkey ?_; intro cc hat hwc; have hcc := HAT.out cc hat; subst hcc; clear hat hwc))
              rintro e w2 ⟨rfl, hB2⟩
              have HB2 := Lib.hid (HA.out.trans (hB2.mono HA.out.size))
              clear hB2
              go_wp2
              go_ret
              rw [HR.out]
              exact ⟨rfl, HB1.out.trans (HB2.out.mono hsz1)⟩
            | true =>
              have HR := Lib.hid (H0.out rfl (by omega) rfl)
              clear H25 H7 H26 H0
              go_wp2_with (first
                | (go_at_call 11; refine HV.out.mono ?_; rintro e w' ⟨rfl, rfl⟩)
                | (go_at_call 35; refine HG.out.mono ?_)
                | (at_lookup; refine wpList_lookup_own_int _ rfl _ _ 53 rfl 9 3 .i64 lawS Tryd.underlying53 Tryd.underlying3 (zeroI _) w.heap.size L.length D rfl HO2.out _ _ rfl hkey ?_; intro cc hat hwc; have hcc := HAT.out cc hat; subst hcc; clear hat hwc))
              rintro e w2 ⟨rfl, hB2⟩
              have HB2 := Lib.hid (HA.out.trans (hB2.mono HA.out.size))
              clear hB2
              go_wp2
              exact ⟨⟨k + 1, by go_num, by omega, HR, HB2⟩, by simp [intOf]; omega⟩
      · have hkn : k = L.length := by omega
        have HR2 : Hid (res = 0) := by rw [Hid, HR.out, hkn, Nat.sub_self]; rfl
        clear hkn
        go_wp2
        go_ret
        rw [HR2.out]
        exact ⟨rfl, HB1.out.trans (HB.out.mono hsz1)⟩
end Go.Proofs.YtadnkbhigcegmaaDoor
