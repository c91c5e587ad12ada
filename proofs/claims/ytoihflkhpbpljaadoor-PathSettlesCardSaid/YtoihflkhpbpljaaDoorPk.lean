/-
  The reference's Under; the law's comparison of two lists.
-/
import Derived.Test.YtoihflkhpbpljaaDoorPj
namespace Go.Proofs.YtoihflkhpbpljaaDoor
open Go.RowKit

theorem SRow.cells {w : World} {p : Option Addr} {n cap : Nat} {L : List (List UInt8)} (h : SRow w (.slice p n cap) L) : n = L.length ∧ (∀ k (hk : k < L.length), ∃ b o, p = some ⟨b, o, none⟩ ∧ w.cell? ⟨b, o + k, none⟩ = some (.string (mk L[k]))) := by
  obtain ⟨q, c, e, hc, hm, h⟩ := h
  injection e with e1 e2 e3
  subst e1
  refine ⟨e2, fun k hk => ?_⟩
  obtain ⟨b, o, rfl, hb, hcell⟩ := h (by rintro rfl; simp at hk)
  exact ⟨b, o, rfl, hcell k hk⟩
theorem mk_beq (a b : List UInt8) : ((mk a).toList == (mk b).toList) = decide (a = b) := by rw [mk_toList, mk_toList, Bool.eq_iff_iff]; simp
theorem take_eq_succ {L M : List (List UInt8)} {k : Nat} (hl : k < L.length) (hm : k < M.length) (h : L.take k = M.take k) (he : L[k] = M[k]) : L.take (k + 1) = M.take (k + 1) := by
  rw [List.take_succ_eq_append_getElem hl, List.take_succ_eq_append_getElem hm, h, he]

set_option maxRecDepth 100000 in
set_option maxHeartbeats 800000 in
theorem same_any (a b : Value) (L M : List (List UInt8)) (w : World) (ha : SRow w a L) (hb : SRow w b M) (hl : L.length ≤ 100000) (hm : M.length ≤ 100000) :
    Calls Tryd.prog 18 #[a, b] w fun e w' => e = .returned (.bool (decide (L = M))) ∧ Below w.heap.size w w' := by
  obtain ⟨p, cp, rfl, hpc, -⟩ := id ha
  obtain ⟨q, cq, rfl, hqc, -⟩ := id hb
  have HA := Lib.hid ha.cells.2
  have HB := Lib.hid hb.cells.2
  clear ha hb
  by_cases hlen : L.length = M.length
  · have HL := Lib.hid hlen
    have hne : ((L.length : Int) != (M.length : Int)) = false := by rw [hlen]; simp
    have hr1 : L.take L.length = M.take L.length → decide (L = M) = true := fun h => by
      rw [List.take_length, hlen, List.take_length] at h; simpa using h
    have hr0 : ∀ k (h1 : k < L.length) (h2 : k < M.length), L[k] ≠ M[k] → decide (L = M) = false := fun k h1 h2 h => by
      rw [decide_eq_false_iff_not]; intro e; subst e; exact h rfl
    generalize decide (L = M) = res at hr1 hr0 ⊢
    have HR1 := Lib.hid hr1
    have HR0 := Lib.hid hr0
    clear hr1 hr0 hlen
    go_enter Tryd.func18, Tryd.ntmps18
    go_wp2
    go_loopw [13] (fun vi wr => ∃ k : Nat, vi = .int .i64 (k : Int) ∧ k ≤ L.length ∧ (∃ n, wr = w.drewN n) ∧ Hid (L.take k = M.take k)) (fun vi _ => L.length - (intOf vi).toNat)
    case atStart => exact ⟨0, rfl, by omega, ⟨0, by rw [World.drewN_zero]⟩, rfl⟩
    case round =>
      obtain ⟨k, rfl, hk, ⟨n, rfl⟩, htk⟩ := hrel
      by_cases hkn : k < L.length
      · have hkm : k < M.length := by have := HL.out; omega
        obtain ⟨b1, o1, hp1, c1⟩ := HA.out k hkn
        obtain ⟨b2, o2, hp2, c2⟩ := HB.out k hkm
        subst hp1 hp2
        have hbq := mk_beq L[k] M[k]
        have HT := fun h => Lib.hid (take_eq_succ hkn hkm htk.out h)
        have HN := fun h => Lib.hid (HR0.out k hkn hkm h)
        generalize L[k] = x at *
        generalize M[k] = y at *
        have ki : (k : Int) < (L.length : Int) := by omega
        have kj : (k : Int) < (M.length : Int) := by omega
        have k0 : (0 : Int) ≤ (k : Int) := by omega
        by_cases he : x = y
        · have HT' := HT he
          rw [he] at c1
          clear HT HN hbq he
          go_wp2
          go_quiet (fail)
          go_wp2
          exact ⟨⟨k + 1, by go_num, by omega, ⟨n + nq, by first | rfl | rw [World.drewN_drewN]⟩, HT'⟩, by simp [intOf]; omega⟩
        · have HN' := HN he
          have hxy : ((mk x).toList == (mk y).toList) = false := by rw [hbq]; simpa using he
          clear HT HN hbq he
          go_wp2
          go_quiet (fail)
          go_wp2
          go_ret
          rw [HN'.out]
          exact ⟨rfl, by rw [World.drewN_drewN]; exact below_dn _ _⟩
      · have hkl : k = L.length := by omega
        have htk' := htk.out
        rw [hkl] at htk'
        have HR := Lib.hid (HR1.out htk')
        clear htk'
        go_wp2
        go_ret
        rw [HR.out]
        exact ⟨rfl, below_dn _ _⟩
  · have hr : decide (L = M) = false := by rw [decide_eq_false_iff_not]; intro h; exact hlen (by rw [h])
    rw [hr]
    have hne : ((L.length : Int) != (M.length : Int)) = true := by rw [bne_iff_ne]; omega
    clear hr
    go_enter Tryd.func18, Tryd.ntmps18
    go_wp2
    go_ret
    exact ⟨rfl, Below.refl _ _⟩

set_option maxRecDepth 100000 in
set_option maxHeartbeats 3200000 in
theorem RUnder_any (d s : ByteArray) (hd : d.size ≤ 100000) (hs : s.size ≤ 100000) (w : World) :
    Calls Tryd.prog 26 #[.string d, .string s] w fun e w' => e = .returned (.bool (underR d.data.toList s.data.toList)) ∧ Below w.heap.size w w' := by
  have HR1 := Lib.hid (fun W => Rooted_any d hd W)
  have HR2 := Lib.hid (fun W => Rooted_any s hs W)
  have H1 := RSplit_any d hd w
  have H2 := fun W => RSplit_any s hs W
  rcases splitR_cases d.data.toList with ⟨c, hc, h⟩ | ⟨L, h, -, -, hl, -⟩
  · rw [underR_bad1 hc h]
    rw [h] at H1
    have hc1 : (c != 0) = true := by simpa using hc
    have hc2 : (c == 0) = false := by simpa using hc
    have HS1 := Lib.hid H1
    have HS2 := Lib.hid H2
    clear H1 H2 h hc
    generalize splitR s.data.toList = res at HS2
    obtain ⟨r1, r2⟩ := res
    go_enter Tryd.func26, Tryd.ntmps26
    go_wp2_with fail
    refine HS1.out.mono ?_
    rintro e w1 ⟨v, rfl, hv, hB⟩
    have HB := Lib.hid hB
    clear hv hB
    go_wp2_with fail
    refine (HS2.out w1).mono ?_
    rintro e w2 ⟨u, rfl, hu, hB2⟩
    have HB2 := Lib.hid (HB.out.trans (hB2.mono HB.out.size))
    clear hu hB2
    go_wp2_with fail
    go_ret
    exact ⟨rfl, HB2.out⟩
  rw [h] at H1
  rcases splitR_cases s.data.toList with ⟨c, hc, h2⟩ | ⟨M, h2, -, -, hm, -⟩
  · rw [underR_bad2 hc h2]
    rw [h2] at H2
    have hc1 : (c != 0) = true := by simpa using hc
    have hc2 : (c == 0) = false := by simpa using hc
    have HS1 := Lib.hid H1
    have HS2 := Lib.hid H2
    clear H1 H2 h h2 hc
    go_enter Tryd.func26, Tryd.ntmps26
    go_wp2_with fail
    refine HS1.out.mono ?_
    rintro e w1 ⟨v, rfl, hv, hB⟩
    have HB := Lib.hid hB
    clear hv hB
    go_wp2_with fail
    refine (HS2.out w1).mono ?_
    rintro e w2 ⟨u, rfl, hu, hB2⟩
    have HB2 := Lib.hid (HB.out.trans (hB2.mono HB.out.size))
    clear hu hB2
    go_wp2_with fail
    go_ret
    exact ⟨rfl, HB2.out⟩
  rw [h2] at H2
  rw [underR_ok h h2]
  have HS1 := Lib.hid H1
  have HS2 := Lib.hid H2
  clear H1 H2 h h2
  generalize rootedL d.data.toList = r1 at HR1 ⊢
  generalize rootedL s.data.toList = r2 at HR2 ⊢
  cases r1 with
  | false =>
    go_enter Tryd.func26, Tryd.ntmps26
    go_wp2_with fail
    refine HS1.out.mono ?_
    rintro e w1 ⟨v, rfl, hv, hB⟩
    have HB := Lib.hid hB
    clear hv hB
    go_wp2_with fail
    refine (HS2.out w1).mono ?_
    rintro e w2 ⟨u, rfl, hu, hB2⟩
    have HB2 := Lib.hid (HB.out.trans (hB2.mono HB.out.size))
    clear hu hB2
    go_wp2_with fail
    refine (HR1.out w2).mono ?_
    rintro e w' ⟨rfl, rfl⟩
    go_wp2_with fail
    go_ret
    exact ⟨rfl, HB2.out⟩
  | true =>
    cases r2 with
    | false =>
      go_enter Tryd.func26, Tryd.ntmps26
      go_wp2_with fail
      refine HS1.out.mono ?_
      rintro e w1 ⟨v, rfl, hv, hB⟩
      have HB := Lib.hid hB
      clear hv hB
      go_wp2_with fail
      refine (HS2.out w1).mono ?_
      rintro e w2 ⟨u, rfl, hu, hB2⟩
      have HB2 := Lib.hid (HB.out.trans (hB2.mono HB.out.size))
      clear hu hB2
      go_wp2_with fail
      refine (HR1.out w2).mono ?_
      rintro e w' ⟨rfl, rfl⟩
      go_wp2_with fail
      refine (HR2.out w2).mono ?_
      rintro e w' ⟨rfl, rfl⟩
      go_wp2_with fail
      go_ret
      exact ⟨rfl, HB2.out⟩
    | true =>
      by_cases hlm : L.length ≤ M.length
      · have hr : (true && (true && decide (L <+: M))) = decide (L <+: M) := by simp
        rw [hr]
        have hr1 : L.take L.length = M.take L.length → decide (L <+: M) = true := fun h => by
          rw [List.take_length] at h; rw [decide_eq_true_iff, List.prefix_iff_eq_take]; exact h
        have hr0 : ∀ k (h1 : k < L.length) (h2 : k < M.length), L[k] ≠ M[k] → decide (L <+: M) = false := fun k h1 h2 h => by
          rw [decide_eq_false_iff_not]; intro e; exact h (List.IsPrefix.getElem e h1)
        generalize decide (L <+: M) = res at hr1 hr0 ⊢
        have HR1' := Lib.hid hr1
        have HR0 := Lib.hid hr0
        clear hr1 hr0 hr
        go_enter Tryd.func26, Tryd.ntmps26
        go_wp2_with fail
        refine HS1.out.mono ?_
        rintro e w1 ⟨v, rfl, hv, hB⟩
        have HB := Lib.hid hB
        have HV := Lib.hid hv
        clear hB
        go_wp2_with fail
        refine (HS2.out w1).mono ?_
        rintro e w2 ⟨u, rfl, hu, hB2⟩
        have hv2 := HV.out.below hB2
        have HB2 := Lib.hid (HB.out.trans (hB2.mono HB.out.size))
        obtain ⟨p, c, rfl, -⟩ := hv
        obtain ⟨q, cap, rfl, hqc, -⟩ := id hu
        have HA := Lib.hid hv2.cells.2
        have HC := Lib.hid hu.cells.2
        clear hB2 HB HV hv2 hu
        go_wp2_with fail
        refine (HR1.out w2).mono ?_
        rintro e w' ⟨rfl, rfl⟩
        go_wp2_with fail
        refine (HR2.out w2).mono ?_
        rintro e w' ⟨rfl, rfl⟩
        go_wp2_with fail
        go_loopw [9] (fun vi wr => ∃ k : Nat, vi = .int .i64 (k : Int) ∧ k ≤ L.length ∧ (∃ n, wr = w2.drewN n) ∧ Hid (L.take k = M.take k)) (fun vi _ => L.length - (intOf vi).toNat)
        case atStart => exact ⟨0, rfl, by omega, ⟨0, by rw [World.drewN_zero]⟩, rfl⟩
        case round =>
          obtain ⟨k, rfl, hk, ⟨n, rfl⟩, htk⟩ := hrel
          by_cases hkn : k < L.length
          · have hkm : k < M.length := by omega
            obtain ⟨b1, o1, hp1, c1⟩ := HA.out k hkn
            obtain ⟨b2, o2, hp2, c2⟩ := HC.out k hkm
            subst hp1 hp2
            have hbq := mk_beq L[k] M[k]
            have HT := fun h => Lib.hid (take_eq_succ hkn hkm htk.out h)
            have HN := fun h => Lib.hid (HR0.out k hkn hkm h)
            generalize L[k] = x at *
            generalize M[k] = y at *
            have ki : (k : Int) < (L.length : Int) := by omega
            have kj : (k : Int) < (M.length : Int) := by omega
            have k0 : (0 : Int) ≤ (k : Int) := by omega
            by_cases he : x = y
            · have HT' := HT he
              rw [he] at c1
              clear HT HN hbq he
              go_wp2_with fail
              go_quiet (fail)
              go_wp2_with fail
              exact ⟨⟨k + 1, by go_num, by omega, ⟨n + nq, by first | rfl | rw [World.drewN_drewN]⟩, HT'⟩, by simp [intOf]; omega⟩
            · have HN' := HN he
              have hxy : ((mk x).toList == (mk y).toList) = false := by rw [hbq]; simpa using he
              clear HT HN hbq he
              go_wp2_with fail
              go_quiet (fail)
              go_wp2_with fail
              go_ret
              rw [HN'.out]
              exact ⟨rfl, HB2.out.trans (by rw [World.drewN_drewN]; exact (below_dn _ _).mono HB2.out.size)⟩
          · have hkl : k = L.length := by omega
            have htk' := htk.out
            rw [hkl] at htk'
            have HR := Lib.hid (HR1'.out htk')
            clear htk'
            go_wp2_with fail
            go_ret
            rw [HR.out]
            exact ⟨rfl, HB2.out.trans ((below_dn _ _).mono HB2.out.size)⟩
      · have hr : decide (L <+: M) = false := by
          rw [decide_eq_false_iff_not]; intro h; exact hlm h.length_le
        rw [hr]
        clear hr
        go_enter Tryd.func26, Tryd.ntmps26
        go_wp2_with fail
        refine HS1.out.mono ?_
        rintro e w1 ⟨v, rfl, hv, hB⟩
        have HB := Lib.hid hB
        clear hB
        go_wp2_with fail
        refine (HS2.out w1).mono ?_
        rintro e w2 ⟨u, rfl, hu, hB2⟩
        have HB2 := Lib.hid (HB.out.trans (hB2.mono HB.out.size))
        obtain ⟨p, c, rfl, -⟩ := hv
        obtain ⟨q, cap, rfl, hqc, -⟩ := hu
        clear hB2 HB
        go_wp2_with fail
        refine (HR1.out w2).mono ?_
        rintro e w' ⟨rfl, rfl⟩
        go_wp2_with fail
        refine (HR2.out w2).mono ?_
        rintro e w' ⟨rfl, rfl⟩
        go_wp2_with fail
        go_ret
        exact ⟨rfl, HB2.out⟩
end Go.Proofs.YtoihflkhpbpljaaDoor
