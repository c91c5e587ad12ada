/-
  The reference's SameUser and Same.
-/
import Derived.Test.YtadnkbhigcegmaaDoorUq
namespace Go.Proofs.YtadnkbhigcegmaaDoor
open Go.RowKit

theorem lists_ne {A B : List (List UInt8)} {k : Nat} (hl : A.length = B.length) (hk : k < A.length) (h : A.getD k [] ≠ B.getD k []) : A ≠ B := by rintro rfl; exact h rfl
theorem lists_eq {A B : List (List UInt8)} (hl : A.length = B.length) (h : ∀ j, j < A.length → A.getD j [] = B.getD j []) : A = B := by
  apply List.ext_getElem hl
  intro j h1 h2
  have := h j h1
  rwa [getD_at h1, getD_at h2] at this
theorem upto_go {A B : List (List UInt8)} {k : Nat} (h : ∀ j, j < k → A.getD j [] = B.getD j []) (he : A.getD k [] = B.getD k []) : ∀ j, j < k + 1 → A.getD j [] = B.getD j [] := fun j hj => by
  by_cases e : j = k
  · subst e; exact he
  · exact h j (by omega)

set_option maxRecDepth 100000 in
set_option maxHeartbeats 1600000 in
theorem SameUser_any (a b : U) (q1 : Option Addr) (c1 : Nat) (q2 : Option Addr) (c2 : Nat) (w : World) (h1 : SRow w (.slice q1 a.m.length c1) a.m) (h2 : SRow w (.slice q2 b.m.length c2) b.m) (hl : a.m.length ≤ 1000000) :
    Calls Tryd.prog 20 #[.agg #[.string (mk a.n), .string (mk a.l), .slice q1 a.m.length c1], .agg #[.string (mk b.n), .string (mk b.l), .slice q2 b.m.length c2]] w fun e w' => e = .returned (.bool (decide (a = b))) ∧ Below w.heap.size w w' := by
  obtain ⟨an, al, am⟩ := a
  obtain ⟨bn, bl, bm⟩ := b
  simp only at h1 h2 hl ⊢
  have hr : ∀ r, r = decide ((⟨an, al, am⟩ : U) = ⟨bn, bl, bm⟩) → (an ≠ bn → r = false) ∧ (al ≠ bl → r = false) ∧ (am ≠ bm → r = false) ∧ (an = bn → al = bl → am = bm → r = true) := by
    rintro _ rfl
    refine ⟨fun h => decide_eq_false (fun e => h (by injection e)), fun h => decide_eq_false (fun e => h (by injection e)), fun h => decide_eq_false (fun e => h (by injection e)), ?_⟩
    rintro rfl rfl rfl; exact decide_eq_true rfl
  have hR := hr _ rfl
  clear hr
  generalize decide ((⟨an, al, am⟩ : U) = ⟨bn, bl, bm⟩) = r at hR ⊢
  obtain ⟨R1, R2, R3, R4⟩ := hR
  have hB := ((Below.refl w.heap.size w).alloc (Nat.le_refl _) (.cells #[.string (mk an), .string (mk al), .slice q1 am.length c1] 32)).alloc (by simp) (.cells #[.string (mk bn), .string (mk bl), .slice q2 bm.length c2] 32)
  have HB := Lib.hid hB
  have HS1 := Lib.hid (h1.below hB)
  have HS2 := Lib.hid (h2.below hB)
  have hx1 := (Below.heap_alloc (w.alloc (.cells #[.string (mk an), .string (mk al), .slice q1 am.length c1] 32)) (.cells #[.string (mk bn), .string (mk bl), .slice q2 bm.length c2] 32) w.heap.size (by simp)).trans (heap_alloc_new w (.cells #[.string (mk an), .string (mk al), .slice q1 am.length c1] 32 (0, 0)))
  have hx2 := heap_alloc_new (w.alloc (.cells #[.string (mk an), .string (mk al), .slice q1 am.length c1] 32)) (.cells #[.string (mk bn), .string (mk bl), .slice q2 bm.length c2] 32 (0, 0))
  rw [World.size_alloc] at hx2
  have HX1 := Lib.hid (blk3_2 hx1)
  have HX2 := Lib.hid (blk3_2 hx2)
  have hqc1 : (am.length : Int) ≤ c1 := by
    obtain ⟨_, _, hv, h, _⟩ := id h1
    injection hv with _ _ h4; omega
  have hqc2 : (bm.length : Int) ≤ c2 := by
    obtain ⟨_, _, hv, h, _⟩ := id h2
    injection hv with _ _ h4; omega
  clear h1 h2 hB hx1 hx2
  by_cases e1 : an = bn
  · by_cases e2 : al = bl
    · by_cases e3 : am.length = bm.length
      · have t1 : ((mk an).toList == (mk bn).toList) = true := by rw [e1]; simp
        have t2 : ((mk al).toList == (mk bl).toList) = true := by rw [e2]; simp
        have t3 : ((am.length : Int) != (bm.length : Int)) = false := by simp; omega
        have HR3 := Lib.hid R3
        have HR4 := Lib.hid (R4 e1 e2)
        have HE3 := Lib.hid e3
        clear R1 R2 R3 R4 e1 e2 e3
        go_enter Tryd.func20, Tryd.ntmps20
        go_wp2
        go_loopw [30] (fun vi wr => ∃ k : Nat, vi = .int .i64 (k : Int) ∧ k ≤ am.length ∧ Hid (Below (w.heap.size + 1 + 1) ((w.alloc (.cells #[.string (mk an), .string (mk al), .slice q1 am.length c1] 32)).alloc (.cells #[.string (mk bn), .string (mk bl), .slice q2 bm.length c2] 32)) wr) ∧ Hid (∀ j, j < k → am.getD j [] = bm.getD j [])) (fun vi _ => am.length - (intOf vi).toNat)
        case atStart => exact ⟨0, rfl, by omega, Below.refl _ _, fun j hj => by omega⟩
        case round =>
          obtain ⟨k, rfl, hk, HW, HA⟩ := hrel
          have hmB : Below w.heap.size w wr := HB.out.trans (HW.out.mono (by omega))
          have HBW := Lib.hid hmB
          by_cases hlt : k < am.length
          · have hlt2 : k < bm.length := by have := HE3.out; omega
            obtain ⟨b1, o1, hp1, hb1, d1⟩ := HS1.out.at_ (wr := wr) (by rw [World.size_alloc, World.size_alloc]; exact HW.out) hlt
            obtain ⟨b2, o2, hp2, hb2, d2⟩ := HS2.out.at_ (wr := wr) (by rw [World.size_alloc, World.size_alloc]; exact HW.out) hlt2
            subst hp1 hp2
            have y1 := (HW.out.cell (p := ⟨w.heap.size, 2, none⟩) (by show w.heap.size < _; omega)).trans HX1.out
            have y2 := (HW.out.cell (p := ⟨w.heap.size + 1, 2, none⟩) (by show w.heap.size + 1 < _; omega)).trans HX2.out
            have k1 : (k : Int) < (am.length : Int) := by omega
            have k2 : (k : Int) < (bm.length : Int) := by omega
            have k0 : (0 : Int) ≤ (k : Int) := by omega
            clear hmB
            by_cases hn : am.getD k [] = bm.getD k []
            · have hq : ((mk (am.getD k [])).toList == (mk (bm.getD k [])).toList) = true := by rw [hn]; simp
              have HA2 := Lib.hid (upto_go HA.out hn)
              clear hn
              generalize am.getD k [] = s1 at d1 hq
              generalize bm.getD k [] = s2 at d2 hq
              go_wp2
              go_quiet (fail)
              go_wp2
              exact ⟨⟨k + 1, by go_num, by omega, below_drewN HW.out _, HA2⟩, by simp [intOf]; omega⟩
            · have hq : ((mk (am.getD k [])).toList == (mk (bm.getD k [])).toList) = false := by rw [mk_toList, mk_toList]; simpa using hn
              have HRF := Lib.hid (HR3.out (lists_ne HE3.out hlt hn))
              clear hn
              generalize am.getD k [] = s1 at d1 hq
              generalize bm.getD k [] = s2 at d2 hq
              go_wp2
              go_quiet (fail)
              go_wp2
              go_ret
              rw [HRF.out]
              exact ⟨rfl, below_drewN HBW.out _⟩
          · have hkn : k = am.length := by omega
            have HRT := Lib.hid (HR4.out (lists_eq HE3.out (by rw [← hkn]; exact HA.out)))
            clear hkn hmB
            go_wp2
            go_ret
            rw [HRT.out]
            exact ⟨rfl, HBW.out⟩
      · have HRF := Lib.hid (R3 (fun h => e3 (by rw [h])))
        have t1 : ((mk an).toList == (mk bn).toList) = true := by rw [e1]; simp
        have t2 : ((mk al).toList == (mk bl).toList) = true := by rw [e2]; simp
        have t3 : ((am.length : Int) != (bm.length : Int)) = true := by simp; omega
        clear R1 R2 R3 R4 e1 e2 e3
        go_enter Tryd.func20, Tryd.ntmps20
        go_wp2
        go_ret
        rw [HRF.out]
        exact ⟨rfl, HB.out⟩
    · have HRF := Lib.hid (R2 e2)
      have t1 : ((mk an).toList == (mk bn).toList) = true := by rw [e1]; simp
      have t2 : ((mk al).toList == (mk bl).toList) = false := by rw [mk_toList, mk_toList]; simpa using e2
      clear R1 R2 R3 R4 e1 e2
      go_enter Tryd.func20, Tryd.ntmps20
      go_wp2
      go_ret
      rw [HRF.out]
      exact ⟨rfl, HB.out⟩
  · have HRF := Lib.hid (R1 e1)
    have t1 : ((mk an).toList == (mk bn).toList) = false := by rw [mk_toList, mk_toList]; simpa using e1
    clear R1 R2 R3 R4 e1
    go_enter Tryd.func20, Tryd.ntmps20
    go_wp2
    go_ret
    rw [HRF.out]
    exact ⟨rfl, HB.out⟩

theorem users_ne {A B : List U} {k : Nat} (h : getL A k ≠ getL B k) : A ≠ B := by rintro rfl; exact h rfl
theorem users_eq {A B : List U} (hl : A.length = B.length) (h : ∀ j, j < A.length → getL A j = getL B j) : A = B := by
  apply List.ext_getElem hl
  intro j h1 h2
  have := h j h1
  rwa [getL_get h1, getL_get h2] at this
theorem uupto_go {A B : List U} {k : Nat} (h : ∀ j, j < k → getL A j = getL B j) (he : getL A k = getL B k) : ∀ j, j < k + 1 → getL A j = getL B j := fun j hj => by
  by_cases e : j = k
  · subst e; exact he
  · exact h j (by omega)

set_option maxRecDepth 100000 in
set_option maxHeartbeats 1600000 in
theorem Same_any (v1 v2 : Value) (A B : List U) (w : World) (h1 : URow w v1 A) (h2 : URow w v2 B) (hl : A.length ≤ 100000) (hm : Memb A 1000000) :
    Calls Tryd.prog 27 #[v1, v2] w fun e w' => e = .returned (.bool (decide (A = B))) ∧ Below w.heap.size w w' := by
  have HU1 := Lib.hid h1
  have HU2 := Lib.hid h2
  have HM := Lib.hid hm
  obtain ⟨p1, cap1, rfl, hc1, hm1, _⟩ := h1
  obtain ⟨p2, cap2, rfl, hc2, hm2, _⟩ := h2
  have hr : ∀ r, r = decide (A = B) → (A ≠ B → r = false) ∧ (A = B → r = true) := by
    rintro _ rfl
    exact ⟨fun h => decide_eq_false h, fun h => decide_eq_true h⟩
  have hR := hr _ rfl
  clear hr hm
  generalize decide (A = B) = r at hR ⊢
  have HRF := Lib.hid hR.1
  have HRT := Lib.hid hR.2
  clear hR
  by_cases hlen : A.length = B.length
  · have t1 : ((A.length : Int) != (B.length : Int)) = false := by simp; omega
    have HL := Lib.hid hlen
    clear hlen
    go_enter Tryd.func27, Tryd.ntmps27
    go_wp2
    go_loopw [13] (fun vi wr => ∃ k : Nat, vi = .int .i64 (k : Int) ∧ k ≤ A.length ∧ Hid (Below w.heap.size w wr) ∧ Hid (∀ j, j < k → getL A j = getL B j)) (fun vi _ => A.length - (intOf vi).toNat)
    case atStart => exact ⟨0, rfl, by omega, Below.refl _ _, fun j hj => by omega⟩
    case round =>
      obtain ⟨k, rfl, hk, HB, HA⟩ := hrel
      have hsz := HB.out.size
      by_cases hlt : k < A.length
      · have hlt2 : k < B.length := by have := HL.out; omega
        obtain ⟨b1, o1, cap', q1, c1, hp1, hb1, hcl1, d0, d1, d2, hqc1, hs1⟩ := HU1.out.at_ HB.out hlt
        obtain ⟨rfl, rfl⟩ : p1 = some ⟨b1, o1, none⟩ ∧ cap1 = cap' := by injection hp1 with h1 h2 h3; exact ⟨h1, h3⟩
        obtain ⟨b2, o2, cap', q2, c2, hp2, hb2, hcl2, e0, e1, e2, hqc2, hs2⟩ := HU2.out.at_ HB.out hlt2
        obtain ⟨rfl, rfl⟩ : p2 = some ⟨b2, o2, none⟩ ∧ cap2 = cap' := by injection hp2 with h1 h2 h3; exact ⟨h1, h3⟩
        have k1 : (k : Int) < (A.length : Int) := by omega
        have k2 : (k : Int) < (B.length : Int) := by omega
        have k0 : (0 : Int) ≤ (k : Int) := by omega
        have SU := Lib.hid (SameUser_any (getL A k) (getL B k) q1 c1 q2 c2 wr.drew ((hs1.below HB.out).below (below_drewN (Below.refl _ _) 1)) ((hs2.below HB.out).below (below_drewN (Below.refl _ _) 1)) (HM.out k))
        have HN := Lib.hid (fun h => HRF.out (users_ne (k := k) h))
        have HG := Lib.hid (fun h => uupto_go (k := k) HA.out h)
        clear hp1 hp2 hs1 hs2
        have hde : ∀ b, b = decide (getL A k = getL B k) → (b = true → getL A k = getL B k) ∧ (b = false → getL A k ≠ getL B k) := by
          rintro _ rfl; exact ⟨fun h => of_decide_eq_true h, fun h => of_decide_eq_false h⟩
        have HDE := Lib.hid (hde _ rfl)
        clear hde
        generalize hdd : decide (getL A k = getL B k) = dd at SU HDE
        clear hdd
        have HT := Lib.hid (fun h => HG.out (HDE.out.1 h))
        have HF := Lib.hid (fun h => HN.out (HDE.out.2 h))
        clear HDE HG HN
        generalize getL A k = ua at d0 d1 d2 hqc1 SU
        generalize getL B k = ub at e0 e1 e2 hqc2 SU
        obtain ⟨an, al, am⟩ := ua
        obtain ⟨bn, bl, bm⟩ := ub
        dsimp only at d0 d1 d2 hqc1 SU e0 e1 e2 hqc2
        go_wp2_with fail
        go_region_held3 (fun W => (W.cell? ⟨b1, o1 + k * 3, none⟩ = some (.string (mk an)) ∧ W.cell? ⟨b1, o1 + k * 3 + 1, none⟩ = some (.string (mk al)) ∧ W.cell? ⟨b1, o1 + k * 3 + 2, none⟩ = some (.slice q1 am.length c1)) ∧ W.cell? ⟨b2, o2 + k * 3, none⟩ = some (.string (mk bn)) ∧ W.cell? ⟨b2, o2 + k * 3 + 1, none⟩ = some (.string (mk bl)) ∧ W.cell? ⟨b2, o2 + k * 3 + 2, none⟩ = some (.slice q2 bm.length c2))
          (first | exact ⟨⟨d0, d1, d2⟩, e0, e1, e2⟩ | exact ⟨⟨y0, y1, y2⟩, z0, z1, z2⟩)
          (first | (go_at_call 20; refine SU.out.mono ?_; rintro e W3 ⟨rfl, hB3⟩; have hlb1 : b1 < wr.heap.size := (by omega); have hlb2 : b2 < wr.heap.size := (by omega); have y0 := (hB3.cell (p := ⟨b1, o1 + k * 3, none⟩) hlb1).trans d0; have y1 := (hB3.cell (p := ⟨b1, o1 + k * 3 + 1, none⟩) hlb1).trans d1; have y2 := (hB3.cell (p := ⟨b1, o1 + k * 3 + 2, none⟩) hlb1).trans d2; have z0 := (hB3.cell (p := ⟨b2, o2 + k * 3, none⟩) hlb2).trans e0; have z1 := (hB3.cell (p := ⟨b2, o2 + k * 3 + 1, none⟩) hlb2).trans e1; have z2 := (hB3.cell (p := ⟨b2, o2 + k * 3 + 2, none⟩) hlb2).trans e2))
        have HB4 := Lib.hid (HB.out.trans (((below_drewN (Below.refl wr.heap.size wr) 1).trans hB3).mono hsz))
        clear hB3 y0 y1 y2 z0 z1 z2
        cases dd with
        | true =>
          have HA2 := Lib.hid (HT.out rfl)
          go_wp2
          exact ⟨⟨k + 1, by go_num, by omega, HB4, HA2⟩, by simp [intOf]; omega⟩
        | false =>
          have HR := Lib.hid (HF.out rfl)
          go_wp2
          go_ret
          rw [HR.out]
          exact ⟨rfl, HB4.out⟩
      · have hkn : k = A.length := by omega
        have HR := Lib.hid (HRT.out (users_eq HL.out (by rw [← hkn]; exact HA.out)))
        clear hkn
        go_wp2
        go_ret
        rw [HR.out]
        exact ⟨rfl, HB.out⟩
  · have HR := Lib.hid (HRF.out (fun h => hlen (by rw [h])))
    have t1 : ((A.length : Int) != (B.length : Int)) = true := by simp; omega
    clear HRF HRT
    go_enter Tryd.func27, Tryd.ntmps27
    go_wp2
    go_ret
    rw [HR.out]
    exact ⟨rfl, Below.refl _ _⟩
end Go.Proofs.YtadnkbhigcegmaaDoor
