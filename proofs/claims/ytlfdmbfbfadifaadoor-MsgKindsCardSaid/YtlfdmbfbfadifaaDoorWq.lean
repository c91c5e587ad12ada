/-
  Walks of package msg: hasOthers, Check.
-/
import Derived.Test.YtlfdmbfbfadifaaDoorWp
namespace Go.Proofs.YtlfdmbfbfadifaaDoor
open Go.RowKit

set_option maxRecDepth 100000 in
set_option maxHeartbeats 3200000 in
theorem hasOthers_any (m : MM) (hm : inM m) (_hk : kindB m.kd = true) (b : Nat) (v : Value) (w : World) (hK : BlkM w b m) (hv : FRow w v (fieldsL m.kd)) (hr : RowM w m) (g : G w) :
    Calls Tryd.prog 41 #[.pointer (some ⟨b, 0, none⟩), v] w fun e w' => e = .returned (.bool (othersB m)) ∧ Below w.heap.size w w' := by
  have hL := Lib.hid (fun f hf W (h : Below w.heap.size w W) => look_any m f hf hm b W (hK.below h hK.lt) (hr.below h) (g.below h))
  have hC := Lib.hid (fun x W (h : Below w.heap.size w W) => Contains_any v (fieldsL m.kd) x W (hv.below h))
  have H1 := Lib.hid (fun k hk h => othersB_yes (m := m) (k := k) hk h)
  have H0 := Lib.hid (fun h => othersB_no (m := m) h)
  have hbf : Hid (∀ k, badF m k = (!(zeroB m k) && !((fieldsL m.kd).contains k))) := fun _ => rfl
  have hgo := Lib.hid (fun k h => bad_step (m := m) (k := k) h)
  generalize othersB m = res at *
  clear hm _hk hK hv hr g
  go_enter Tryd.func41, Tryd.ntmps41
  go_wp2
  go_loopw [8] (fun vk wr => ∃ k : Nat, vk = .int .i64 (k : Int) ∧ k ≤ 23 ∧ Hid (Below w.heap.size w wr) ∧ Hid (∀ j, j < k → badF m j = false)) (fun vk _ => 23 - (intOf vk).toNat)
  case atStart => exact ⟨0, rfl, by omega, Below.refl _ _, fun j hj => by omega⟩
  case round =>
    obtain ⟨k, rfl, hk23, HB, ha⟩ := hrel
    by_cases hlt : k < 23
    · have hl := Lib.hid (hL.out k hlt wr HB.out)
      have hbad : Hid (badF m k = (!(zeroB m k) && !((fieldsL m.kd).contains k))) := hbf.out k
      have HA := Lib.hid (fun h => hgo.out k ha.out h)
      have HE := Lib.hid (fun h => H1.out k hlt h)
      have hc := Lib.hid (fun W h => hC.out k W h)
      generalize badF m k = bb at *
      generalize zeroB m k = zb at *
      generalize faultP m k = fz at *
      generalize (fieldsL m.kd).contains k = cb at *
      go_wp2_with fail
      refine hl.out.mono ?_
      rintro e w1 ⟨rfl, hB1⟩
      have HB1 := Lib.hid (HB.out.trans (hB1.mono HB.out.size))
      clear hB1 hl
      cases zb
      · replace hc := Lib.hid (hc.out w1 HB1.out)
        cases cb
        · have hr := Lib.hid (HE.out hbad.out)
          clear HA HE hbad
          go_wp2_with fail
          refine hc.out.mono ?_
          rintro e w2 ⟨rfl, rfl⟩
          go_wp2
          go_ret
          rw [hr.out]
          exact ⟨rfl, HB1.out⟩
        · have hA := Lib.hid (HA.out hbad.out)
          clear HA HE hbad
          go_wp2_with fail
          refine hc.out.mono ?_
          rintro e w2 ⟨rfl, rfl⟩
          go_wp2
          exact ⟨⟨k + 1, by go_num, by omega, HB1, hA⟩, by simp [intOf]; omega⟩
      · have hA := Lib.hid (HA.out (by rw [hbad.out]; rfl))
        clear HA HE hbad hc
        go_wp2
        exact ⟨⟨k + 1, by go_num, by omega, HB1, hA⟩, by simp [intOf]; omega⟩
    · obtain rfl : k = 23 := by omega
      have hr := Lib.hid (H0.out ha.out)
      clear ha H0 H1
      go_wp2
      go_ret
      rw [hr.out]
      exact ⟨rfl, HB.out⟩

theorem checkM_oth {m : MM} (h : kindB m.kd = true) (ht : tagB m.kd m.tg = true) (hb : othersB m = true) : checkM m = 2 := by
  unfold checkM; rw [if_neg (by rw [h]; decide), if_neg (by rw [ht]; decide), if_pos hb]
theorem checkM_fst {m : MM} (h : kindB m.kd = true) (ht : tagB m.kd m.tg = true) (hb : othersB m = false) : checkM m = firstE (faultP m) (fieldsL m.kd) := by
  unfold checkM; rw [if_neg (by rw [h]; decide), if_neg (by rw [ht]; decide), if_neg (by rw [hb]; decide)]
set_option maxRecDepth 100000 in
set_option maxHeartbeats 6400000 in
theorem CheckM_any (m : MM) (hm : inM m) (w : World) (hr : RowM w m) (g : G w) :
    Calls Tryd.prog 21 #[msgV m] w fun e w' => e = .returned (.int .i64 (checkM m)) ∧ Below w.heap.size w w' := by
  have hB0 : Below w.heap.size w (w.alloc (.cells (cellsB m) 35)) := (Below.refl _ w).alloc (Nat.le_refl _) _
  have hK0 := BlkM.new w m
  have hN := Lib.hid (fun W => isKind_any m.kd W)
  have hT := Lib.hid (fun W => isTag_any m.kd m.tg W)
  have hF := Lib.hid (fun hk W => fieldsOf_any m.kd hk W)
  have hO := Lib.hid (fun hk v W hK hv hr g => hasOthers_any m hm hk w.heap.size v W hK hv hr g)
  have hL := Lib.hid (fun f hf W hK hr g => look_any m f hf hm w.heap.size W hK hr g)
  have H1 := Lib.hid (fun h => checkM_form (m := m) h)
  have H2 := Lib.hid (fun h ht => checkM_tag (m := m) h ht)
  have H3 := Lib.hid (fun h ht hb => checkM_oth (m := m) h ht hb)
  have H4 := Lib.hid (fun h ht hb => checkM_fst (m := m) h ht hb)
  generalize checkM m = res at *
  have HR := Lib.hid hr
  have HG := Lib.hid g
  have HB0 := Lib.hid hB0
  have HK0 := Lib.hid hK0
  have hcell : Hid (∀ W, BlkM W w.heap.size m → W.cell? ⟨w.heap.size, 0, none⟩ = some (.int .i64 m.kd) ∧ W.cell? ⟨w.heap.size, 1, none⟩ = some (.int .i64 m.tg)) := fun W h => ⟨h.cell 0, h.cell 1⟩
  have x0 : (cellsB m)[0]? = some (.int .i64 m.kd) := rfl
  have x1 : (cellsB m)[1]? = some (.int .i64 m.tg) := rfl
  clear hB0 hK0 hr hm g
  unfold msgV
  cases hk : kindB m.kd
  · have hr := Lib.hid (H1.out hk)
    rw [hk] at hN
    clear hk
    go_enter Tryd.func21, Tryd.ntmps21
    go_wp2_with fail
    refine (hN.out _).mono ?_
    rintro e w1 ⟨rfl, rfl⟩
    go_wp2
    go_ret
    rw [hr.out]
    exact ⟨rfl, HB0.out⟩
  rw [hk] at hN
  replace hk := Lib.hid hk
  cases ht : tagB m.kd m.tg
  · have hr := Lib.hid (H2.out hk.out ht)
    rw [ht] at hT
    clear ht
    go_enter Tryd.func21, Tryd.ntmps21
    go_wp2_with fail
    refine (hN.out _).mono ?_
    rintro e w1 ⟨rfl, rfl⟩
    go_wp2_with fail
    refine (hT.out _).mono ?_
    rintro e w1 ⟨rfl, rfl⟩
    go_wp2
    go_ret
    rw [hr.out]
    exact ⟨rfl, HB0.out⟩
  rw [ht] at hT
  replace ht := Lib.hid ht
  go_enter Tryd.func21, Tryd.ntmps21
  go_wp2_with fail
  refine (hN.out _).mono ?_
  rintro e w1 ⟨rfl, rfl⟩
  go_wp2_with fail
  refine (hT.out _).mono ?_
  rintro e w1 ⟨rfl, rfl⟩
  go_wp2_with fail
  refine (hF.out hk.out _).mono ?_
  rintro e w1 ⟨v, rfl, hv, hB1⟩
  have HB1 := Lib.hid (HB0.out.trans (hB1.mono HB0.out.size))
  have HK1 := Lib.hid (HK0.out.below hB1 HK0.out.lt)
  have HV := Lib.hid hv
  clear hB1 hv x0 x1
  replace hO := Lib.hid (hO.out hk.out v w1 HK1.out HV.out (HR.out.below HB1.out) (HG.out.below HB1.out))
  go_wp2_with fail
  refine hO.out.mono ?_
  rintro e w2 ⟨rfl, hB2⟩
  have HB2 := Lib.hid (HB1.out.trans (hB2.mono HB1.out.size))
  have HK2 := Lib.hid (HK1.out.below hB2 HK1.out.lt)
  have HV2 := Lib.hid (HV.out.below hB2)
  clear hB2 HV
  cases ho : othersB m
  · have H5 := Lib.hid (H4.out hk.out ht.out ho)
    have hF0 := Lib.hid (firstE_none (g := faultP m) (L := fieldsL m.kd))
    have hF1 := Lib.hid (fun k hk h he => firstE_hit (g := faultP m) (L := fieldsL m.kd) (k := k) hk h he)
    rw [← H5.out] at hF0 hF1
    clear H5 ho H1 H2 H3 H4 hO
    have hlt := Lib.hid (fun j hj => getD_lt hk.out (j := j) hj)
    obtain ⟨p, hvv, hl4, _⟩ := id HV2.out
    subst hvv
    go_wp2
    go_loopw [25] (fun vk wr => ∃ k : Nat, vk = .int .i64 (k : Int) ∧ k ≤ (fieldsL m.kd).length ∧ Hid (Below w2.heap.size w2 wr) ∧ Hid (∀ j, j < k → faultP m ((fieldsL m.kd).getD j 0) = 0)) (fun vk _ => (fieldsL m.kd).length - (intOf vk).toNat)
    case atStart => exact ⟨0, rfl, by omega, Below.refl _ _, fun j hj => by omega⟩
    case round =>
      obtain ⟨k, rfl, hkl, HB, ha⟩ := hrel
      by_cases hkk : k < (fieldsL m.kd).length
      · obtain ⟨b, hp, hb, hc⟩ := HV2.out.at_ HB.out hkk
        obtain rfl : p = some ⟨b, 0, none⟩ := by injection hp with h1 h2 h3
        clear hp
        have HBw := HB2.out.trans (HB.out.mono HB2.out.size)
        have hq := hL.out _ (hlt.out k hkk) wr (HK2.out.below HB.out HK2.out.lt) (HR.out.below HBw) (HG.out.below HBw)
        replace HBw := Lib.hid HBw
        have hE := Lib.hid (fun h => hF1.out k hkk ha.out h)
        have hA := Lib.hid (fun h => fault_step ha.out (k := k) h)
        generalize (fieldsL m.kd).getD k 0 = f at *
        generalize faultP m f = z at *
        generalize zeroB m f = y at *
        replace hq := Lib.hid hq
        go_wp2_with fail
        refine hq.out.mono ?_
        rintro e w3 ⟨rfl, hB3⟩
        have HB3 := Lib.hid (HB.out.trans (hB3.mono HB.out.size))
        have HB4 := Lib.hid (HBw.out.trans (hB3.mono HBw.out.size))
        clear hB3
        by_cases hz0 : z = 0
        · have hA' := Lib.hid (hA.out hz0)
          subst hz0
          clear hA hE
          go_wp2
          exact ⟨⟨k + 1, by go_num, by omega, HB3, hA'⟩, by simp [intOf]; omega⟩
        · have hr := Lib.hid (hE.out hz0)
          have hz1 : (z != 0) = true := by simpa using hz0
          clear hA hE hz0
          go_wp2
          go_ret
          rw [hr.out]
          exact ⟨rfl, HB4.out⟩
      · obtain rfl : k = (fieldsL m.kd).length := by omega
        have hr := Lib.hid (hF0.out ha.out)
        clear ha hkk hF0 hF1
        go_wp2
        go_ret
        rw [hr.out]
        exact ⟨rfl, HB2.out.trans (HB.out.mono HB2.out.size)⟩
  · have hr := Lib.hid (H3.out hk.out ht.out ho)
    clear ho
    go_wp2
    go_ret
    rw [hr.out]
    exact ⟨rfl, HB2.out⟩
end Go.Proofs.YtlfdmbfbfadifaaDoor
