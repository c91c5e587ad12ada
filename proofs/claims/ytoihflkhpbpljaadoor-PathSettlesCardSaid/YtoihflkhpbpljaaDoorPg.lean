/-
  The reference's Split.
-/
import Derived.Test.YtoihflkhpbpljaaDoorPf
namespace Go.Proofs.YtoihflkhpbpljaaDoor
open Go.RowKit

set_option maxRecDepth 100000 in
set_option maxHeartbeats 6400000 in
theorem RSplit_any (s : ByteArray) (hs : s.size ≤ 100000) (w : World) :
    Calls Tryd.prog 17 #[.string s] w fun e w' => ∃ v, e = .returned (.tuple #[v, .int .i64 (splitR s.data.toList).2]) ∧ SRow w' v (splitR s.data.toList).1 ∧ Below w.heap.size w w' := by
  obtain ⟨i0, hi, hz0, hz1, hz2⟩ := info_parts info_str
  have hsz : s.data.toList.length = s.size := by rw [Lib.size_eq]
  have HSZ := Lib.hid hsz
  have H0 := Lib.hid (Parts_any s hs w)
  have HRt := fun W => Rooted_any s hs W
  by_cases hbig : 1024 < s.size
  · have hr := splitR_long (l := s.data.toList) (by omega)
    rw [hr]
    clear hsz hr H0 HRt
    go_enter Tryd.func17, Tryd.ntmps17
    go_wp2
    go_ret2
    exact ⟨_, rfl, SRow.nil_ _, Below.refl _ _⟩
  have hr0 : ∀ k (h : k < (pieces s.data.toList).length), okPart (pieces s.data.toList)[k] = false → splitR s.data.toList = ([], 6) := fun k h hk => splitR_bad (by omega) h hk
  have hr1 := splitR_end (l := s.data.toList) (by omega)
  have hpl := pieces_len s.data.toList
  have hpe : ∀ x ∈ pieces s.data.toList, x.length ≤ 1024 := fun x hx => by have := piece_len hx; omega
  have hne := pieces_ne s.data.toList
  rw [hsz] at hpl
  generalize rootedL s.data.toList = r at HRt hr1
  generalize pieces s.data.toList = ps at hr0 hr1 hpl hpe H0 hne
  generalize splitR s.data.toList = res at hr0 hr1 ⊢
  have HR0 := Lib.hid hr0
  have HR1 := Lib.hid hr1
  have HPE := Lib.hid hpe
  have HRT := Lib.hid HRt
  have HNE := Lib.hid hne
  clear hsz hr0 hr1 hpe HRt hne
  go_enter Tryd.func17, Tryd.ntmps17
  go_wp2_with fail
  refine H0.out.mono ?_
  rintro e w1 ⟨vp, rfl, hown1, hB1⟩
  obtain ⟨gp, capp, rfl, hgb, hcp, hcm, hcell⟩ := own_form hown1 HNE.out
  have hgp : gp < w1.heap.size := (hown1.lt gp rfl).2
  have HC := Lib.hid hcell
  have HB1 := Lib.hid hB1
  have hsz1 := hB1.size
  clear hcell hB1 H0 hown1
  go_wp2_with fail
  go_loop [5] (fun vi => ∃ (k : Nat), vi = .int .i64 (k : Int) ∧ k ≤ ps.length ∧ Hid ((ps.take k).all okPart = true)) (fun vi => ps.length - (intOf vi).toNat)
  case atStart => exact ⟨0, rfl, by omega, by simp [Hid]⟩
  case round =>
    obtain ⟨k, rfl, hk, hall⟩ := hrel
    by_cases hkn : k < ps.length
    · have hck := HC.out k hkn
      have hok := fun h => all_take hkn hall.out h
      have hbad := HR0.out k hkn
      have hxl := HPE.out _ (List.getElem_mem hkn)
      have hms := mk_size ps[k]
      generalize ps[k] = x at *
      rw [show sv x = .string (mk x) from rfl] at hck
      have hx100 : (mk x).size ≤ 100000 := by omega
      have HT := Lib.hid (mk_toList x)
      have HV := RValid_any (mk x) hx100
      rw [mk_data] at HV
      clear hms hxl
      rcases part_cases x with hx | hx | ⟨hx, hv⟩ | ⟨hx, hv⟩
      · have HA := Lib.hid (hok (okPart_skip hx))
        clear hok hbad HV
        rcases hx with hx | hx
        · have h1 : (mk x).toList = [] := by rw [HT.out, hx]
          clear hx
          go_wp2_with fail
          exact ⟨⟨k + 1, by go_num, by omega, HA⟩, by simp [intOf]; omega⟩
        · have h1 : (mk x).toList ≠ [] := by rw [HT.out, hx]; simp
          have h0 : (mk x).toList.isEmpty = false := by rw [HT.out, hx]; rfl
          have h2 : ((mk x).toList == [46]) = true := by rw [HT.out, hx]; decide
          clear hx
          go_wp2_with fail
          exact ⟨⟨k + 1, by go_num, by omega, HA⟩, by simp [intOf]; omega⟩
      · have h1 : (mk x).toList ≠ [] := by rw [HT.out, hx]; simp
        have h0 : (mk x).toList.isEmpty = false := by rw [HT.out, hx]; rfl
        have h2 : ((mk x).toList == [46]) = false := by rw [HT.out, hx]; decide
        have h3 : ((mk x).toList == [46, 46]) = true := by rw [HT.out, hx]; decide
        have HA := Lib.hid (hok (by rw [hx]; decide))
        clear hok hbad HV hx
        go_wp2_with fail
        exact ⟨⟨k + 1, by go_num, by omega, HA⟩, by simp [intOf]; omega⟩
      · have h1 : (mk x).toList ≠ [] := by rw [HT.out]; exact hx.1
        have h0 : (mk x).toList.isEmpty = false := by rw [HT.out]; simpa using hx.1
        have h2 : ((mk x).toList == [46]) = false := by rw [HT.out]; simpa using hx.2.1
        have h3 : ((mk x).toList == [46, 46]) = false := by rw [HT.out]; simpa using hx.2.2
        have HA := Lib.hid (hok (okPart_valid hv))
        rw [hv] at HV
        have HVa := Lib.hid (HV w1)
        clear hok hbad HV hx hv
        go_wp2_with fail
        refine HVa.out.mono ?_
        rintro e w' ⟨rfl, rfl⟩
        go_wp2_with fail
        exact ⟨⟨k + 1, by go_num, by omega, HA⟩, by simp [intOf]; omega⟩
      · have h1 : (mk x).toList ≠ [] := by rw [HT.out]; exact hx.1
        have h0 : (mk x).toList.isEmpty = false := by rw [HT.out]; simpa using hx.1
        have h2 : ((mk x).toList == [46]) = false := by rw [HT.out]; simpa using hx.2.1
        have h3 : ((mk x).toList == [46, 46]) = false := by rw [HT.out]; simpa using hx.2.2
        have HRES := Lib.hid (hbad (okPart_bad hx hv))
        rw [hv] at HV
        have HVa := Lib.hid (HV w1)
        clear hok hbad HV hx hv
        go_wp2_with fail
        refine HVa.out.mono ?_
        rintro e w' ⟨rfl, rfl⟩
        go_wp2_with fail
        go_ret2
        rw [HRES.out]
        exact ⟨_, rfl, SRow.nil_ _, HB1.out⟩
    have hkl : k = ps.length := by omega
    have ha := hall.out
    rw [hkl, List.take_length] at ha
    have HRES := Lib.hid (HR1.out ha)
    clear ha hall hkl
    go_wp2_with fail
    go_loopw [6, 7] (fun ve vi wr => ∃ (k : Nat), vi = .int .i64 (k : Int) ∧ k ≤ ps.length ∧ Hid (wr.ownsRow w1.heap.size 9 1 ve (elemsFrom r [] (ps.take k)).length ((elemsFrom r [] (ps.take k)).map sv)) ∧ Hid (Below w1.heap.size w1 wr))
      (fun _ vi _ => ps.length - (intOf vi).toNat)
    case atStart => exact ⟨0, rfl, by omega, World.ownsRow_nil _ _ _ _, Below.refl _ _⟩
    case round =>
      obtain ⟨k, rfl, hk, hown, hB⟩ := hrel
      have hbs := hB.out.size
      by_cases hkn : k < ps.length
      · have hck : wr.cell? ⟨gp, k, none⟩ = some (sv ps[k]) := by
          rw [hB.out.cell (p := ⟨gp, k, none⟩) hgp]; exact HC.out k hkn
        have hst := elems_take r ps k hkn
        generalize ps[k] = x at *
        have hal := elems_len r (ps.take k) []
        have hal2 : (elemsFrom r [] (ps.take k)).length ≤ 2000 := by rw [List.length_take] at hal; simp only [List.length_nil] at hal; omega
        generalize elemsFrom r [] (ps.take k) = acc at hown hst hal2
        rw [show sv x = .string (mk x) from rfl] at hck
        have HT := Lib.hid (mk_toList x)
        clear hal
        have hform : ∃ p c, u6 = .slice p acc.length c := by
          obtain ⟨p, c, h, _⟩ := SRow.of_own hown.out
          exact ⟨p, c, h⟩
        by_cases hx : x = [] ∨ x = [46]
        · rw [stepL_skip hx] at hst
          have HST := Lib.hid hst
          obtain ⟨p, c, rfl⟩ := hform
          clear hst
          rcases hx with hx | hx
          · have h1 : (mk x).toList = [] := by rw [HT.out, hx]
            clear hx
            go_wp2_with fail
            exact ⟨⟨k + 1, by go_num, by omega, by rw [HST.out]; exact hown, hB⟩, by simp [intOf]; omega⟩
          · have h1 : (mk x).toList ≠ [] := by rw [HT.out, hx]; simp
            have h2 : ((mk x).toList == [46]) = true := by rw [HT.out, hx]; decide
            clear hx
            go_wp2_with fail
            exact ⟨⟨k + 1, by go_num, by omega, by rw [HST.out]; exact hown, hB⟩, by simp [intOf]; omega⟩
        simp only [not_or] at hx
        have h1 : (mk x).toList ≠ [] := by rw [HT.out]; exact hx.1
        have h0 : (mk x).toList.isEmpty = false := by rw [HT.out]; simpa using hx.1
        have h2 : ((mk x).toList == [46]) = false := by rw [HT.out]; simpa using hx.2
        by_cases hup : x = [46, 46]
        · have h3 : ((mk x).toList == [46, 46]) = true := by rw [HT.out, hup]; decide
          rw [hup, stepL_up] at hst
          have HRt := Lib.hid (HRT.out wr)
          have HUP := Lib.hid hup
          clear hx hup
          by_cases ha0 : acc = []
          · rw [if_neg (by simp [ha0])] at hst
            subst ha0
            obtain ⟨p, c, rfl⟩ := hform
            cases r with
            | true =>
              rw [if_pos rfl] at hst
              have HST := Lib.hid hst
              clear hst
              go_wp2_with fail
              refine HRt.out.mono ?_
              rintro e w' ⟨rfl, rfl⟩
              go_wp2_with fail
              exact ⟨⟨k + 1, by go_num, by omega, by rw [HST.out]; exact hown, hB⟩, by simp [intOf]; omega⟩
            | false =>
              rw [if_neg (by simp), ← HUP.out] at hst
              have HST := Lib.hid hst
              clear hst
              go_wp2_with fail
              refine HRt.out.mono ?_
              rintro e w' ⟨rfl, rfl⟩
              go_wp2_with (at_builtin; refine wpList_append_own _ rfl (.tmp 55) (.tmp 60) 27 rfl w1.heap.size 9 i0 (.string ⟨#[]⟩) 1 16 Tryd.underlying27 hi hz0 hz1 hz2 rfl (by decide) _ _ _ rfl (hown.out.alloc _) ⟨wr.heap.size, 0, none⟩ 1 1 [sv x] rfl rfl (cell_one_new _ _ _) (by intro u hu; simp at hu; subst hu; rfl) (by unfold maxLen; omega) (by omega) (by simp; omega) ?_; intro v' w2 hown' hgrow _)
              have HB2 := Lib.hid (hB.out.trans (below_grown _ hbs hown.out hgrow))
              have HO2 := Lib.hid hown'
              clear hown' hgrow
              go_wp2_with fail
              refine ⟨⟨k + 1, by go_num, by omega, ?_, HB2⟩, by simp [intOf]; omega⟩
              have e := HO2.out
              rw [HST.out]
              exact Lib.hid (by simpa using e)
          · obtain ⟨d, y, rfl⟩ : ∃ d y, acc = d ++ [y] := ⟨acc.dropLast, acc.getLast ha0, (List.dropLast_concat_getLast ha0).symm⟩
            obtain ⟨g, cap, rfl, hg, hc, hcm2, hcell⟩ := own_form hown.out ha0
            clear ha0 hform
            have hlast := hcell d.length (by simp)
            rw [List.getElem_append_right (by simp)] at hlast
            simp only [Nat.sub_self, List.getElem_singleton] at hlast
            rw [show sv y = .string (mk y) from rfl] at hlast
            have hcut := own_cut d.length (by simp) hown.out
            rw [List.take_left] at hcut
            have hlen : (d ++ [y]).length = d.length + 1 := by simp
            have HCut := Lib.hid hcut
            rw [hlen] at hc hown hal2
            have ht := mk_toList y
            clear hcell hcut hlen
            by_cases hy : y = [46, 46]
            · have h4 : ((mk y).toList == [46, 46]) = true := by rw [ht, hy]; decide
              rw [if_neg (by simp [hy])] at hst
              clear ht hy
              cases r with
              | true =>
                rw [if_pos rfl] at hst
                have HST := Lib.hid hst
                clear hst
                go_wp2_with fail
                refine HRt.out.mono ?_
                rintro e w' ⟨rfl, rfl⟩
                go_wp2_with fail
                exact ⟨⟨k + 1, by go_num, by omega, by rw [HST.out]; exact Lib.hid (by simpa using hown.out), hB⟩, by simp [intOf]; omega⟩
              | false =>
                rw [if_neg (by simp), ← HUP.out] at hst
                have HST := Lib.hid hst
                clear hst
                go_wp2_with fail
                refine HRt.out.mono ?_
                rintro e w' ⟨rfl, rfl⟩
                go_wp2_with (at_builtin; refine wpList_append_own _ rfl (.tmp 55) (.tmp 60) 27 rfl w1.heap.size 9 i0 (.string ⟨#[]⟩) 1 16 Tryd.underlying27 hi hz0 hz1 hz2 rfl (by decide) _ _ _ rfl (hown.out.alloc _) ⟨wr.heap.size, 0, none⟩ 1 1 [sv x] rfl rfl (cell_one_new _ _ _) (by intro u hu; simp at hu; subst hu; rfl) (by unfold maxLen; omega) (by omega) (by simp; omega) ?_; intro v' w2 hown' hgrow _)
                have HB2 := Lib.hid (hB.out.trans (below_grown _ hbs hown.out hgrow))
                have HO2 := Lib.hid hown'
                clear hown' hgrow
                go_wp2_with fail
                refine ⟨⟨k + 1, by go_num, by omega, ?_, HB2⟩, by simp [intOf]; omega⟩
                have e := HO2.out
                rw [HST.out]
                exact Lib.hid (by simpa using e)
            · have h4 : ((mk y).toList == [46, 46]) = false := by rw [ht]; simpa using hy
              rw [if_pos (by simp [hy])] at hst
              rw [show (d ++ [y]).dropLast = d by simp] at hst
              have HST := Lib.hid hst
              clear ht hy hst
              go_wp2_with fail
              exact ⟨⟨k + 1, by go_num, by omega, by rw [HST.out]; exact HCut, hB⟩, by simp [intOf]; omega⟩
        · have h3 : ((mk x).toList == [46, 46]) = false := by rw [HT.out]; simpa using hup
          rw [stepL_name ⟨hx.1, hx.2, hup⟩] at hst
          have HST := Lib.hid hst
          obtain ⟨p, c, rfl⟩ := hform
          clear hst hx hup
          go_wp2_with (at_builtin; refine wpList_append_own _ rfl (.tmp 55) (.tmp 60) 27 rfl w1.heap.size 9 i0 (.string ⟨#[]⟩) 1 16 Tryd.underlying27 hi hz0 hz1 hz2 rfl (by decide) _ _ _ rfl (hown.out.alloc _) ⟨wr.heap.size, 0, none⟩ 1 1 [sv x] rfl rfl (cell_one_new _ _ _) (by intro u hu; simp at hu; subst hu; rfl) (by unfold maxLen; omega) (by omega) (by simp; omega) ?_; intro v' w2 hown' hgrow _)
          have HB2 := Lib.hid (hB.out.trans (below_grown _ hbs hown.out hgrow))
          have HO2 := Lib.hid hown'
          clear hown' hgrow
          go_wp2_with fail
          refine ⟨⟨k + 1, by go_num, by omega, ?_, HB2⟩, by simp [intOf]; omega⟩
          have e := HO2.out
          rw [HST.out]
          exact Lib.hid (by simpa using e)
      · have hkl : k = ps.length := by omega
        have ho := hown.out
        rw [hkl, List.take_length] at ho
        have hel := elems_len r ps []
        have hel2 : (elemsFrom r [] ps).length ≤ 2000 := by simp only [List.length_nil] at hel; omega
        have hform : ∃ p c, u6 = .slice p (elemsFrom r [] ps).length c := by
          obtain ⟨p, c, h, _⟩ := SRow.of_own ho
          exact ⟨p, c, h⟩
        have hr := HRES.out
        generalize elemsFrom r [] ps = es at hr ho hel2 hform
        obtain ⟨p, c, rfl⟩ := hform
        have HO := Lib.hid ho
        clear ho hel hown HRES
        by_cases hlong : 32 < es.length
        · rw [if_pos hlong] at hr
          have HRES := Lib.hid hr
          clear hr
          go_wp2_with fail
          go_ret2
          rw [HRES.out]
          exact ⟨_, rfl, SRow.nil_ _, HB1.out.trans (hB.out.mono (by omega))⟩
        · rw [if_neg hlong] at hr
          have HRES := Lib.hid hr
          clear hr
          go_wp2_with fail
          go_ret2
          rw [HRES.out]
          exact ⟨_, rfl, SRow.of_own HO.out, HB1.out.trans (hB.out.mono (by omega))⟩
end Go.Proofs.YtoihflkhpbpljaaDoor
