/-
  package path's Split.
-/
import Derived.Test.YtoihflkhpbpljaaDoorPe
namespace Go.Proofs.YtoihflkhpbpljaaDoor
open Go.RowKit

theorem splitR_long {l : List UInt8} (h : 1024 < l.length) : splitR l = ([], 4) := by rw [splitR, if_pos h]
theorem all_take {ps : List (List UInt8)} {k : Nat} (h : k < ps.length) (ha : (ps.take k).all okPart = true) (hk : okPart ps[k] = true) : (ps.take (k + 1)).all okPart = true := by
  rw [List.take_succ_eq_append_getElem h, List.all_append, ha]; simp [hk]
theorem splitR_bad {l : List UInt8} {k : Nat} (h1 : l.length ≤ 1024) (h : k < (pieces l).length) (hk : okPart (pieces l)[k] = false) : splitR l = ([], 6) := by
  rw [splitR, if_neg (by omega), if_pos]
  rw [List.all_eq_false]
  exact ⟨_, List.getElem_mem h, by simp [hk]⟩
theorem splitR_end {l : List UInt8} (h1 : l.length ≤ 1024) (ha : (pieces l).all okPart = true) : splitR l = if 32 < (elemsFrom (rootedL l) [] (pieces l)).length then ([], 4) else (elemsFrom (rootedL l) [] (pieces l), 0) := by
  rw [splitR, if_neg (by omega), if_neg (by simp [ha])]
/-- The four kinds of a part. -/
theorem part_cases (x : List UInt8) : (x = [] ∨ x = [46]) ∨ (x = [46, 46]) ∨ ((x ≠ [] ∧ x ≠ [46] ∧ x ≠ [46, 46]) ∧ validL x = true) ∨ ((x ≠ [] ∧ x ≠ [46] ∧ x ≠ [46, 46]) ∧ validL x = false) := by
  by_cases h1 : x = []
  · exact .inl (.inl h1)
  by_cases h2 : x = [46]
  · exact .inl (.inr h2)
  by_cases h3 : x = [46, 46]
  · exact .inr (.inl h3)
  cases hv : validL x
  · exact .inr (.inr (.inr ⟨⟨h1, h2, h3⟩, rfl⟩))
  · exact .inr (.inr (.inl ⟨⟨h1, h2, h3⟩, rfl⟩))
theorem stepL_skip {r : Bool} {acc : List (List UInt8)} {x : List UInt8} (h : x = [] ∨ x = [46]) : stepL r acc x = acc := by rw [stepL, if_pos h]
theorem stepL_name {r : Bool} {acc : List (List UInt8)} {x : List UInt8} (h : x ≠ [] ∧ x ≠ [46] ∧ x ≠ [46, 46]) : stepL r acc x = acc ++ [x] := by
  rw [stepL, if_neg (fun e => e.elim h.1 h.2.1), if_neg h.2.2]
theorem okPart_skip {x : List UInt8} (h : x = [] ∨ x = [46]) : okPart x = true := by
  unfold okPart; rcases h with rfl | rfl <;> simp
theorem okPart_valid {x : List UInt8} (h : validL x = true) : okPart x = true := by unfold okPart; rw [h]; simp
theorem okPart_bad {x : List UInt8} (h : x ≠ [] ∧ x ≠ [46] ∧ x ≠ [46, 46]) (hv : validL x = false) : okPart x = false := by
  unfold okPart; rw [hv]; simp [h]
theorem piece_len {l x : List UInt8} (h : x ∈ pieces l) : x.length ≤ l.length := by
  have hs := sumL_pieces l
  generalize pieces l = ps at h hs
  have : x.length + 1 ≤ sumL ps := by
    clear hs
    induction ps with
    | nil => simp at h
    | cons y r ih =>
      rw [sumL_cons]
      rcases List.mem_cons.1 h with rfl | h
      · omega
      · have := ih h; omega
  omega

set_option maxRecDepth 100000 in
set_option maxHeartbeats 3200000 in
theorem Split_any (s : ByteArray) (hs : s.size ≤ 100000) (w : World) (g : G w) :
    Calls Tryd.prog 16 #[.string s] w fun e w' => ∃ v, e = .returned (.tuple #[v, .int .i64 (splitR s.data.toList).2]) ∧ SRow w' v (splitR s.data.toList).1 ∧ Below w.heap.size w w' := by
  obtain ⟨i0, hi, hz0, hz1, hz2⟩ := info_parts info_str
  have hsz : s.data.toList.length = s.size := by rw [Lib.size_eq]
  have HSZ := Lib.hid hsz
  have H0 := Lib.hid (Split_lib s hs w g)
  have HRt := fun W => isRooted_any s W
  by_cases hbig : 1024 < s.size
  · have hr := splitR_long (l := s.data.toList) (by omega)
    rw [hr]
    clear hsz hr H0 HRt
    go_enter Tryd.func16, Tryd.ntmps16
    go_wp2
    go_ret2
    exact ⟨_, rfl, SRow.nil_ _, Below.refl _ _⟩
  have hr0 : ∀ k (h : k < (pieces s.data.toList).length), okPart (pieces s.data.toList)[k] = false → splitR s.data.toList = ([], 6) := fun k h hk => splitR_bad (by omega) h hk
  have hr1 := splitR_end (l := s.data.toList) (by omega)
  have hpl := pieces_len s.data.toList
  have hpe : ∀ x ∈ pieces s.data.toList, x.length ≤ 1024 := fun x hx => by have := piece_len hx; omega
  rw [hsz] at hpl
  generalize rootedL s.data.toList = r at HRt hr1
  generalize pieces s.data.toList = ps at hr0 hr1 hpl hpe H0
  generalize splitR s.data.toList = res at hr0 hr1 ⊢
  have HR0 := Lib.hid hr0
  have HR1 := Lib.hid hr1
  have HPE := Lib.hid hpe
  have HRT := Lib.hid HRt
  clear hsz hr0 hr1 hpe HRt g
  go_enter Tryd.func16, Tryd.ntmps16
  go_wp2_with fail
  refine H0.out.mono ?_
  rintro e w1 ⟨rfl, hz, hB1, hcell⟩
  have HC := Lib.hid hcell
  have HB1 := Lib.hid hB1
  have HZ := Lib.hid hz
  clear hcell hB1 hz H0
  go_wp2_with fail
  go_loopw [4, 13] (fun ve vi wr => ∃ (k : Nat), vi = .int .i64 (k : Int) ∧ k ≤ ps.length ∧ Hid (wr.ownsRow (w.heap.size + 1) 9 1 ve (elemsFrom r [] (ps.take k)).length ((elemsFrom r [] (ps.take k)).map sv)) ∧ Hid (Below (w.heap.size + 1) w1 wr) ∧ Hid ((ps.take k).all okPart = true))
    (fun _ vi _ => ps.length - (intOf vi).toNat)
  case atStart => exact ⟨0, rfl, by omega, World.ownsRow_nil _ _ _ _, Below.refl _ _, by simp [Hid]⟩
  case round =>
    obtain ⟨k, rfl, hk, hown, hB, hall⟩ := hrel
    have hbs := hB.out.size
    have hw1 := HZ.out
    have hbase : w.heap.size + 1 ≤ wr.heap.size := by omega
    clear hw1
    by_cases hkn : k < ps.length
    · have hck : wr.cell? ⟨w.heap.size, k, none⟩ = some (sv ps[k]) := by
        rw [hB.out.cell (p := ⟨w.heap.size, k, none⟩) (by show w.heap.size < w.heap.size + 1; omega)]; exact HC.out k hkn
      have hst := elems_take r ps k hkn
      have hok := fun h => all_take hkn hall.out h
      have hbad := HR0.out k hkn
      have hxl := HPE.out _ (List.getElem_mem hkn)
      have hms := mk_size ps[k]
      generalize ps[k] = x at *
      have hal := elems_len r (ps.take k) []
      have hal2 : (elemsFrom r [] (ps.take k)).length ≤ 2000 := by rw [List.length_take] at hal; simp only [List.length_nil] at hal; omega
      generalize elemsFrom r [] (ps.take k) = acc at hown hst hal2
      rw [show sv x = .string (mk x) from rfl] at hck
      have hx100 : (mk x).size ≤ 100000 := by omega
      have HT := Lib.hid (mk_toList x)
      have HV := Valid_any (mk x) hx100
      rw [mk_data] at HV
      clear hal hms hxl
      rcases part_cases x with hx | hx | ⟨hx, hv⟩ | ⟨hx, hv⟩
      · -- '' or '.'
        rw [stepL_skip hx] at hst
        have HST := Lib.hid hst
        have HA := Lib.hid (hok (okPart_skip hx))
        clear hst hok hbad HV
        rcases hx with hx | hx
        · have h1 : (mk x).toList = [] := by rw [HT.out, hx]
          clear hx
          go_wp2_with fail
          exact ⟨⟨k + 1, by go_num, by omega, by rw [HST.out]; exact hown, hB, HA⟩, by simp [intOf]; omega⟩
        · have h1 : (mk x).toList ≠ [] := by rw [HT.out, hx]; simp
          have h2 : ((mk x).toList == [46]) = true := by rw [HT.out, hx]; decide
          clear hx
          go_wp2_with fail
          exact ⟨⟨k + 1, by go_num, by omega, by rw [HST.out]; exact hown, hB, HA⟩, by simp [intOf]; omega⟩
      · -- '..'
        have h1 : (mk x).toList ≠ [] := by rw [HT.out, hx]; simp
        have h0 : (mk x).toList.isEmpty = false := by rw [HT.out, hx]; rfl
        have h2 : ((mk x).toList == [46]) = false := by rw [HT.out, hx]; decide
        have h3 : ((mk x).toList == [46, 46]) = true := by rw [HT.out, hx]; decide
        rw [hx] at hst
        have HST := Lib.hid hst
        have HA := Lib.hid (hok (by rw [hx]; decide))
        have HAS := Lib.hid (ascend_any (w.heap.size + 1) acc r u4 wr (by omega) hbase hown.out)
        have HRt := Lib.hid (HRT.out wr)
        clear hst hok hbad HV hx
        go_wp2_with fail
        refine HRt.out.mono ?_
        rintro e w' ⟨rfl, rfl⟩
        go_wp2_with fail
        refine HAS.out.mono ?_
        rintro e w2 ⟨v2, rfl, hown2, hB2⟩
        have HO2 := Lib.hid hown2
        have HB2 := Lib.hid (hB.out.trans hB2)
        clear hown2 hB2
        go_wp2_with fail
        exact ⟨⟨k + 1, by go_num, by omega, by rw [HST.out]; exact HO2, HB2, HA⟩, by simp [intOf]; omega⟩
      · -- a name
        have h1 : (mk x).toList ≠ [] := by rw [HT.out]; exact hx.1
        have h0 : (mk x).toList.isEmpty = false := by rw [HT.out]; simpa using hx.1
        have h2 : ((mk x).toList == [46]) = false := by rw [HT.out]; simpa using hx.2.1
        have h3 : ((mk x).toList == [46, 46]) = false := by rw [HT.out]; simpa using hx.2.2
        rw [stepL_name hx] at hst
        have HST := Lib.hid hst
        have HA := Lib.hid (hok (okPart_valid hv))
        rw [hv] at HV
        have HVa := Lib.hid (HV wr)
        clear hst hok hbad HV hx hv
        go_wp2_with fail
        refine HVa.out.mono ?_
        rintro e w' ⟨rfl, rfl⟩
        go_wp2_with (at_builtin; refine wpList_append_own _ rfl (.tmp 34) (.tmp 36) 27 rfl (w.heap.size + 1) 9 i0 (.string ⟨#[]⟩) 1 16 Tryd.underlying27 hi hz0 hz1 hz2 rfl (by decide) _ _ _ rfl (hown.out.alloc _) ⟨wr.heap.size, 0, none⟩ 1 1 [sv x] rfl rfl (cell_one_new _ _ _) (by intro u hu; simp at hu; subst hu; rfl) (by unfold maxLen; omega) (by omega) (by simp; omega) ?_; intro v' w2 hown' hgrow _)
        have HB2 := Lib.hid (hB.out.trans (below_grown _ hbase hown.out hgrow))
        have HO2 := Lib.hid hown'
        clear hown' hgrow
        go_wp2_with fail
        refine ⟨⟨k + 1, by go_num, by omega, ?_, HB2, HA⟩, by simp [intOf]; omega⟩
        have e := HO2.out
        rw [HST.out]
        exact Lib.hid (by simpa using e)
      · -- not a name
        have h1 : (mk x).toList ≠ [] := by rw [HT.out]; exact hx.1
        have h0 : (mk x).toList.isEmpty = false := by rw [HT.out]; simpa using hx.1
        have h2 : ((mk x).toList == [46]) = false := by rw [HT.out]; simpa using hx.2.1
        have h3 : ((mk x).toList == [46, 46]) = false := by rw [HT.out]; simpa using hx.2.2
        have hres := hbad (okPart_bad hx hv)
        rw [hv] at HV
        have HVa := Lib.hid (HV wr)
        have HRES := Lib.hid hres
        clear hst hok hbad HV hx hv hres
        go_wp2_with fail
        refine HVa.out.mono ?_
        rintro e w' ⟨rfl, rfl⟩
        go_wp2_with fail
        go_ret2
        rw [HRES.out]
        exact ⟨_, rfl, SRow.nil_ _, HB1.out.trans (hB.out.mono (by omega))⟩
    · have hkl : k = ps.length := by omega
      have ha := hall.out
      rw [hkl, List.take_length] at ha
      have hr := HR1.out ha
      have ho := hown.out
      rw [hkl, List.take_length] at ho
      have hel := elems_len r ps []
      have hel2 : (elemsFrom r [] ps).length ≤ 2000 := by simp only [List.length_nil] at hel; omega
      have hform : ∃ p c, u4 = .slice p (elemsFrom r [] ps).length c := by
        obtain ⟨p, c, h, _⟩ := SRow.of_own ho
        exact ⟨p, c, h⟩
      generalize elemsFrom r [] ps = es at hr ho hel2 hform
      obtain ⟨p, c, rfl⟩ := hform
      have HO := Lib.hid ho
      clear ho ha hel hall hown
      by_cases hlong : 32 < es.length
      · rw [if_pos hlong] at hr
        have HRES := Lib.hid hr
        clear hr
        go_wp2_with fail
        go_ret2
        rw [HRES.out]
        exact ⟨_, rfl, SRow.nil_ _, HB1.out.trans (hB.out.mono (by omega))⟩
      · rw [if_neg hlong] at hr
        have HRES := Lib.hid hr
        clear hr
        go_wp2_with fail
        go_ret2
        rw [HRES.out]
        exact ⟨_, rfl, SRow.of_own HO.out, HB1.out.trans (hB.out.mono (by omega))⟩
end Go.Proofs.YtoihflkhpbpljaaDoor
