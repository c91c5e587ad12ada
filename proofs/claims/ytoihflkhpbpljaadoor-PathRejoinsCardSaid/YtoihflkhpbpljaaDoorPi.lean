/-
  Base and Dir, of package path and of the reference.
-/
import Derived.Test.YtoihflkhpbpljaaDoorPh
import Derived.StillTailTactics
import Derived.Deep.QuietTactic
import Derived.BigQuiet
import Derived.IntWalk
namespace Go.Proofs.YtoihflkhpbpljaaDoor
open Go.RowKit

theorem baseR_bad {l : List UInt8} {c : Int} (hc : c ≠ 0) (h : splitR l = ([], c)) : baseR l = [] := by rw [baseR, h, if_pos hc]
theorem baseR_none {l : List UInt8} (h : splitR l = ([], 0)) : baseR l = buildR (rootedL l) [] := by rw [baseR, h, if_neg (by simp), if_pos rfl]
theorem baseR_last {l : List UInt8} {d : List (List UInt8)} {y : List UInt8} (h : splitR l = (d ++ [y], 0)) : baseR l = y := by rw [baseR, h, if_neg (by simp), if_neg (by simp)]; simp
theorem dirR_bad {l : List UInt8} {c : Int} (hc : c ≠ 0) (h : splitR l = ([], c)) : dirR l = [] := by rw [dirR, h, if_pos hc]
theorem dirR_ok {l : List UInt8} {es : List (List UInt8)} (h : splitR l = (es, 0)) : dirR l = buildR (rootedL l) es.dropLast := by rw [dirR, h, if_neg (by simp)]
theorem SRow.last {w : World} {v : Value} {d : List (List UInt8)} {y : List UInt8} (h : SRow w v (d ++ [y])) :
    ∃ b o cap, v = .slice (some ⟨b, o, none⟩) (d.length + 1) cap ∧ d.length + 1 ≤ cap ∧ w.cell? ⟨b, o + d.length, none⟩ = some (.string (mk y)) := by
  obtain ⟨p, cap, rfl, hc, hm, h⟩ := h
  obtain ⟨b, o, rfl, hb, hcell⟩ := h (by simp)
  refine ⟨b, o, cap, by simp, by simpa using hc, ?_⟩
  have := hcell d.length (by simp)
  rw [List.getElem_append_right (by simp)] at this
  simpa [sv] using this
theorem SRow.cut {w : World} {p : Option Addr} {n cap : Nat} {d : List (List UInt8)} {y : List UInt8} (h : SRow w (.slice p n cap) (d ++ [y])) : SRow w (.slice p d.length cap) d := by
  obtain ⟨p', cap', e, hc, hm, h⟩ := h
  injection e with e1 e2 e3
  subst e1 e3
  refine ⟨p, cap, rfl, by simp at hc; omega, hm, fun hd => ?_⟩
  obtain ⟨b, o, rfl, hb, hcell⟩ := h (by simp)
  refine ⟨b, o, rfl, hb, fun j hj => ?_⟩
  have := hcell j (by simp; omega)
  rwa [List.getElem_append_left hj] at this

set_option maxRecDepth 100000 in
set_option maxHeartbeats 1600000 in
theorem Base_any (s : ByteArray) (hs : s.size ≤ 100000) (w : World) (g : G w) :
    Calls Tryd.prog 21 #[.string s] w fun e w' => e = .returned (.string (mk (baseR s.data.toList))) ∧ Below w.heap.size w w' := by
  have hsz : s.data.toList.length = s.size := by rw [Lib.size_eq]
  have H0 := Split_any s hs w g
  have HRT := Lib.hid (fun W => isRooted_any s W)
  rcases splitR_cases s.data.toList with ⟨c, hc, h⟩ | ⟨es, h, he, -, hl, -⟩
  · rw [baseR_bad hc h]
    rw [h] at H0
    have HS := Lib.hid H0
    have hc1 : (c != 0) = true := by simpa using hc
    have hc2 : (c == 0) = false := by simpa using hc
    clear H0 h hc hsz
    go_enter Tryd.func21, Tryd.ntmps21
    go_wp2_with fail
    refine HS.out.mono ?_
    rintro e w1 ⟨v, rfl, hv, hB⟩
    have HB := Lib.hid hB
    clear hv hB
    go_wp2_with fail
    go_ret
    exact ⟨rfl, HB.out⟩
  · by_cases h0 : es = []
    · subst h0
      rw [baseR_none h]
      rw [h] at H0
      have HS := Lib.hid H0
      generalize rootedL s.data.toList = r at HRT ⊢
      clear H0 h he hsz
      go_enter Tryd.func21, Tryd.ntmps21
      go_wp2_with fail
      refine HS.out.mono ?_
      rintro e w1 ⟨v, rfl, hv, hB⟩
      have HB := Lib.hid hB
      have HT := Lib.hid (text_any v [] r w1 hv (by simp [joinL, Lib.join_nil]))
      obtain ⟨p, cap, rfl, -⟩ := hv
      clear hB
      go_wp2_with fail
      refine (HRT.out w1).mono ?_
      rintro e w' ⟨rfl, rfl⟩
      go_wp2_with fail
      refine HT.out.mono ?_
      rintro e w2 ⟨rfl, hB2⟩
      have HB2 := Lib.hid (HB.out.trans (hB2.mono HB.out.size))
      clear hB2
      go_wp2_with fail
      go_ret
      exact ⟨rfl, HB2.out⟩
    · obtain ⟨d, y, rfl⟩ : ∃ d y, es = d ++ [y] := ⟨es.dropLast, es.getLast h0, (List.dropLast_concat_getLast h0).symm⟩
      rw [baseR_last h]
      rw [h] at H0
      have HS := Lib.hid H0
      have hdl : d.length ≤ 32 := by simp at hl; omega
      clear H0 h he hsz h0 hl
      go_enter Tryd.func21, Tryd.ntmps21
      go_wp2_with fail
      refine HS.out.mono ?_
      rintro e w1 ⟨v, rfl, hv, hB⟩
      have HB := Lib.hid hB
      obtain ⟨b, o, cap, rfl, hcap, hcell⟩ := hv.last
      have hne : (((d.length : Int) + 1) == 0) = false := by simp; omega
      clear hB hv
      go_wp2_with fail
      go_ret
      exact ⟨rfl, HB.out⟩

set_option maxRecDepth 100000 in
set_option maxHeartbeats 1600000 in
theorem Dir_any (s : ByteArray) (hs : s.size ≤ 100000) (w : World) (g : G w) :
    Calls Tryd.prog 23 #[.string s] w fun e w' => e = .returned (.string (mk (dirR s.data.toList))) ∧ Below w.heap.size w w' := by
  have hsz : s.data.toList.length = s.size := by rw [Lib.size_eq]
  have H0 := Split_any s hs w g
  have HRT := Lib.hid (fun W => isRooted_any s W)
  rcases splitR_cases s.data.toList with ⟨c, hc, h⟩ | ⟨es, h, he, -, hl, -⟩
  · rw [dirR_bad hc h]
    rw [h] at H0
    have HS := Lib.hid H0
    have hc1 : (c != 0) = true := by simpa using hc
    have hc2 : (c == 0) = false := by simpa using hc
    clear H0 h hc hsz
    go_enter Tryd.func23, Tryd.ntmps23
    go_wp2_with fail
    refine HS.out.mono ?_
    rintro e w1 ⟨v, rfl, hv, hB⟩
    have HB := Lib.hid hB
    clear hv hB
    go_wp2_with fail
    go_ret
    exact ⟨rfl, HB.out⟩
  · have hj := elems_join_le (rootedL s.data.toList) s.data.toList
    rw [he] at hj
    have hdr := dirR_ok h
    rw [hdr]
    rw [h] at H0
    have HS := Lib.hid H0
    generalize rootedL s.data.toList = r at HRT ⊢
    clear H0 h he hdr
    by_cases h0 : es = []
    · subst h0
      rw [show ([] : List (List UInt8)).dropLast = [] from rfl]
      clear hl hj hsz
      go_enter Tryd.func23, Tryd.ntmps23
      go_wp2_with fail
      refine HS.out.mono ?_
      rintro e w1 ⟨v, rfl, hv, hB⟩
      have HB := Lib.hid hB
      have HT := Lib.hid (text_any _ [] r w1.drew (show SRow w1.drew _ _ from hv) (by simp [joinL, Lib.join_nil]))
      obtain ⟨p, cap, rfl, -⟩ := hv
      clear hB
      have hw : IntKind.i64.wrap (-1 : Int) = -1 := IntWalk.i64_in _ (by omega)
      have hmx : max (-1 : Int) 0 = 0 := by decide
      have hc1 : (0 : Int) ≤ (cap : Int) := by omega
      simp only [List.length_nil] at HT
      go_wp2_with fail
      refine wp_region_still_tail 8 (by kernel_rfl) (by kernel_rfl) ?_
      simp only [List.take_succ_cons, List.take_zero, List.drop_succ_cons, List.drop_zero]
      iterate 7 (refine wpStill_step (fun K hK => ?_); go_simp; refine hK _ ?_; clear hK K)
      refine wpStill_step (fun K hK => ?_)
      go_simp
      refine ⟨_, (HRT.out _).mono (fun e w'' h => ⟨h.1, h.2.symm⟩), hK _ ?_⟩
      clear hK K
      refine wpStill_nil ?_
      go_wp2_with fail
      refine HT.out.mono ?_
      rintro e w2 ⟨rfl, hB2⟩
      have HB2 := Lib.hid ((HB.out.drew).trans (hB2.mono HB.out.size))
      clear hB2
      go_wp2_with fail
      go_ret
      exact ⟨rfl, HB2.out⟩
    · obtain ⟨d, y, rfl⟩ : ∃ d y, es = d ++ [y] := ⟨es.dropLast, es.getLast h0, (List.dropLast_concat_getLast h0).symm⟩
      rw [show (d ++ [y]).dropLast = d by simp]
      have hjt := joinL_take_le (d ++ [y]) d.length
      rw [List.take_left] at hjt
      have hj' : (joinL d).length ≤ 1000000 := by omega
      have hdl : d.length ≤ 32 := by simp at hl; omega
      clear h0 hl hj hjt hsz
      go_enter Tryd.func23, Tryd.ntmps23
      go_wp2_with fail
      refine HS.out.mono ?_
      rintro e w1 ⟨v, rfl, hv, hB⟩
      have HB := Lib.hid hB
      obtain ⟨b, o, cap, rfl, hcap, hcell⟩ := hv.last
      have HT := Lib.hid (text_any _ d r w1.drew (show SRow w1.drew _ _ from SRow.cut hv) hj')
      clear hB hv hcell
      have hw : IntKind.i64.wrap (d.length : Int) = d.length := IntWalk.i64_in _ (by omega)
      have hmx : max (d.length : Int) 0 = d.length := by omega
      have hc1 : (d.length : Int) ≤ (cap : Int) := by omega
      have hc0 : (0 : Int) ≤ (d.length : Int) := by omega
      go_wp2_with fail
      refine wp_region_still_tail 8 (by kernel_rfl) (by kernel_rfl) ?_
      simp only [List.take_succ_cons, List.take_zero, List.drop_succ_cons, List.drop_zero]
      iterate 7 (refine wpStill_step (fun K hK => ?_); go_simp; refine hK _ ?_; clear hK K)
      refine wpStill_step (fun K hK => ?_)
      go_simp
      refine ⟨_, (HRT.out _).mono (fun e w'' h => ⟨h.1, h.2.symm⟩), hK _ ?_⟩
      clear hK K
      refine wpStill_nil ?_
      go_wp2_with fail
      refine HT.out.mono ?_
      rintro e w2 ⟨rfl, hB2⟩
      have HB2 := Lib.hid ((HB.out.drew).trans (hB2.mono HB.out.size))
      clear hB2
      go_wp2_with fail
      go_ret
      exact ⟨rfl, HB2.out⟩

set_option maxRecDepth 100000 in
set_option maxHeartbeats 1600000 in
theorem RBase_any (s : ByteArray) (hs : s.size ≤ 100000) (w : World) :
    Calls Tryd.prog 22 #[.string s] w fun e w' => e = .returned (.string (mk (baseR s.data.toList))) ∧ Below w.heap.size w w' := by
  have hsz : s.data.toList.length = s.size := by rw [Lib.size_eq]
  have H0 := RSplit_any s hs w
  have HRT := Lib.hid (fun W => Rooted_any s hs W)
  rcases splitR_cases s.data.toList with ⟨c, hc, h⟩ | ⟨es, h, he, -, hl, -⟩
  · rw [baseR_bad hc h]
    rw [h] at H0
    have HS := Lib.hid H0
    have hc1 : (c != 0) = true := by simpa using hc
    have hc2 : (c == 0) = false := by simpa using hc
    clear H0 h hc hsz
    go_enter Tryd.func22, Tryd.ntmps22
    go_wp2_with fail
    refine HS.out.mono ?_
    rintro e w1 ⟨v, rfl, hv, hB⟩
    have HB := Lib.hid hB
    clear hv hB
    go_wp2_with fail
    go_ret
    exact ⟨rfl, HB.out⟩
  · by_cases h0 : es = []
    · subst h0
      rw [baseR_none h]
      rw [h] at H0
      have HS := Lib.hid H0
      generalize rootedL s.data.toList = r at HRT ⊢
      clear H0 h he hsz
      go_enter Tryd.func22, Tryd.ntmps22
      go_wp2_with fail
      refine HS.out.mono ?_
      rintro e w1 ⟨v, rfl, hv, hB⟩
      have HB := Lib.hid hB
      have HT := Lib.hid (Build_any (.slice none 0 0) [] r w1 (SRow.nil_ _) (by simp [joinL, Lib.join_nil]) (by simp))
      rw [rbuild_eq _ _ (by simp)] at HT
      obtain ⟨p, cap, rfl, -⟩ := hv
      clear hB
      go_wp2_with fail
      refine (HRT.out w1).mono ?_
      rintro e w' ⟨rfl, rfl⟩
      go_wp2_with fail
      refine HT.out.mono ?_
      rintro e w2 ⟨rfl, rfl⟩
      go_wp2_with fail
      go_ret
      exact ⟨rfl, HB.out⟩
    · obtain ⟨d, y, rfl⟩ : ∃ d y, es = d ++ [y] := ⟨es.dropLast, es.getLast h0, (List.dropLast_concat_getLast h0).symm⟩
      rw [baseR_last h]
      rw [h] at H0
      have HS := Lib.hid H0
      have hdl : d.length ≤ 32 := by simp at hl; omega
      clear H0 h he hsz h0 hl
      go_enter Tryd.func22, Tryd.ntmps22
      go_wp2_with fail
      refine HS.out.mono ?_
      rintro e w1 ⟨v, rfl, hv, hB⟩
      have HB := Lib.hid hB
      obtain ⟨b, o, cap, rfl, hcap, hcell⟩ := hv.last
      have hne : (((d.length : Int) + 1) == 0) = false := by simp; omega
      clear hB hv
      go_wp2_with fail
      go_ret
      exact ⟨rfl, HB.out⟩

set_option maxRecDepth 100000 in
set_option maxHeartbeats 1600000 in
theorem RDir_any (s : ByteArray) (hs : s.size ≤ 100000) (w : World) :
    Calls Tryd.prog 24 #[.string s] w fun e w' => e = .returned (.string (mk (dirR s.data.toList))) ∧ Below w.heap.size w w' := by
  have hsz : s.data.toList.length = s.size := by rw [Lib.size_eq]
  have H0 := RSplit_any s hs w
  have HRT := Lib.hid (fun W => Rooted_any s hs W)
  rcases splitR_cases s.data.toList with ⟨c, hc, h⟩ | ⟨es, h, he, -, hl, -⟩
  · rw [dirR_bad hc h]
    rw [h] at H0
    have HS := Lib.hid H0
    have hc1 : (c != 0) = true := by simpa using hc
    have hc2 : (c == 0) = false := by simpa using hc
    clear H0 h hc hsz
    go_enter Tryd.func24, Tryd.ntmps24
    go_wp2_with fail
    refine HS.out.mono ?_
    rintro e w1 ⟨v, rfl, hv, hB⟩
    have HB := Lib.hid hB
    clear hv hB
    go_wp2_with fail
    go_ret
    exact ⟨rfl, HB.out⟩
  · have hj := elems_join_le (rootedL s.data.toList) s.data.toList
    have hne := elems_nonempty (rootedL s.data.toList) (pieces s.data.toList)
    rw [he] at hj hne
    have hdr := dirR_ok h
    rw [hdr, ← rbuild_eq _ _ (fun x hx => hne x (List.dropLast_subset _ hx))]
    rw [h] at H0
    have HS := Lib.hid H0
    generalize rootedL s.data.toList = r at HRT ⊢
    clear H0 h he hdr hne
    by_cases h0 : es = []
    · subst h0
      rw [show ([] : List (List UInt8)).dropLast = [] from rfl]
      clear hl hj hsz
      go_enter Tryd.func24, Tryd.ntmps24
      go_wp2_with fail
      refine HS.out.mono ?_
      rintro e w1 ⟨v, rfl, hv, hB⟩
      have HB := Lib.hid hB
      have HT := Lib.hid (Build_any _ [] r w1.drew (show SRow w1.drew _ _ from hv) (by simp [joinL, Lib.join_nil]) (by simp))
      obtain ⟨p, cap, rfl, -⟩ := hv
      clear hB
      have hw : IntKind.i64.wrap (-1 : Int) = -1 := IntWalk.i64_in _ (by omega)
      have hmx : max 0 (-1 : Int) = 0 := by decide
      have hc1 : (0 : Int) ≤ (cap : Int) := by omega
      simp only [List.length_nil] at HT
      go_wp2_with fail
      refine wp_region_still_tail 8 (by kernel_rfl) (by kernel_rfl) ?_
      simp only [List.take_succ_cons, List.take_zero, List.drop_succ_cons, List.drop_zero]
      refine wpStill_step (fun K hK => ?_)
      go_simp
      refine hK _ ?_
      clear hK K
      refine wpStill_step (fun K hK => ?_)
      go_simp
      refine ⟨_, (HRT.out _).mono (fun e w'' h => ⟨h.1, h.2.symm⟩), hK _ ?_⟩
      clear hK K
      iterate 6 (refine wpStill_step (fun K hK => ?_); go_simp; refine hK _ ?_; clear hK K)
      refine wpStill_nil ?_
      go_wp2_with fail
      refine HT.out.mono ?_
      rintro e w2 ⟨rfl, rfl⟩
      have HB2 := Lib.hid (HB.out.drew)
      go_wp2_with fail
      go_ret
      exact ⟨rfl, HB2.out⟩
    · obtain ⟨d, y, rfl⟩ : ∃ d y, es = d ++ [y] := ⟨es.dropLast, es.getLast h0, (List.dropLast_concat_getLast h0).symm⟩
      rw [show (d ++ [y]).dropLast = d by simp]
      have hjt := joinL_take_le (d ++ [y]) d.length
      rw [List.take_left] at hjt
      have hj' : (joinL d).length ≤ 1000000 := by omega
      have hdl : d.length ≤ 32 := by simp at hl; omega
      clear h0 hl hj hjt hsz
      go_enter Tryd.func24, Tryd.ntmps24
      go_wp2_with fail
      refine HS.out.mono ?_
      rintro e w1 ⟨v, rfl, hv, hB⟩
      have HB := Lib.hid hB
      obtain ⟨b, o, cap, rfl, hcap, hcell⟩ := hv.last
      have HT := Lib.hid (Build_any _ d r w1.drew (show SRow w1.drew _ _ from SRow.cut hv) hj' (by omega))
      clear hB hv hcell
      have hw : IntKind.i64.wrap (d.length : Int) = d.length := IntWalk.i64_in _ (by omega)
      have hmx : max 0 (d.length : Int) = d.length := by omega
      have hc1 : (d.length : Int) ≤ (cap : Int) := by omega
      have hc0 : (0 : Int) ≤ (d.length : Int) := by omega
      go_wp2_with fail
      refine wp_region_still_tail 8 (by kernel_rfl) (by kernel_rfl) ?_
      simp only [List.take_succ_cons, List.take_zero, List.drop_succ_cons, List.drop_zero]
      refine wpStill_step (fun K hK => ?_)
      go_simp
      refine hK _ ?_
      clear hK K
      refine wpStill_step (fun K hK => ?_)
      go_simp
      refine ⟨_, (HRT.out _).mono (fun e w'' h => ⟨h.1, h.2.symm⟩), hK _ ?_⟩
      clear hK K
      iterate 6 (refine wpStill_step (fun K hK => ?_); go_simp; refine hK _ ?_; clear hK K)
      refine wpStill_nil ?_
      go_wp2_with fail
      refine HT.out.mono ?_
      rintro e w2 ⟨rfl, rfl⟩
      have HB2 := Lib.hid (HB.out.drew)
      go_wp2_with fail
      go_ret
      exact ⟨rfl, HB2.out⟩
end Go.Proofs.YtoihflkhpbpljaaDoor
