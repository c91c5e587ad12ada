/-
  The parts of a path: strings.Split, the reference's Parts.
-/
import Derived.Test.YtoihflkhpbpljaaDoorPd
namespace Go.Proofs.YtoihflkhpbpljaaDoor
open Go.RowKit

/-- What the walks ask of the package-level variables: internal/bytealg.MaxLen holds an int. -/
def G (w : World) : Prop := ∃ m, w.cell? ⟨0, 0, none⟩ = some (.int .i64 m)
theorem G.below {w w' : World} (g : G w) (h : Below w.heap.size w w') : G w' := by
  obtain ⟨m, hm⟩ := g
  exact ⟨m, by rw [h.cell (p := ⟨0, 0, none⟩) (World.block_lt_of_cell? _ _ hm)]; exact hm⟩

theorem Split_lib (s : ByteArray) (hs : s.size ≤ 100000) (w : World) (g : G w) :
    Calls Tryd.prog 33 #[.string s, .string ⟨#[47]⟩] w fun e w' =>
      e = .returned (.slice (some ⟨w.heap.size, 0, none⟩) (pieces s.data.toList).length (pieces s.data.toList).length) ∧ w'.heap.size = w.heap.size + 1 ∧ Below w.heap.size w w' ∧
      ∀ j (hj : j < (pieces s.data.toList).length), w'.cell? ⟨w.heap.size, j, none⟩ = some (sv (pieces s.data.toList)[j]) := by
  obtain ⟨m, hm⟩ := g
  have hp := splitB_pieces s
  have hn : (Lib.splitB ⟨#[47]⟩ 0 (Lib.countB s ⟨#[47]⟩) s).length = Lib.countB s ⟨#[47]⟩ + 1 := Lib.splitB_all ⟨#[47]⟩ (by decide) 0 _ s rfl
  refine (Tryd.strings_Split s ⟨#[47]⟩ m w (by omega) hm (by decide)).mono ?_
  rintro e w' ⟨rfl, rfl⟩
  generalize Lib.countB s ⟨#[47]⟩ = c at hp hn ⊢
  generalize Lib.splitB ⟨#[47]⟩ 0 c s = q at hp hn ⊢
  have hl : (pieces s.data.toList).length = c + 1 := by rw [← hp, List.length_map, hn]
  refine ⟨by rw [hl], by simp, (Below.refl _ _).alloc (Nat.le_refl _) _, fun j hj => ?_⟩
  rw [World.cell?_alloc_new]
  have hjq : j < q.length := by omega
  have hv : (pieces s.data.toList)[j]'(by omega) = q[j].data.toList := by simp only [← hp, List.getElem_map]
  rw [hv, List.getElem?_toArray, List.getElem?_map, List.getElem?_eq_getElem hjq]
  simp only [Option.map_some, sv, mk_of]

theorem data_get (s : ByteArray) (k : Nat) (h : k < s.size) : s.data.toList[k]'(by rw [Array.length_toList]; exact h) = s[k] := by simp [Array.getElem_toList]; rfl
/-- Where the reference's Parts stands: the parts that lie before fr are done; no slash from fr to k. -/
def PRel (l : List UInt8) (fr k : Nat) (done : List (List UInt8)) : Prop :=
  (k ≤ l.length → pieces l = done ++ pieces (l.drop fr) ∧ (47 : UInt8) ∉ (l.drop fr).take (k - fr)) ∧ (k = l.length + 1 → pieces l = done)
theorem PRel_start (l : List UInt8) : PRel l 0 0 [] := ⟨fun _ => ⟨by simp, by simp⟩, fun h => by omega⟩
theorem PRel_go {l : List UInt8} {fr k : Nat} {done : List (List UInt8)} (hf : fr ≤ k) (hk : k < l.length) (hc : l[k] ≠ 47) (h : PRel l fr k done) : PRel l fr (k + 1) done := by
  refine ⟨fun _ => ⟨(h.1 (by omega)).1, ?_⟩, fun h => by omega⟩
  rw [show k + 1 - fr = (k - fr) + 1 by omega, List.take_succ_eq_append_getElem (by simp; omega)]
  simp only [List.mem_append, List.mem_singleton, not_or]
  refine ⟨(h.1 (by omega)).2, ?_⟩
  rw [List.getElem_drop]
  simp only [show fr + (k - fr) = k by omega]
  exact fun e => hc e.symm
theorem PRel_cut {l : List UInt8} {fr k : Nat} {done : List (List UInt8)} (hf : fr ≤ k) (hk : k < l.length) (hc : l[k] = 47) (h : PRel l fr k done) : PRel l (k + 1) (k + 1) (done ++ [(l.drop fr).take (k - fr)]) := by
  obtain ⟨h1, h2⟩ := h.1 (by omega)
  refine ⟨fun _ => ⟨?_, by simp⟩, fun h => by omega⟩
  rw [h1, List.append_assoc]
  congr 1
  have e : l.drop fr = (l.drop fr).take (k - fr) ++ 47 :: l.drop (k + 1) := by
    conv => lhs; rw [← List.take_append_drop (k - fr) (l.drop fr)]
    rw [List.drop_drop, show fr + (k - fr) = k by omega, List.drop_eq_getElem_cons hk, hc]
  conv => lhs; rw [e]
  rw [pieces_app, pieces_plain _ h2]
theorem PRel_end {l : List UInt8} {fr : Nat} {done : List (List UInt8)} (hf : fr ≤ l.length) (h : PRel l fr l.length done) : PRel l (l.length + 1) (l.length + 1) (done ++ [(l.drop fr).take (l.length - fr)]) := by
  obtain ⟨h1, h2⟩ := h.1 (by omega)
  refine ⟨fun h => by omega, fun _ => ?_⟩
  rw [List.take_of_length_le (by simp)] at h2 ⊢
  rw [h1, pieces_plain _ h2]
theorem extract_mk (s : ByteArray) (a b : Nat) : Value.string (s.extract a b) = sv ((s.data.toList.drop a).take (b - a)) := by
  unfold sv
  rw [← Lib.extract_data, mk_of]

set_option maxRecDepth 100000 in
set_option maxHeartbeats 1600000 in
theorem Parts_any (s : ByteArray) (hs : s.size ≤ 100000) (w : World) :
    Calls Tryd.prog 29 #[.string s] w fun e w' => ∃ v, e = .returned v ∧ w'.ownsRow w.heap.size 9 1 v (pieces s.data.toList).length ((pieces s.data.toList).map sv) ∧ Below w.heap.size w w' := by
  obtain ⟨i0, hi, hz0, hz1, hz2⟩ := info_parts info_str
  have hsz : s.data.toList.length = s.size := by rw [Lib.size_eq]
  have HSZ := Lib.hid hsz
  have HEX := fun a b => Lib.hid (extract_mk s a b)
  clear hsz
  go_enter Tryd.func29, Tryd.ntmps29
  go_wp2
  go_loopw [3, 4, 5] (fun vo vf vi wr => ∃ (k fr : Nat) (done : List (List UInt8)), vi = .int .i64 (k : Int) ∧ vf = .int .i64 (fr : Int) ∧ k ≤ s.size + 1 ∧ fr ≤ k ∧ done.length ≤ fr ∧ wr.ownsRow w.heap.size 9 1 vo done.length (done.map sv) ∧ Below w.heap.size w wr ∧ Hid (PRel s.data.toList fr k done))
    (fun _ _ vi _ => s.size + 2 - (intOf vi).toNat)
  case atStart => exact ⟨0, 0, [], rfl, rfl, by omega, by omega, by simp, World.ownsRow_nil _ _ _ _, Below.refl _ _, PRel_start _⟩
  case round =>
    obtain ⟨k, fr, done, rfl, rfl, hk, hf, hd, hown, hB, hrel⟩ := hrel
    have HO := Lib.hid hown
    have HBL := Lib.hid hB
    have hbs := hB.size
    clear hown hB
    by_cases hke : k = s.size + 1
    · subst hke
      have hend := Lib.hid (hrel.out.2 (by rw [HSZ.out]))
      go_wp2
      go_ret
      refine ⟨_, rfl, ?_, HBL.out⟩
      rw [hend.out]
      exact HO.out
    by_cases hkn : k < s.size
    · by_cases hc : (s[k].toNat : Int) = 47
      · have hc2 : ((s[k].toNat : Int) == 47) = true := by rw [hc]; rfl
        have hc3 : s.data.toList[k]'(by rw [HSZ.out]; exact hkn) = 47 := by rw [data_get s k hkn]; apply UInt8.toNat.inj; show s[k].toNat = 47; omega
        have HR := Lib.hid (PRel_cut hf (by rw [HSZ.out]; exact hkn) hc3 hrel.out)
        have hkne : ((k : Int) == (s.size : Int)) = false := by simp; omega
        clear hc hc3
        go_wp2_with (at_builtin; refine wpList_append_own _ rfl (.tmp 22) (.tmp 27) 27 rfl w.heap.size 9 i0 (.string ⟨#[]⟩) 1 16 Tryd.underlying27 hi hz0 hz1 hz2 rfl (by decide) _ _ _ rfl (HO.out.alloc _) ⟨wr.heap.size, 0, none⟩ 1 1 [.string (s.extract fr k)] rfl rfl (cell_one_new _ _ _) (by intro u hu; simp at hu; subst hu; rfl) (by unfold maxLen; omega) (by omega) (by simp; omega) ?_; intro v' w1 hown' hgrow _)
        have HB1 := Lib.hid ((HBL.out.alloc hbs _).grown hgrow (by simp; omega) (fun k' hk' => (HO.out.lt k' hk').1))
        have HO1 := Lib.hid hown'
        clear hown' hgrow
        go_wp2
        refine ⟨⟨k + 1, k + 1, done ++ [(s.data.toList.drop fr).take (k - fr)], by go_num, by go_num, by omega, by omega, by simp; omega, ?_, HB1.out, HR.out⟩, by simp [intOf]; omega⟩
        have e := HO1.out
        rw [(HEX fr k).out] at e
        rw [List.length_append, List.map_append]; exact e
      · have hc2 : ((s[k].toNat : Int) == 47) = false := by simpa using hc
        have hc3 : s.data.toList[k]'(by rw [HSZ.out]; exact hkn) ≠ 47 := by rw [data_get s k hkn]; intro e; rw [e] at hc; exact hc rfl
        have HR := Lib.hid (PRel_go hf (by rw [HSZ.out]; exact hkn) hc3 hrel.out)
        have hkne : ((k : Int) == (s.size : Int)) = false := by simp; omega
        clear hc hc3
        go_wp2
        exact ⟨⟨k + 1, fr, done, by go_num, rfl, by omega, by omega, by omega, HO.out, HBL.out, HR.out⟩, by simp [intOf]; omega⟩
    · have hkz : k = s.size := by omega
      subst hkz
      have hr := hrel.out
      rw [← HSZ.out] at hr
      have hr2 := PRel_end (by rw [HSZ.out]; exact hf) hr
      rw [HSZ.out] at hr2
      have HR := Lib.hid hr2
      clear hr hr2
      go_wp2_with (at_builtin; refine wpList_append_own _ rfl (.tmp 22) (.tmp 27) 27 rfl w.heap.size 9 i0 (.string ⟨#[]⟩) 1 16 Tryd.underlying27 hi hz0 hz1 hz2 rfl (by decide) _ _ _ rfl (HO.out.alloc _) ⟨wr.heap.size, 0, none⟩ 1 1 [.string (s.extract fr s.size)] rfl rfl (cell_one_new _ _ _) (by intro u hu; simp at hu; subst hu; rfl) (by unfold maxLen; omega) (by omega) (by simp; omega) ?_; intro v' w1 hown' hgrow _)
      have HB1 := Lib.hid ((HBL.out.alloc hbs _).grown hgrow (by simp; omega) (fun k' hk' => (HO.out.lt k' hk').1))
      have HO1 := Lib.hid hown'
      clear hown' hgrow
      go_wp2
      refine ⟨⟨s.size + 1, s.size + 1, done ++ [(s.data.toList.drop fr).take (s.size - fr)], by go_num, by go_num, by omega, by omega, by simp; omega, ?_, HB1.out, HR.out⟩, by simp [intOf]⟩
      have e := HO1.out
      rw [(HEX fr s.size).out] at e
      rw [List.length_append, List.map_append]; exact e
end Go.Proofs.YtoihflkhpbpljaaDoor
