/-
  strings.Split; the reference's parts; the user of a line: the program's and the reference's.
-/
import Derived.Test.YtadnkbhigcegmaaDoorUm
namespace Go.Proofs.YtadnkbhigcegmaaDoor
open Go.RowKit

/-- What the walks ask of the package-level variables: internal/bytealg.MaxLen holds an int. -/
def G (w : World) : Prop := ∃ m, w.cell? ⟨0, 0, none⟩ = some (.int .i64 m)
theorem G.below {w w' : World} (g : G w) (h : Below w.heap.size w w') : G w' := by
  obtain ⟨m, hm⟩ := g
  exact ⟨m, by rw [h.cell (p := ⟨0, 0, none⟩) (World.block_lt_of_cell? _ _ hm)]; exact hm⟩

/-- The slice v holds the strings M: nil or in a block of strings from B on. -/
def SRowT (B : Nat) (w : World) (v : Value) (M : List (List UInt8)) : Prop :=
  ∃ p cap, v = .slice p M.length cap ∧ M.length ≤ cap ∧ cap ≤ maxLen ∧ (M ≠ [] → ∃ b o cs fz, p = some ⟨b, o, none⟩ ∧ B ≤ b ∧ w.heap[b]? = some (.cells cs 9 fz) ∧ ∀ j (hj : j < M.length), cs[o + j]? = some (sv M[j]))
theorem SRowT.row {B : Nat} {w : World} {v : Value} {M : List (List UInt8)} (h : SRowT B w v M) : SRow w v M := by
  obtain ⟨p, cap, rfl, hc, hm, h⟩ := h
  refine ⟨p, cap, rfl, hc, hm, fun hL => ?_⟩
  obtain ⟨b, o, cs, fz, rfl, hB, hb, hcell⟩ := h hL
  exact ⟨b, o, rfl, (Array.getElem?_eq_some_iff.1 hb).1, fun j hj => by rw [cell_of_row w b (o + j) cs _ fz hb]; exact hcell j hj⟩
theorem SRowT.kept {B : Nat} {w w' : World} {v : Value} {M : List (List UInt8)} (h : SRowT B w v M) (hk : ∀ b cs fz, B ≤ b → w.heap[b]? = some (.cells cs 9 fz) → w'.heap[b]? = w.heap[b]?) : SRowT B w' v M := by
  obtain ⟨p, cap, rfl, hc, hm, h⟩ := h
  refine ⟨p, cap, rfl, hc, hm, fun hL => ?_⟩
  obtain ⟨b, o, cs, fz, rfl, hB, hb, hcell⟩ := h hL
  exact ⟨b, o, cs, fz, rfl, hB, (hk b cs fz hB hb).trans hb, hcell⟩
theorem SRowT.set {B : Nat} {w : World} {v : Value} {M : List (List UInt8)} (h : SRowT B w v M) (p : Addr) (hp : p.block < B) (u : Value) : SRowT B (w.setCell p u) v M :=
  h.kept fun b _ _ hb _ => Below.heap_setCell w p u b (by omega)
theorem SRowT.below {B : Nat} {w w' : World} {v : Value} {M : List (List UInt8)} (h : SRowT B w v M) (hB : Below w.heap.size w w') : SRowT B w' v M :=
  h.kept fun b _ _ _ hb => hB.block b (Array.getElem?_eq_some_iff.1 hb).1
theorem SRowT.mono {B B' : Nat} {w : World} {v : Value} {M : List (List UInt8)} (h : SRowT B w v M) (hB : B' ≤ B) : SRowT B' w v M := by
  obtain ⟨p, cap, rfl, hc, hm, h⟩ := h
  refine ⟨p, cap, rfl, hc, hm, fun hL => ?_⟩
  obtain ⟨b, o, cs, fz, rfl, hb, h'⟩ := h hL
  exact ⟨b, o, cs, fz, rfl, by omega, h'⟩
theorem SRowT.nil_ (B : Nat) (w : World) : SRowT B w (.slice none 0 0) [] := ⟨none, 0, rfl, Nat.le_refl _, Nat.zero_le _, fun h => absurd rfl h⟩
theorem SRowT.of_own {w : World} {B : Nat} {v : Value} {L : List (List UInt8)} (h : w.ownsRow B 9 1 v L.length (L.map sv)) : SRowT B w v L := by
  have hs := SRow.of_own h
  obtain ⟨h1, h2⟩ := h
  rcases h2 with ⟨rfl, hx⟩ | ⟨g, cap, cur, rfl, hb, hg, hnc, hcm, rest⟩
  · have : L = [] := List.eq_nil_of_length_eq_zero hx
    subst this
    exact SRowT.nil_ B w
  · refine ⟨_, cap, rfl, hnc, hcm, fun hL => ⟨g, 0, cur, (0, 0), rfl, hb, hg, fun j hj => ?_⟩⟩
    obtain ⟨_, _, hv, _, _, h⟩ := hs
    injection hv with hv1 hv2 hv3
    obtain ⟨b, o, hp, _, hc⟩ := h hL
    rw [← hv1] at hp
    injection hp with hp
    injection hp with hp1 hp2
    subst hp1 hp2
    have := hc j hj
    rw [cell_of_row w g (0 + j) cur _ (0, 0) hg] at this
    exact this

theorem Split_any (d : UInt8) (x : List UInt8) (hs : x.length ≤ 100000) (w : World) (g : G w) :
    Calls Tryd.prog 51 #[.string (mk x), .string ⟨#[d]⟩] w fun e w' => ∃ c, e = .returned (.slice (some ⟨w.heap.size, 0, none⟩) (pieces d x).length c) ∧ SRowT w.heap.size w' (.slice (some ⟨w.heap.size, 0, none⟩) (pieces d x).length c) (pieces d x) ∧ Below w.heap.size w w' := by
  obtain ⟨m, hm⟩ := g
  have hp := splitB_pieces d (mk x)
  rw [mk_data] at hp
  have hn : (Lib.splitB ⟨#[d]⟩ 0 (Lib.countB (mk x) ⟨#[d]⟩) (mk x)).length = Lib.countB (mk x) ⟨#[d]⟩ + 1 := Lib.splitB_all ⟨#[d]⟩ (by simp [ByteArray.size]) 0 _ (mk x) rfl
  refine (Tryd.strings_Split (mk x) ⟨#[d]⟩ m w (by rw [mk_size]; omega) hm (by simp [ByteArray.size])).mono ?_
  rintro e w' ⟨rfl, rfl⟩
  generalize Lib.countB (mk x) ⟨#[d]⟩ = c at hp hn ⊢
  generalize Lib.splitB ⟨#[d]⟩ 0 c (mk x) = q at hp hn ⊢
  have hl : (pieces d x).length = c + 1 := by rw [← hp, List.length_map, hn]
  have hle := pieces_len d x
  refine ⟨c + 1, by rw [hl], ⟨_, _, rfl, by omega, by unfold maxLen; omega, fun _ => ⟨w.heap.size, 0, _, (0, 0), rfl, Nat.le_refl _, heap_alloc_new w _, fun j hj => ?_⟩⟩, (Below.refl _ _).alloc (Nat.le_refl _) _⟩
  rw [Nat.zero_add]
  have hjq : j < q.length := by omega
  have hv : (pieces d x)[j]'(by omega) = q[j].data.toList := by simp only [← hp, List.getElem_map]
  rw [hv, List.getElem?_toArray, List.getElem?_map, List.getElem?_eq_getElem hjq]
  simp only [Option.map_some, sv, mk_of]

theorem data_get (s : ByteArray) (k : Nat) (h : k < s.size) : s.data.toList[k]'(by rw [Array.length_toList]; exact h) = s[k] := by simp [Array.getElem_toList]; rfl
/-- Where the reference's Parts stands: the parts that lie before fr are done; no slash from fr to k. -/
def PRel (d : UInt8) (l : List UInt8) (fr k : Nat) (done : List (List UInt8)) : Prop :=
  (k ≤ l.length → pieces d l = done ++ pieces d (l.drop fr) ∧ d ∉ (l.drop fr).take (k - fr)) ∧ (k = l.length + 1 → pieces d l = done)
theorem PRel_start (d : UInt8) (l : List UInt8) : PRel d l 0 0 [] := ⟨fun _ => ⟨by simp, by simp⟩, fun h => by omega⟩
theorem PRel_go {d : UInt8} {l : List UInt8} {fr k : Nat} {done : List (List UInt8)} (hf : fr ≤ k) (hk : k < l.length) (hc : l[k] ≠ d) (h : PRel d l fr k done) : PRel d l fr (k + 1) done := by
  refine ⟨fun _ => ⟨(h.1 (by omega)).1, ?_⟩, fun h => by omega⟩
  rw [show k + 1 - fr = (k - fr) + 1 by omega, List.take_succ_eq_append_getElem (by simp; omega)]
  simp only [List.mem_append, List.mem_singleton, not_or]
  refine ⟨(h.1 (by omega)).2, ?_⟩
  rw [List.getElem_drop]
  simp only [show fr + (k - fr) = k by omega]
  exact fun e => hc e.symm
theorem PRel_cut {d : UInt8} {l : List UInt8} {fr k : Nat} {done : List (List UInt8)} (hf : fr ≤ k) (hk : k < l.length) (hc : l[k] = d) (h : PRel d l fr k done) : PRel d l (k + 1) (k + 1) (done ++ [(l.drop fr).take (k - fr)]) := by
  obtain ⟨h1, h2⟩ := h.1 (by omega)
  refine ⟨fun _ => ⟨?_, by simp⟩, fun h => by omega⟩
  rw [h1, List.append_assoc]
  congr 1
  have e : l.drop fr = (l.drop fr).take (k - fr) ++ d :: l.drop (k + 1) := by
    conv => lhs; rw [← List.take_append_drop (k - fr) (l.drop fr)]
    rw [List.drop_drop, show fr + (k - fr) = k by omega, List.drop_eq_getElem_cons hk, hc]
  conv => lhs; rw [e]
  rw [pieces_app, pieces_plain _ _ h2]
theorem PRel_end {d : UInt8} {l : List UInt8} {fr : Nat} {done : List (List UInt8)} (hf : fr ≤ l.length) (h : PRel d l fr l.length done) : PRel d l (l.length + 1) (l.length + 1) (done ++ [(l.drop fr).take (l.length - fr)]) := by
  obtain ⟨h1, h2⟩ := h.1 (by omega)
  refine ⟨fun h => by omega, fun _ => ?_⟩
  rw [List.take_of_length_le (by simp)] at h2 ⊢
  rw [h1, pieces_plain _ _ h2]
theorem extract_mk (s : ByteArray) (a b : Nat) : Value.string (s.extract a b) = sv ((s.data.toList.drop a).take (b - a)) := by
  unfold sv
  rw [← Lib.extract_data, mk_of]

set_option maxRecDepth 100000 in
set_option maxHeartbeats 1600000 in
theorem partsB_any (d : UInt8) (dv : Int) (hdv : dv = (d.toNat : Int)) (s : ByteArray) (hs : s.size ≤ 100000) (w : World) :
    Calls Tryd.prog 43 #[.string s, .int .u8 dv] w fun e w' => ∃ v, e = .returned v ∧ w'.ownsRow w.heap.size 9 1 v (pieces d s.data.toList).length ((pieces d s.data.toList).map sv) ∧ Below w.heap.size w w' := by
  obtain ⟨i0, hi, hz0, hz1, hz2⟩ := info_parts info_str
  have hsz : s.data.toList.length = s.size := by rw [Lib.size_eq]
  have HSZ := Lib.hid hsz
  have HEX := fun a b => Lib.hid (extract_mk s a b)
  have HDV := Lib.hid hdv
  clear hsz hdv
  go_enter Tryd.func43, Tryd.ntmps43
  go_wp2
  go_loopw [5, 6, 7] (fun vo vf vi wr => ∃ (k fr : Nat) (done : List (List UInt8)), vi = .int .i64 (k : Int) ∧ vf = .int .i64 (fr : Int) ∧ k ≤ s.size + 1 ∧ fr ≤ k ∧ done.length ≤ fr ∧ wr.ownsRow w.heap.size 9 1 vo done.length (done.map sv) ∧ Below w.heap.size w wr ∧ Hid (PRel d s.data.toList fr k done))
    (fun _ _ vi _ => s.size + 2 - (intOf vi).toNat)
  case atStart => exact ⟨0, 0, [], rfl, rfl, by omega, by omega, by simp, World.ownsRow_nil _ _ _ _, Below.refl _ _, PRel_start _ _⟩
  case round =>
    obtain ⟨k, fr, done, rfl, rfl, hk, hf, hd, hown, hB, hrel⟩ := hrel
    have HO := Lib.hid hown
    have HBL := Lib.hid hB
    have hbs := hB.size
    clear hown hB
    by_cases hke : k = s.size + 1
    · subst hke
      have hend := Lib.hid (hrel.out.2 (by rw [HSZ.out]))
      go_wp2
      go_ret
      refine ⟨_, rfl, ?_, HBL.out⟩
      rw [hend.out]
      exact HO.out
    by_cases hkn : k < s.size
    · by_cases hc : (s[k].toNat : Int) = dv
      · have hc2 : ((s[k].toNat : Int) == dv) = true := by rw [hc]; simp
        have hc3 : s.data.toList[k]'(by rw [HSZ.out]; exact hkn) = d := by rw [data_get s k hkn]; apply UInt8.toNat.inj; have := HDV.out; omega
        have HR := Lib.hid (PRel_cut hf (by rw [HSZ.out]; exact hkn) hc3 hrel.out)
        have hkne : ((k : Int) == (s.size : Int)) = false := by simp; omega
        clear hc hc3
        go_wp2_with (at_builtin; refine wpList_append_own _ rfl (.tmp 25) (.tmp 30) 30 rfl w.heap.size 9 i0 (.string ⟨#[]⟩) 1 16 Tryd.underlying30 hi hz0 hz1 hz2 rfl (by decide) _ _ _ rfl (HO.out.alloc _) ⟨wr.heap.size, 0, none⟩ 1 1 [.string (s.extract fr k)] rfl rfl (cell_one_new _ _ _) (by intro u hu; simp at hu; subst hu; rfl) (by unfold maxLen; omega) (by omega) (by simp; omega) ?_; intro v' w1 hown' hgrow _)
        have HB1 := Lib.hid ((HBL.out.alloc hbs _).grown hgrow (by simp; omega) (fun k' hk' => (HO.out.lt k' hk').1))
        have HO1 := Lib.hid hown'
        clear hown' hgrow
        go_wp2
        refine ⟨⟨k + 1, k + 1, done ++ [(s.data.toList.drop fr).take (k - fr)], by go_num, by go_num, by omega, by omega, by simp; omega, ?_, HB1.out, HR.out⟩, by simp [intOf]; omega⟩
        have e := HO1.out
        rw [(HEX fr k).out] at e
        rw [List.length_append, List.map_append]; exact e
      · have hc2 : ((s[k].toNat : Int) == dv) = false := by simpa using hc
        have hc3 : s.data.toList[k]'(by rw [HSZ.out]; exact hkn) ≠ d := by rw [data_get s k hkn]; intro e; rw [e] at hc; exact hc HDV.out.symm
        have HR := Lib.hid (PRel_go hf (by rw [HSZ.out]; exact hkn) hc3 hrel.out)
        have hkne : ((k : Int) == (s.size : Int)) = false := by simp; omega
        clear hc hc3
        go_wp2
        exact ⟨⟨k + 1, fr, done, by go_num, rfl, by omega, by omega, by omega, HO.out, HBL.out, HR.out⟩, by simp [intOf]; omega⟩
    · have hkz : k = s.size := by omega
      subst hkz
      have hr := hrel.out
      rw [← HSZ.out] at hr
      have hr2 := PRel_end (by rw [HSZ.out]; exact hf) hr
      rw [HSZ.out] at hr2
      have HR := Lib.hid hr2
      clear hr hr2
      go_wp2_with (at_builtin; refine wpList_append_own _ rfl (.tmp 25) (.tmp 30) 30 rfl w.heap.size 9 i0 (.string ⟨#[]⟩) 1 16 Tryd.underlying30 hi hz0 hz1 hz2 rfl (by decide) _ _ _ rfl (HO.out.alloc _) ⟨wr.heap.size, 0, none⟩ 1 1 [.string (s.extract fr s.size)] rfl rfl (cell_one_new _ _ _) (by intro u hu; simp at hu; subst hu; rfl) (by unfold maxLen; omega) (by omega) (by simp; omega) ?_; intro v' w1 hown' hgrow _)
      have HB1 := Lib.hid ((HBL.out.alloc hbs _).grown hgrow (by simp; omega) (fun k' hk' => (HO.out.lt k' hk').1))
      have HO1 := Lib.hid hown'
      clear hown' hgrow
      go_wp2
      refine ⟨⟨s.size + 1, s.size + 1, done ++ [(s.data.toList.drop fr).take (s.size - fr)], by go_num, by go_num, by omega, by omega, by simp; omega, ?_, HB1.out, HR.out⟩, by simp [intOf]⟩
      have e := HO1.out
      rw [(HEX fr s.size).out] at e
      rw [List.length_append, List.map_append]; exact e

theorem parts_any (d : UInt8) (dv : Int) (hdv : dv = (d.toNat : Int)) (x : List UInt8) (hs : x.length ≤ 100000) (w : World) :
    Calls Tryd.prog 43 #[.string (mk x), .int .u8 dv] w fun e w' => ∃ q c, e = .returned (.slice q (pieces d x).length c) ∧ w'.ownsRow w.heap.size 9 1 (.slice q (pieces d x).length c) (pieces d x).length ((pieces d x).map sv) ∧ Below w.heap.size w w' := by
  refine (partsB_any d dv hdv (mk x) (by rw [mk_size]; exact hs) w).mono ?_
  rintro e w' ⟨v, rfl, hown, hB⟩
  rw [mk_data] at hown
  obtain ⟨p, cap, rfl, _⟩ := SRow.of_own hown
  exact ⟨p, cap, rfl, hown, hB⟩
end Go.Proofs.YtadnkbhigcegmaaDoor
