/-
  Lists of strings in memory; package path's ascend and text.
-/
import Derived.Test.YtoihflkhpbpljaaDoorPb
import Derived.Deep.AppendLies
import Derived.Laws.OwnMore
import Derived.Maps.AppendAt
import Derived.OwnWalk
namespace Go.Proofs.YtoihflkhpbpljaaDoor
open Go.RowKit

theorem add_at (b o j : Nat) : (⟨b, o, none⟩ : Addr).add j = ⟨b, o + j, none⟩ := by
  unfold Addr.add
  split
  · rename_i h; subst h; rfl
  · rfl
def sv (x : List UInt8) : Value := .string (mk x)
theorem mk_app (a b : List UInt8) : mk a ++ mk b = mk (a ++ b) := by
  apply ByteArray.ext
  simp [mk, ByteArray.data_append]
theorem mk_slash (l : List UInt8) : (⟨#[47]⟩ : ByteArray) ++ mk l = mk (47 :: l) := mk_app [47] l

/-- The slice v holds the strings L, in blocks that lie below the world's size. -/
def SRow (w : World) (v : Value) (L : List (List UInt8)) : Prop :=
  ∃ p cap, v = .slice p L.length cap ∧ L.length ≤ cap ∧ cap ≤ maxLen ∧ (L ≠ [] → ∃ b o, p = some ⟨b, o, none⟩ ∧ b < w.heap.size ∧ ∀ j (hj : j < L.length), w.cell? ⟨b, o + j, none⟩ = some (sv L[j]))
theorem SRow.below {w w' : World} {v : Value} {L : List (List UInt8)} (h : SRow w v L) (hB : Below w.heap.size w w') : SRow w' v L := by
  obtain ⟨p, cap, rfl, hc, hm, h⟩ := h
  refine ⟨p, cap, rfl, hc, hm, fun hL => ?_⟩
  obtain ⟨b, o, rfl, hb, hcell⟩ := h hL
  exact ⟨b, o, rfl, Nat.lt_of_lt_of_le hb hB.size, fun j hj => by rw [hB.cell (p := ⟨b, o + j, none⟩) hb]; exact hcell j hj⟩
theorem SRow.nil_ (w : World) : SRow w (.slice none 0 0) [] := ⟨none, 0, rfl, Nat.le_refl _, Nat.zero_le _, fun h => absurd rfl h⟩
theorem SRow.of_own {w : World} {B : Nat} {e : TypeId} {v : Value} {L : List (List UInt8)} (h : w.ownsRow B e 1 v L.length (L.map sv)) : SRow w v L := by
  obtain ⟨h1, h2⟩ := h
  rcases h2 with ⟨rfl, hx⟩ | ⟨g, cap, cur, rfl, hb, hg, hnc, hcm, rest⟩
  · have : L = [] := List.eq_nil_of_length_eq_zero hx
    subst this
    exact SRow.nil_ w
  · refine ⟨some ⟨g, 0, none⟩, cap, rfl, hnc, hcm, fun _ => ⟨g, 0, rfl, ?_, fun j hj => ?_⟩⟩
    · exact (Array.getElem?_eq_some_iff.1 hg).1
    · have := World.ownsRow.cells (w := w) (base := B) (e := e) (size := 1) (n := L.length) (xs := L.map sv) (v := .slice (some ⟨g, 0, none⟩) L.length cap) ⟨h1, .inr ⟨g, cap, cur, rfl, hb, hg, hnc, hcm, rest⟩⟩ rfl j (sv L[j]) (by simp [hj])
      rw [add_at] at this
      exact this
/-- A row of the call's own is nil or lies at the head of a block. -/
theorem own_form {w : World} {B : Nat} {e : TypeId} {v : Value} {L : List (List UInt8)} (h : w.ownsRow B e 1 v L.length (L.map sv)) (hn : L ≠ []) :
    ∃ g cap, v = .slice (some ⟨g, 0, none⟩) L.length cap ∧ B ≤ g ∧ L.length ≤ cap ∧ cap ≤ maxLen ∧ ∀ j (hj : j < L.length), w.cell? ⟨g, j, none⟩ = some (sv L[j]) := by
  obtain ⟨h1, h2⟩ := h
  rcases h2 with ⟨rfl, hx⟩ | ⟨g, cap, cur, rfl, hb, hg, hnc, hcm, rest⟩
  · exact absurd (List.eq_nil_of_length_eq_zero hx) hn
  · refine ⟨g, cap, rfl, hb, hnc, hcm, fun j hj => ?_⟩
    have := World.ownsRow.cells (w := w) (base := B) (e := e) (size := 1) (n := L.length) (xs := L.map sv) (v := .slice (some ⟨g, 0, none⟩) L.length cap) ⟨h1, .inr ⟨g, cap, cur, rfl, hb, hg, hnc, hcm, rest⟩⟩ rfl j (sv L[j]) (by simp [hj])
    rw [add_at] at this
    simpa using this
theorem own_cut {w : World} {B g cap : Nat} {e : TypeId} {L : List (List UInt8)} (k : Nat) (hk : k ≤ L.length) (h : w.ownsRow B e 1 (.slice (some ⟨g, 0, none⟩) L.length cap) L.length (L.map sv)) :
    w.ownsRow B e 1 (.slice (some ⟨g, 0, none⟩) k cap) k ((L.take k).map sv) := by
  obtain ⟨h1, h2⟩ := h
  rcases h2 with ⟨h2, hx⟩ | ⟨g', cap', cur, h2, hb, hg, hnc, hcm, hsz, htk⟩
  · cases h2
  · injection h2 with h2 h3 h4
    injection h2 with h2
    injection h2 with h2
    subst h2 h4
    refine ⟨by simp; omega, .inr ⟨g, cap, cur, rfl, hb, hg, by omega, hcm, hsz, ?_⟩⟩
    rw [List.map_take, ← htk, List.take_take]
    congr 1
    omega
theorem info_str : (Tryd.prog.info? 9).map (fun i => (i.zero, i.size, i.bytes)) = some (some (.string ⟨#[]⟩), 1, 16) := by kernel_rfl
/-- An append's way: only what lies from B on has turned. -/
theorem below_grown {B : Nat} {w w1 : World} {e : TypeId} {v : Value} {n : Nat} {xs : List Value} (o : Obj) (hB : B ≤ w.heap.size) (hown : w.ownsRow B e 1 v n xs) (hg : (w.alloc o).grownBy w1 v.ownBlock) : Below B w w1 :=
  ((Below.refl B w).alloc hB o).grown hg (by simp; omega) (fun k hk => (hown.lt k hk).1)

theorem stepL_up (r : Bool) (acc : List (List UInt8)) : stepL r acc [46, 46] = if acc ≠ [] ∧ acc.getLast? ≠ some [46, 46] then acc.dropLast else if r = true then acc else acc ++ [[46, 46]] := by
  rw [stepL, if_neg (by decide), if_pos rfl]

set_option maxHeartbeats 1600000 in
theorem ascend_any (B : Nat) (acc : List (List UInt8)) (r : Bool) (v : Value) (w : World) (hl : acc.length ≤ 100000) (hB : B ≤ w.heap.size) (hown : w.ownsRow B 9 1 v acc.length (acc.map sv)) :
    Calls Tryd.prog 34 #[v, .bool r] w fun e w' => ∃ v', e = .returned v' ∧ w'.ownsRow B 9 1 v' (stepL r acc [46, 46]).length ((stepL r acc [46, 46]).map sv) ∧ Below B w w' := by
  obtain ⟨i0, hi, hz0, hz1, hz2⟩ := info_parts info_str
  have HO := Lib.hid hown
  by_cases h0 : acc = []
  · subst h0
    obtain ⟨c, hv⟩ : ∃ p c, v = .slice p 0 c := by
      rcases hown.2 with ⟨rfl, _⟩ | ⟨g, cap, cur, rfl, _⟩
      · exact ⟨_, _, rfl⟩
      · exact ⟨_, _, rfl⟩
    obtain ⟨p, rfl⟩ := hv
    clear hown
    cases r with
    | true =>
      go_enter Tryd.func34, Tryd.ntmps34
      go_wp2
      go_ret
      exact ⟨_, rfl, HO.out, Below.refl _ _⟩
    | false =>
      go_enter Tryd.func34, Tryd.ntmps34
      go_wp2_with (at_builtin; refine wpList_append_own _ rfl (.tmp 23) (.tmp 24) 27 rfl B 9 i0 (.string ⟨#[]⟩) 1 16 Tryd.underlying27 hi hz0 hz1 hz2 rfl (by decide) _ _ _ rfl (HO.out.alloc _) ⟨w.heap.size, 0, none⟩ 1 1 [sv [46, 46]] rfl rfl (cell_one_new _ _ _) (by intro u hu; simp at hu; subst hu; rfl) (by unfold maxLen; simp) (by simp) (by simp; omega) ?_; intro v' w1 hown' hgrow _)
      have HO1 := Lib.hid hown'
      have HB1 := Lib.hid (below_grown _ hB HO.out hgrow)
      clear hown' hgrow
      go_wp2
      go_ret
      exact ⟨_, rfl, HO1.out, HB1.out⟩
  · obtain ⟨d, y, rfl⟩ : ∃ d y, acc = d ++ [y] := ⟨acc.dropLast, acc.getLast h0, (List.dropLast_concat_getLast h0).symm⟩
    obtain ⟨g, cap, rfl, hg, hc, hcm, hcell⟩ := own_form hown h0
    clear hown h0
    have hlast := hcell d.length (by simp)
    rw [List.getElem_append_right (by simp)] at hlast
    simp only [Nat.sub_self, List.getElem_singleton] at hlast
    have hst := stepL_up r (d ++ [y])
    have hcut := own_cut d.length (by simp) HO.out
    rw [List.take_left] at hcut
    have hlen : (d ++ [y]).length = d.length + 1 := by simp
    have HC := Lib.hid hcut
    rw [hlen] at hc hl HO ⊢
    have hu : sv y = .string (mk y) := rfl
    rw [hu] at hlast
    have ht := mk_toList y
    clear hcell hcut hu hlen
    by_cases hy : y = [46, 46]
    · have h4 : ((mk y).toList == [46, 46]) = true := by rw [ht, hy]; decide
      rw [if_neg (by simp [hy])] at hst
      have HY := Lib.hid hy
      clear ht hy
      cases r with
      | true =>
        rw [if_pos rfl] at hst
        rw [hst]
        clear hst
        go_enter Tryd.func34, Tryd.ntmps34
        go_wp2
        go_ret
        refine ⟨_, rfl, ?_, Below.refl _ _⟩
        have := HO.out
        simpa using this
      | false =>
        rw [if_neg (by simp)] at hst
        rw [hst]
        clear hst
        go_enter Tryd.func34, Tryd.ntmps34
        go_wp2_with (at_builtin; refine wpList_append_own _ rfl (.tmp 23) (.tmp 24) 27 rfl B 9 i0 (.string ⟨#[]⟩) 1 16 Tryd.underlying27 hi hz0 hz1 hz2 rfl (by decide) _ _ _ rfl (HO.out.alloc _) ⟨w.heap.size, 0, none⟩ 1 1 [sv [46, 46]] rfl rfl (cell_one_new _ _ _) (by intro u hu; simp at hu; subst hu; rfl) (by unfold maxLen; omega) (by omega) (by simp; omega) ?_; intro v' w1 hown' hgrow _)
        have HO1 := Lib.hid hown'
        have HB1 := Lib.hid (below_grown _ hB HO.out hgrow)
        clear hown' hgrow
        go_wp2
        go_ret
        refine ⟨_, rfl, ?_, HB1.out⟩
        have := HO1.out
        simpa using this
    · have h4 : ((mk y).toList == [46, 46]) = false := by rw [ht]; simpa using hy
      rw [if_pos (by simp [hy])] at hst
      have hdl : (d ++ [y]).dropLast = d := by simp
      rw [hdl] at hst
      rw [hst]
      have HY := Lib.hid hy
      clear ht hy hst hdl
      go_enter Tryd.func34, Tryd.ntmps34
      go_wp2
      go_ret
      exact ⟨_, rfl, HC.out, Below.refl _ _⟩
end Go.Proofs.YtoihflkhpbpljaaDoor
