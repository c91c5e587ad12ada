/-
  Lists of strings in memory: strings.Join, slices.Reverse.
-/
import Derived.Test.YtalhkoolpnmcdaaBf
import Derived.Test.YtalhkoolpnmcdaaShelf
import Derived.Test.YtalhkoolpnmcdaaAn
import Derived.Maps.AppendAt
import Derived.OwnWalk
import Derived.RangeFuncOwn
namespace Go.Proofs.Ytalhkoolpnmcdaa
open Go.RowKit Go.Lib Go.Sort

def sv (x : List UInt8) : Value := .string (mk x)
theorem mk_slash (l : List UInt8) : (⟨#[47]⟩ : ByteArray) ++ mk l = mk (47 :: l) := mk_app [47] l
/-- The slice v holds the strings L, in blocks that lie below the world's size. -/
def SRow (w : World) (v : Value) (L : List (List UInt8)) : Prop :=
  ∃ p cap, v = .slice p L.length cap ∧ L.length ≤ cap ∧ cap ≤ maxLen ∧ (L ≠ [] → ∃ b o, p = some ⟨b, o, none⟩ ∧ b < w.heap.size ∧ ∀ j (hj : j < L.length), w.cell? ⟨b, o + j, none⟩ = some (sv L[j]))
theorem SRow.below {w w' : World} {v : Value} {L : List (List UInt8)} (h : SRow w v L) (hB : Below w.heap.size w w') : SRow w' v L := by
  obtain ⟨p, cap, rfl, hc, hm, h⟩ := h
  refine ⟨p, cap, rfl, hc, hm, fun hL => ?_⟩
  obtain ⟨b, o, rfl, hb, hcell⟩ := h hL
  exact ⟨b, o, rfl, Nat.lt_of_lt_of_le hb hB.size, fun j hj => by rw [hB.cell (p := ⟨b, o + j, none⟩) hb]; exact hcell j hj⟩
theorem SRow.nil_ (w : World) : SRow w (.slice none 0 0) [] := ⟨none, 0, rfl, Nat.le_refl _, Nat.zero_le _, fun h => absurd rfl h⟩
theorem SRow.of_own {w : World} {B : Nat} {e : TypeId} {v : Value} {L : List (List UInt8)} (h : w.ownsRow B e 1 v L.length (L.map sv)) : SRow w v L := by
  obtain ⟨h1, h2⟩ := h
  rcases h2 with ⟨rfl, hx⟩ | ⟨g, cap, cur, rfl, hb, hg, hnc, hcm, rest⟩
  · have : L = [] := List.eq_nil_of_length_eq_zero hx
    subst this
    exact SRow.nil_ w
  · refine ⟨some ⟨g, 0, none⟩, cap, rfl, hnc, hcm, fun _ => ⟨g, 0, rfl, ?_, fun j hj => ?_⟩⟩
    · exact (Array.getElem?_eq_some_iff.1 hg).1
    · have := World.ownsRow.cells (w := w) (base := B) (e := e) (size := 1) (n := L.length) (xs := L.map sv) (v := .slice (some ⟨g, 0, none⟩) L.length cap) ⟨h1, .inr ⟨g, cap, cur, rfl, hb, hg, hnc, hcm, rest⟩⟩ rfl j (sv L[j]) (by simp [hj])
      rw [add_at] at this
      exact this
theorem info_str : (Try.prog.info? 9).map (fun i => (i.zero, i.size, i.bytes)) = some (some (.string ⟨#[]⟩), 1, 16) := by kernel_rfl
theorem Join_lib (v : Value) (L : List (List UInt8)) (w : World) (h : SRow w v L) (hlen : (joinL L).length ≤ 1000000) :
    Calls Try.prog 51 #[v, .string ⟨#[47]⟩] w fun e w' => e = .returned (.string (mk (joinL L))) ∧ Below w.heap.size w w' := by
  obtain ⟨p, cap, rfl, hc, hm, h⟩ := h
  by_cases h0 : L = []
  · subst h0
    refine (Try.strings_Join_none p cap ⟨#[47]⟩ w).mono ?_
    rintro e w' ⟨rfl, rfl⟩
    exact ⟨rfl, Below.refl _ _⟩
  · obtain ⟨b, o, rfl, hb, hcell⟩ := h h0
    have e : ((L.map mk).map (·.data.toList)) = L := by
      rw [List.map_map]
      conv => rhs; rw [← List.map_id L]
      apply List.map_congr_left
      intro x _
      exact mk_data x
    have hl : L.length ≤ sumL L := len_le_sumL L
    have hj := sumL_join L h0
    have J := Try.strings_Join b o cap (L.map mk) ⟨#[47]⟩ w (fun j x hx => by
      rw [List.getElem?_map] at hx
      by_cases hj : j < L.length
      · rw [List.getElem?_eq_getElem hj] at hx
        simp only [Option.map_some, Option.some.injEq] at hx
        rw [← hx]
        exact hcell j hj
      · rw [List.getElem?_eq_none (by omega)] at hx; cases hx) hb (by simp; omega) (by simpa using hc) (by rw [e]; show (joinL L).length ≤ _; omega)
    rw [e, List.length_map] at J
    exact J

theorem Reverse_lib (B : Nat) (v : Value) (L : List (List UInt8)) (w : World) (h : w.ownsRow B 9 1 v L.length (L.map sv)) (hl : L.length ≤ 1000000) :
    Calls Try.prog 50 #[v] w fun e w' => e = .returned (.tuple #[]) ∧ SRow w' v L.reverse ∧ Below B w w' ∧ KeepsOthers w w' := by
  obtain ⟨h1, h2⟩ := h
  rcases h2 with ⟨rfl, hx⟩ | ⟨g, cap, cur, rfl, hb, hg, hnc, hcm, hsz, htk⟩
  · have : L = [] := List.eq_nil_of_length_eq_zero hx
    subst this
    refine (Try.slices_Reverse_string_empty none 0 w).mono ?_
    rintro e w' ⟨rfl, rfl⟩
    exact ⟨rfl, SRow.nil_ _, Below.refl _ _, KeepsOthers.refl _⟩
  · have hcells : ∀ i, i < L.length → w.cell? ⟨g, 0 + i, none⟩ = some (.string (mk (L.getD i []))) := fun i hi => by
      have h3 : cur.toList[i]? = some (.string (mk (L.getD i []))) := by
        have h4 : (cur.toList.take (L.length * 1))[i]? = (L.map sv)[i]? := by rw [htk]
        rw [List.getElem?_take_of_lt (by omega), List.getElem?_map, List.getElem?_eq_getElem hi] at h4
        rw [h4]
        simp [sv, List.getD_eq_getElem?_getD, List.getElem?_eq_getElem hi]
      rw [Nat.zero_add, Joins.cell_of_block hg i]
      simpa using h3
    refine (Try.slices_Reverse_string_cells g 0 L.length cap (fun i => mk (L.getD i [])) w (by omega) hcells (fun j _ => by simp [World.frozen?, hg])).mono ?_
    rintro e w' ⟨rfl, q, rfl⟩
    have hS : (Lib.strsOf (fun i => mk (L.getD i [])) L.length) = L := by
      unfold Lib.strsOf
      apply List.ext_getElem (by simp)
      intro i h1 h2
      simp [mk_data, List.getD_eq_getElem?_getD, List.getElem?_eq_getElem h2]
    rw [hS]
    have hg' : (w.drewN q).heap[g]? = some (.cells cur 9 (0, 0)) := hg
    obtain ⟨cur', a, b, c, d, e⟩ := setCells_row (L.reverse.map encStr) 0 cur hg' (by simp; omega)
    refine ⟨rfl, ⟨some ⟨g, 0, none⟩, cap, by rw [List.length_reverse], by rw [List.length_reverse]; exact hnc, hcm, fun _ => ⟨g, 0, rfl, (Array.getElem?_eq_some_iff.1 a).1, fun j hj => ?_⟩⟩, below_setCells (below_drewN (Below.refl B w) q) hb 0 _, ⟨by rw [(setCells_rest g _ 0 (w.drewN q)).2.2.2]; exact Nat.le_refl _, fun k o hk ho => (setCells_heap g _ 0 (w.drewN q) k (fun e => ?_)).trans hk⟩⟩
    rotate_left
    · rw [e, hg] at hk; cases hk; cases ho
    have := d j (by simpa using hj)
    rw [Nat.zero_add, Joins.cell_of_block a j]
    rw [Nat.zero_add] at this
    rw [this, List.getElem?_map, List.getElem?_eq_getElem hj]
    rfl
end Go.Proofs.Ytalhkoolpnmcdaa
