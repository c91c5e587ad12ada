/-
  Lists alone: Right's condition is validity.
-/
import Derived.Test.YtalhkoolpnmcdaaBk
import Derived.Test.YtalhkoolpnmcdaaBh
namespace Go.Proofs.Ytalhkoolpnmcdaa
open Go.RowKit

theorem getN_in {L : List ND} {k : Nat} (h : k < L.length) : getN L k ∈ L := by rw [← getN_get h]; exact List.getElem_mem h
theorem in_getN {L : List ND} {n : ND} (h : n ∈ L) : ∃ k, k < L.length ∧ getN L k = n := by
  obtain ⟨k, hk, e⟩ := List.getElem_of_mem h
  exact ⟨k, hk, by rw [← getN_get hk]; exact e⟩
theorem pair_getN {L : List ND} {R : ND → ND → Prop} : L.Pairwise R ↔ ∀ i j, j < L.length → i < j → R (getN L i) (getN L j) := by
  rw [List.pairwise_iff_getElem]
  constructor
  · intro h i j hj hij
    have := h i j (by omega) hj hij
    rwa [getN_get (by omega), getN_get hj] at this
  · intro h i j hi hj hij
    rw [getN_get hi, getN_get hj]
    exact h i j hj hij
theorem right_vld {nx : Int} {L : List ND} (h : Vld nx L) : RightP nx L := by
  obtain ⟨r, R, hL, r1, r2, r3, r4⟩ := h.root
  have h0 : getN L 0 = r := by rw [hL]; rfl
  have hpos : 0 < L.length := h.ne
  have hs := pair_getN.1 h.sort
  have hu := pair_getN.1 h.uni
  have hid : ∀ k, 1 ≤ k → k < L.length → (getN L k).id ≠ 1 := fun k h1 hk => by
    have := hs 0 k hk (by omega)
    rw [h0, r1] at this; omega
  refine ⟨hpos, h.len, ?_, fun k h1 hk => ?_, h.ids _ (getN_in (by omega)), h.nxt⟩
  · rw [h0]
    unfold rootB
    simp only [Bool.and_eq_true, decide_eq_true_eq]
    exact ⟨⟨r1, r2, r3⟩, r4, h.fld r (by rw [hL]; simp)⟩
  · obtain ⟨p1, p2, p, hp, p3, p4⟩ := h.par _ (getN_in hk) (hid k h1 hk)
    refine ⟨hs (k - 1) k hk (by omega), ?_, p2, ?_, h.fld _ (getN_in hk)⟩
    · obtain ⟨j, hj, rfl⟩ := in_getN hp
      refine ⟨j, ?_, p3, (dbit_dir (fieldsB_iff.1 (h.fld _ hp)).1).trans p4⟩
      by_cases e : j < k
      · exact e
      · exfalso
        by_cases e2 : j = k
        · subst e2; omega
        · have := hs k j hj (by omega); omega
    · rintro ⟨j, j1, jk, e1, e2⟩
      exact hu j k hk jk (hid j j1 (by omega)) (hid k h1 hk) e1 e2
theorem vld_right {nx : Int} {L : List ND} (h : RightP nx L) : Vld nx L := by
  obtain ⟨h0, h1, hr, hp, hx, hn⟩ := h
  unfold rootB at hr
  simp only [Bool.and_eq_true, decide_eq_true_eq] at hr
  obtain ⟨⟨r1, r2, r3⟩, r4, r5⟩ := hr
  have hs : ∀ i j, j < L.length → i < j → (getN L i).id < (getN L j).id := fun i j hj hij => rise_lt (k := j) (fun k k1 k2 => (hp k k1 (by omega)).1) i hij
  have hf : ∀ k, k < L.length → fieldsB (getN L k) = true := fun k hk => by
    by_cases e : k = 0
    · subst e; exact r5
    · exact (hp k (by omega) hk).2.2.2.2
  have hk1 : ∀ k, k < L.length → (getN L k).id ≠ 1 → 1 ≤ k := fun k hk hne => by
    by_cases e : k = 0
    · subst e; exact absurd r1 hne
    · omega
  refine ⟨h1, hn, ?_, pair_getN.2 hs, fun n hm => ?_, fun n hm => ?_, fun n hm hne => ?_, pair_getN.2 fun i j hj hij a b e1 e2 => ?_⟩
  · cases L with
    | nil => simp at h0
    | cons r R => exact ⟨r, R, rfl, r1, r2, r3, r4⟩
  · obtain ⟨k, hk, rfl⟩ := in_getN hm
    by_cases e : k = L.length - 1
    · rw [e]; exact hx
    · have := hs k (L.length - 1) (by omega) (by omega); omega
  · obtain ⟨k, hk, rfl⟩ := in_getN hm
    exact hf k hk
  · obtain ⟨k, hk, rfl⟩ := in_getN hm
    obtain ⟨_, ⟨j, hj, e1, e2⟩, p3, _, _⟩ := hp k (hk1 k hk hne) hk
    refine ⟨by have := hs j k hk hj; omega, p3, getN L j, getN_in (by omega), e1, ?_⟩
    exact (dbit_dir (fieldsB_iff.1 (hf j (by omega))).1).symm.trans e2
  · exact (hp j (hk1 j hj b) hj).2.2.2.1 ⟨i, hk1 i (by omega) a, hij, e1, e2⟩
theorem vld_in {nx : Int} {L : List ND} (h : Vld nx L) {n : ND} (hn : n ∈ L) : inN n ∧ bigN n ∧ n.nm.length ≤ 900 := by
  obtain ⟨h1, _, h3, h4⟩ := h.pos hn
  obtain ⟨f1, f2, f3, f4, f5, f6, f7, f8, f9, f10, f11, _⟩ := fieldsB_iff.1 (h.fld n hn)
  have hm : 0 ≤ n.mo ∧ n.mo < 4294967296 := by
    unfold modeB at f1
    simp only [Bool.and_eq_true, decide_eq_true_eq] at f1
    omega
  have hp : 1 ≤ n.pa ∧ n.pa < nx := by
    obtain ⟨p, hp, e, _⟩ := h.parent hn
    have := h.pos hp
    omega
  have hnm : n.nm.length ≤ 900 := by
    by_cases e : n.id = 1
    · have := (h.one hn e).2.1; rw [this]; simp
    · have hv := (h.par n hn e).2.1
      unfold validL at hv
      simp only [Bool.and_eq_true, decide_eq_true_eq] at hv
      omega
  unfold inN bigN inI maxLen
  refine ⟨⟨?_, ?_, ?_, ?_, ?_, ?_⟩, ⟨?_, ?_, ?_, ?_, ?_⟩, hnm⟩ <;> omega
theorem Right_vld {nx : Int} {L : List ND} (v : Value) (w : World) (h : NRow w v L) (hV : Vld nx L) :
    Calls Try.prog 16 #[treeV nx v] w fun e w' => e = .returned (.bool true) ∧ Below w.heap.size w w' := by
  have hm := fun k (hk : k < L.length) => vld_in hV (getN_in hk)
  refine (Right_any nx v L w h (by have := hV.len; omega) (fun k hk => (hm k hk).1) (fun k hk => ⟨(hm k hk).2.1, by have := (hm k hk).2.2; omega⟩)).mono ?_
  rintro e w' ⟨⟨r, rfl, hr⟩, hB⟩
  rw [hr.2 (right_vld hV)]
  exact ⟨rfl, hB⟩
theorem Path_vld {nx : Int} {L : List ND} (v : Value) (d : Int) (w : World) (h : NRow w v L) (hV : Vld nx L) :
    Calls Try.prog 22 #[treeV nx v, .int .i64 d] w fun e w' => e = .returned (.tuple #[.string (mk (pathT L d).1), .int .i64 (pathT L d).2]) ∧ Below w.heap.size w w' :=
  Path_any nx v L d w h hV.rise (by have := hV.len; omega) (join_names L d (fun n hn => (vld_in hV hn).2.2) hV.len)
theorem rightP_iff {nx : Int} {L : List ND} : RightP nx L ↔ Vld nx L := ⟨vld_right, right_vld⟩
end Go.Proofs.Ytalhkoolpnmcdaa
