/-
  Walks: edit.
-/
import Derived.Test.YtalhkoolpnmcdaaAq
namespace Go.Proofs.Ytalhkoolpnmcdaa
open Go.RowKit

theorem edT_set {L : List ND} {id : Int} {F : ND → ND} (hr : Rise L) (hh : hasN L id = true) : L.set (posN L id) (F (nodeN L id)) = edT L id F := by
  have hk := hasN_true hh
  have hid := nodeN_id hh
  apply List.ext_getElem
  · simp [edT]
  · intro j h1 h2
    have hj : j < L.length := by simpa using h1
    rw [List.getElem_set]
    simp only [edT, List.getElem_map]
    rw [getN_get hj]
    by_cases e : posN L id = j
    · subst e
      rw [if_pos rfl, if_pos (show (getN L (posN L id)).id = id from hid)]
      rfl
    · rw [if_neg e, if_neg]
      intro hje
      rcases Nat.lt_trichotomy (posN L id) j with hl | hl | hl
      · have := hr _ _ hl hj
        have h3 : (getN L (posN L id)).id = id := hid
        omega
      · exact e hl
      · exact posN_lt hl hje
theorem edT_no {L : List ND} {id : Int} {F : ND → ND} (hh : hasN L id = false) : edT L id F = L := by
  unfold edT
  conv => rhs; rw [← List.map_id L]
  apply List.map_congr_left
  intro n hn
  rw [if_neg]
  · rfl
  · intro e
    have := hasN_iff.2 ⟨n, hn, e⟩
    rw [hh] at this
    cases this
theorem flat_set (L : List ND) (k : Nat) (m : ND) (hk : k < L.length) (j : Nat) : (flatN (L.set k m))[j]? = if k * 11 ≤ j ∧ j < k * 11 + 11 then (cellsN m)[j - k * 11]? else (flatN L)[j]? := by
  by_cases hj : j < L.length * 11
  · have e : j = j / 11 * 11 + j % 11 := by omega
    have h1 := flatN_get (L.set k m) (j / 11) (j % 11) (by simp; omega) (by omega)
    have h2 := flatN_get L (j / 11) (j % 11) (by omega) (by omega)
    rw [← e] at h1 h2
    rw [h1, h2]
    by_cases hq : k = j / 11
    · subst hq
      rw [if_pos (by omega)]
      unfold getN
      rw [List.getD_eq_getElem?_getD, List.getElem?_set_self hk]
      simp only [Option.getD_some]
      congr 1
      omega
    · rw [if_neg (by omega)]
      unfold getN
      rw [List.getD_eq_getElem?_getD, List.getElem?_set_ne hq, ← List.getD_eq_getElem?_getD]
  · rw [if_neg (by omega), List.getElem?_eq_none (by rw [flatN_len]; simp; omega), List.getElem?_eq_none (by rw [flatN_len]; omega)]
theorem NOwn.slot {B : Nat} {w : World} {G cap k : Nat} {L : List ND} (h : NOwn B w (.slice (some ⟨G, 0, none⟩) L.length cap) L) (hk : k < L.length) : ∃ cur, Slot w G (k * 11) cur (getN L k) ∧
    ∀ m w', Done w G (k * 11) cur m w' → NOwn B w' (.slice (some ⟨G, 0, none⟩) L.length cap) (L.set k m) := by
  obtain ⟨h1, h2⟩ := h
  rcases h2 with ⟨h2, hx⟩ | ⟨g, cap', cur, h2, hb, hg, hnc, hcm, hsz, htk⟩
  · cases h2
  · injection h2 with h2 h3 h4
    injection h2 with h2
    injection h2 with h2
    subst h2 h4
    have hle : L.length * 11 ≤ cap * 11 := Nat.mul_le_mul_right _ hnc
    have hcur : ∀ j, j < L.length * 11 → cur[j]? = (flatN L)[j]? := fun j hj => by
      rw [← htk, List.getElem?_take_of_lt hj]; simp
    refine ⟨cur, ⟨hg, by omega, fun j v hv => ?_⟩, fun m w' hD => ?_⟩
    · have hj := (List.getElem?_eq_some_iff.1 hv).1
      rw [cellsN_len] at hj
      rw [hcur _ (by omega), flatN_get L k j hk hj]; exact hv
    · obtain ⟨cur', hs, ht, hgr⟩ := hD
      refine ⟨by rw [flatN_len, List.length_set], .inr ⟨G, cap, cur', by simp, hb, hs.blk, by simpa using hnc, hcm, by rw [ht.1, hsz], ?_⟩⟩
      rw [List.length_set]
      apply List.ext_getElem?
      intro j
      by_cases hj : j < L.length * 11
      · rw [List.getElem?_take_of_lt hj, flat_set L k m hk j]
        rw [show cur'.toList[j]? = cur'[j]? by simp]
        split
        · rename_i hjk
          have hlt : j - k * 11 < (cellsN m).length := by rw [cellsN_len]; omega
          have := hs.at_ (j - k * 11) _ (List.getElem?_eq_getElem hlt)
          rw [show k * 11 + (j - k * 11) = j by omega] at this
          rw [this, List.getElem?_eq_getElem hlt]
        · rw [ht.2 j (by omega), hcur j hj]
      · rw [List.getElem?_take_eq_none (by omega), List.getElem?_eq_none (by rw [flatN_len]; simp; omega)]
theorem NOwn.mono {B B' : Nat} {w : World} {v : Value} {L : List ND} (h : NOwn B w v L) (hb : B' ≤ B) : NOwn B' w v L := by
  obtain ⟨h1, h2⟩ := h
  refine ⟨h1, ?_⟩
  rcases h2 with h2 | ⟨g, cap', cur, h2, hg, rest⟩
  · exact .inl h2
  · exact .inr ⟨g, cap', cur, h2, Nat.le_trans hb hg, rest⟩
theorem NOwn.form {B : Nat} {w : World} {v : Value} {L : List ND} (h : NOwn B w v L) (h0 : 0 < L.length) : ∃ G cap, v = .slice (some ⟨G, 0, none⟩) L.length cap ∧ B ≤ G ∧ G < w.heap.size ∧ (L.length : Int) ≤ (cap : Int) ∧ (cap : Int) ≤ 9223372036854775807 := by
  obtain ⟨h1, h2⟩ := h
  rcases h2 with ⟨h2, hx⟩ | ⟨g, cap', cur, h2, hb, hg, hnc, hcm, hsz, htk⟩
  · omega
  · unfold maxLen at hcm
    exact ⟨g, cap', h2, hb, (Array.getElem?_eq_some_iff.1 hg).1, by omega, by omega⟩
/-- A tree is laid into a new block. -/
theorem layT {B : Nat} {w w2 : World} {nx : Int} {v : Value} (hB : Below B w w2) (hs : B ≤ w2.heap.size) : ∃ W3, w2.alloc (.cells #[.int .i64 nx, v] 26) = W3 ∧ Below B w W3 ∧ Below w2.heap.size w2 W3 ∧ BlkT W3 w2.heap.size nx v ∧ W3.heap.size = w2.heap.size + 1 :=
  ⟨_, rfl, hB.alloc hs _, (Below.refl _ w2).alloc (Nat.le_refl _) _, BlkT.new w2 nx v, by simp⟩
theorem Done.only {W w' : World} {G o : Nat} {cur : Array Value} {m : ND} (h : Done W G o cur m w') : W.grownBy w' (some G) := by obtain ⟨_, _, _, h⟩ := h; exact h
theorem BlkT.grown {w w' : World} {b G : Nat} {nx : Int} {v : Value} (h : BlkT w b nx v) (hg : w.grownBy w' (some G)) (hb : b ≠ G) : BlkT w' b nx v := (hg.block b h.lt (fun e => hb (by injection e))).trans h
theorem hE4 {g : Nat} {lb : Array Value} {F : ND → ND} {w W : World} (h : Edits g lb F w) {G o : Nat} {cur : Array Value} {n : ND} (hB : Below w.heap.size w W) (hG : w.heap.size ≤ G) (hS : Slot W G o cur n) (h0 : 0 ≤ n.ve) (h1 : n.ve ≤ 2147483647) :
    Calls Try.prog g (#[.pointer (some ⟨G, o, none⟩)] ++ lb) W fun e w' => e = .returned (.tuple #[]) ∧ Done W G o cur (F n) w' := h W G o cur n hB hG hS h0 h1

theorem edit_mid {w w4 w5 : World} {b1 b2 G o B : Nat} {cur : Array Value} {m : ND} {n1 n2 : Int} {v v1 v2 : Value} {L : List ND} {k : Nat} (hD : Done w4 G o cur m w5) (hP : ∀ m w', Done w4 G o cur m w' → NOwn B w' v (L.set k m)) (hB : Below w.heap.size w w4) (hU : BlkT w4 b1 n1 v1) (hT : BlkT w4 b2 n2 v2) (hG : w.heap.size ≤ G) (h1 : b1 ≠ G) (h2 : b2 ≠ G) :
    Hid (NOwn B w5 v (L.set k m)) ∧ Hid (Below w.heap.size w w5) ∧ Hid (BlkT w5 b1 n1 v1) ∧ Hid (BlkT w5 b2 n2 v2) :=
  ⟨hP _ _ hD, hB.grown hD.only hB.size (fun k hk => by injection hk with hk; omega), hU.grown hD.only h1, hT.grown hD.only h2⟩
set_option maxRecDepth 100000 in
set_option maxHeartbeats 6400000 in
theorem edit_any (g : Nat) (lb : Array Value) (F : ND → ND) (eg : ∀ args w, (callFunc g args).run Try.prog w = .ok (.enter g args) w) (nx : Int) (v : Value) (L : List ND) (id : Int) (w : World) (h : NRow w v L) (hr : Rise L) (h0 : 0 < L.length) (hl : L.length ≤ 1000000)
    (hve : ∀ n ∈ L, 0 ≤ n.ve ∧ n.ve ≤ 2147483647) (hE : Edits g lb F w) :
    Calls Try.prog 70 #[treeV nx v, .int .i64 id, .func (.func g) #[] lb] w fun e w' => GivesT nx (edT L id F) w e w' := by
  obtain ⟨W, hW, hB0, hs0, hT0, hU0⟩ := start_tt w nx v
  have hC := Lib.hid (copied_any nx v L W (h.below hB0) h0 hl)
  have hI := Lib.hid (fun v' W' (hR : NRow W' v' L) => index_any nx v' L id W' hR hr hl)
  have hy := fun hh => edT_set (L := L) (id := id) (F := F) hr hh
  have hn := fun hh => edT_no (L := L) (id := id) (F := F) hh
  have hlt := fun hh => hasN_true (L := L) (id := id) hh
  have hvv := fun hh => hve _ (nodeN_mem (L := L) (id := id) hh)
  have hnd : nodeN L id = getN L (posN L id) := rfl
  rw [hnd] at hvv hy
  generalize edT L id F = M at hy hn ⊢
  replace hW := Lib.hid hW
  have HB0 := Lib.hid hB0
  have hs := Lib.hid hs0
  have HT := Lib.hid hT0
  have HUt := Lib.hid hU0
  have HE := Lib.hid hE
  obtain ⟨q, cap, rfl, hc, hm, _⟩ := h
  unfold treeV at hC hI ⊢
  clear hB0 hs0 hT0 hU0 hE hr hve hnd hc hm
  go_enter Try.func70, Try.ntmps70
  go_wp2_with ((first | simp only [hW.out] | skip); refine wpList_load_row rfl 26 _ rfl w.heap.size rfl 26 #[.int .i64 nx, .slice q L.length cap] (0, 0) _ HT.out Try.underlying26 rfl (by kernel_rfl) ?_)
  refine hC.out.mono ?_
  rintro e w2 ⟨v', rfl, hO2, hB2⟩
  have hB2' := HB0.out.trans (hB2.mono HB0.out.size)
  have hsz2 := hB2.size
  rw [hs.out] at hsz2
  obtain ⟨G, cap', rfl, hG1, hG2, hcl, hcm⟩ := hO2.form h0
  obtain ⟨W3, hW3, hB3, hb3, hT3, hs3⟩ := layT (nx := nx) (v := .slice (some ⟨G, 0, none⟩) L.length cap') hB2' (by omega)
  have HO3 := hO2.below hb3
  have HU3 := Lib.hid ((HUt.out.below hB2 (by rw [hs.out]; omega)).below hb3 (by omega))
  have HI3 := Lib.hid (hI.out _ W3 HO3.row)
  rw [hs.out] at hG1
  replace hW3 := Lib.hid hW3
  replace hB3 := Lib.hid hB3
  have HT3 := Lib.hid hT3
  replace hs3 := Lib.hid hs3
  replace HO3 := Lib.hid HO3
  unfold treeV
  clear hB2 hB2' hb3 hO2 hC hI HT HUt hT3
  go_wp2_with (first
    | (refine wpList_store_row rfl 26 _ _ rfl w2.heap.size #[.int .i64 nx, .slice (some ⟨G, 0, none⟩) L.length cap'] rfl rfl 26 #[.int .i64 0, .slice none 0 0] (heap_alloc_new w2 _) (by kernel_rfl) rfl (treeA_one _ _ _ _) ?_; rw [World.setRow_alloc_new, hW3.out])
    | (refine wpList_load_row rfl 26 _ rfl w2.heap.size rfl 26 #[.int .i64 nx, .slice (some ⟨G, 0, none⟩) L.length cap'] (0, 0) _ HT3.out Try.underlying26 rfl (by kernel_rfl) ?_))
  refine HI3.out.mono ?_
  rintro e w4 ⟨⟨k, rfl, hk⟩, hB4⟩
  have hB4' := hB3.out.trans (hB4.mono hB3.out.size)
  have hsz4 := hB4.size
  rw [hs3.out] at hsz4
  have HO4 := Lib.hid (HO3.out.below hB4)
  have HU4 := Lib.hid (HU3.out.below hB4 (by rw [hs3.out]; omega))
  have hT4 := HT3.out.below hB4 (by rw [hs3.out]; omega)
  have c1 := hT4.c1
  have HT4 := Lib.hid hT4
  have HB4 := Lib.hid hB4'
  clear hB4 hB4' hT4 HI3 HO3 HU3 HT3 hW3 hs3
  generalize hasN L id = hb at *
  cases hb
  · have hM := Lib.hid (hn rfl)
    clear hn hy hlt hvv hk
    go_wp2_with (first
      | (refine wpList_load_row rfl 26 _ rfl w2.heap.size rfl 26 #[.int .i64 nx, .slice (some ⟨G, 0, none⟩) L.length cap'] (0, 0) _ HT4.out Try.underlying26 rfl (by kernel_rfl) ?_)
      | (refine wpList_store_row rfl 26 _ _ rfl (w.heap.size + 1) #[.int .i64 nx, .slice (some ⟨G, 0, none⟩) L.length cap'] rfl rfl 26 #[.int .i64 0, .slice none 0 0] HU4.out (by kernel_rfl) rfl (treeA_one _ _ _ _) ?_))
    refine bodyPost_ret (results_tree (b := w.heap.size + 1) (nx := nx) (v := .slice (some ⟨G, 0, none⟩) L.length cap') rfl rfl (setRow_heap _ _ _ _ _ _ HU4.out)) rfl ?_
    rw [hM.out]
    refine ⟨_, rfl, own_setRow (k := w.heap.size + 1) ?_ (by simp [Value.ownBlock]; omega) _, below_setRow (g := w.heap.size + 1) HB4.out (Nat.le_succ _) _⟩
    exact NOwn.mono HO4.out (by rw [hs.out]; omega)
  · obtain rfl := hk rfl
    have hkl := hlt rfl
    have hM := Lib.hid (hy rfl)
    obtain ⟨v0, v1⟩ := hvv rfl
    obtain ⟨cur, hS, hput⟩ := HO4.out.slot hkl
    have HF := Lib.hid (hE4 (HE.out) HB4.out (by omega) hS v0 v1)
    have HP := Lib.hid hput
    have k0 : (0 : Int) ≤ (posN L id : Int) := by omega
    have k1 : (posN L id : Int) < (L.length : Int) := by omega
    clear hn hy hlt hvv hk hS hput v0 v1 hkl
    go_wp2_with (first
      | (go_at_fn g; refine HF.out.mono ?_; rintro e w5 ⟨rfl, hD⟩; obtain ⟨HO5, HB5, HU5, HT5⟩ := edit_mid hD HP.out HB4.out HU4.out HT4.out (by omega) (by omega) (by omega); clear hD)
      | (refine wpList_load_row rfl 26 _ rfl w2.heap.size rfl 26 #[.int .i64 nx, .slice (some ⟨G, 0, none⟩) L.length cap'] (0, 0) _ HT5.out Try.underlying26 rfl (by kernel_rfl) ?_)
      | (refine wpList_store_row rfl 26 _ _ rfl (w.heap.size + 1) #[.int .i64 nx, .slice (some ⟨G, 0, none⟩) L.length cap'] rfl rfl 26 #[.int .i64 0, .slice none 0 0] HU5.out (by kernel_rfl) rfl (treeA_one _ _ _ _) ?_))
    refine bodyPost_ret (results_tree (b := w.heap.size + 1) (nx := nx) (v := .slice (some ⟨G, 0, none⟩) L.length cap') rfl rfl (setRow_heap _ _ _ _ _ _ HU5.out)) rfl ?_
    refine ⟨.slice (some ⟨G, 0, none⟩) L.length cap', rfl, own_setRow (k := w.heap.size + 1) ?_ (by simp [Value.ownBlock]; omega) _, below_setRow (g := w.heap.size + 1) HB5.out (Nat.le_succ _) _⟩
    have := HO5.out
    rw [hM.out] at this
    exact NOwn.mono this (by rw [hs.out]; omega)
end Go.Proofs.Ytalhkoolpnmcdaa
