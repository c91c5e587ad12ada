/-
  Walks: the law's own equality of two lists; WirePieces.
-/
import Derived.Test.YtlfdmbfbfadifaaGreatDoorZt
import Derived.Test.YtlfdmbfbfadifaaGreatDoorVc
import Derived.BigFrame
import Derived.Laws.OwnMore
namespace Go.Proofs.YtlfdmbfbfadifaaGreatDoor
open Go.RowKit

/-! ### Lists of messages -/
theorem MSRow.at_ {w : World} {p : Option Addr} {n cap : Nat} {L : List MM} (h : MSRow w (.slice p n cap) L) {k : Nat} (hk : k < L.length) : ∃ b o, p = some ⟨b, o, none⟩ ∧ ∀ W, Below w.heap.size w W → W.rangeAt b (o + k * 39) (cellsM (atM L k)) ∧ RowM W (atM L k) := by
  obtain ⟨⟨p', cap', hv, hc, hm, hx⟩, hr⟩ := h
  obtain ⟨b, o, rfl, hb, hcell⟩ := hx (fun e => by rw [e] at hk; simp at hk)
  injection hv with h1 _ _
  subst h1
  refine ⟨b, o, rfl, fun W hB => ⟨fun j u hu => (hB.cell (p := ⟨b, o + k * 39 + j, none⟩) hb).trans (hcell k hk j u hu), ?_⟩⟩
  have hm : atM L k ∈ L := by
    unfold atM
    rw [List.getD_eq_getElem?_getD, List.getElem?_eq_getElem hk]; exact List.getElem_mem hk
  exact (hr _ hm).below hB
theorem MSRow.form {w : World} {v : Value} {L : List MM} (h : MSRow w v L) : ∃ p cap, v = .slice p L.length cap ∧ (L.length : Int) ≤ (cap : Int) ∧ L.length ≤ maxLen := by
  obtain ⟨⟨p, cap, hv, hc, hm, _⟩, _⟩ := h
  exact ⟨p, cap, hv, by omega, by omega⟩
theorem atM_strip {L1 L2 : List MM} (h : L1.map strip = L2.map strip) {k : Nat} (hk : k < L1.length) : strip (atM L1 k) = strip (atM L2 k) := by
  have hl : L1.length = L2.length := by simpa using congrArg List.length h
  have e := congrArg (fun l => l[k]?) h
  simp only [List.getElem?_map] at e
  unfold atM
  rw [List.getD_eq_getElem?_getD, List.getD_eq_getElem?_getD]
  rw [List.getElem?_eq_getElem hk, List.getElem?_eq_getElem (show k < L2.length by omega)] at e ⊢
  simpa using e
theorem RSame_strip {x y : MM} (h : strip x = strip y) (w : World) (hx : RowM w x) (hy : RowM w y) :
    Calls Tryz.prog 14 #[.agg (cellsB x), .agg (cellsB y)] w fun e w' => e = .returned (.bool true) ∧ Below w.heap.size w w' := by
  have e1 : x = withV (strip x) x.nv x.qv := strip_inv rfl
  have e2 : y = withV (strip x) y.nv y.qv := strip_inv h.symm
  have := RSame_eq (strip x) x.nv x.qv y.nv y.qv w (by rw [← e1]; exact hx) (by rw [← e2]; exact hy)
  rw [← e1, ← e2] at this
  exact this

set_option maxRecDepth 100000 in
set_option maxHeartbeats 6400000 in
theorem same_any (v1 v2 : Value) (L1 L2 : List MM) (w : World) (h1 : MSRow w v1 L1) (h2 : MSRow w v2 L2) (he : L1.map strip = L2.map strip) :
    Calls Tryz.prog 17 #[v1, v2] w fun e w' => e = .returned (.bool true) ∧ Below w.heap.size w w' := by
  have hl : L1.length = L2.length := by simpa using congrArg List.length he
  obtain ⟨p1, c1, rfl, hc1, hm1⟩ := h1.form
  obtain ⟨p2, c2, rfl, hc2, -⟩ := h2.form
  unfold maxLen at hm1
  have H1 := Lib.hid (fun k (hk : k < L1.length) => h1.at_ hk)
  have H2 := Lib.hid (fun k (hk : k < L1.length) => h2.at_ (k := k) (by omega))
  have HS := Lib.hid (fun k (hk : k < L1.length) => atM_strip he hk)
  rw [← hl] at hc2 ⊢
  clear h1 h2 he hl
  generalize L1.length = n at *
  go_enter Tryz.func17, Tryz.ntmps17
  go_wp2
  go_loopw [13] (fun vk wr => ∃ k : Nat, vk = .int .i64 (k : Int) ∧ k ≤ n ∧ Hid (Below w.heap.size w wr)) (fun vk _ => n - (intOf vk).toNat)
  case atStart => exact ⟨0, rfl, by omega, Below.refl _ _⟩
  case round =>
    obtain ⟨k, rfl, hk, hB⟩ := hrel
    by_cases hlt : k < n
    · obtain ⟨b1, o1, rfl, r1⟩ := H1.out k hlt
      obtain ⟨b2, o2, rfl, r2⟩ := H2.out k hlt
      have hS := HS.out k hlt
      have hE : Hid (∀ W, Below w.heap.size w W → Calls Tryz.prog 14 #[.agg (cellsB (atM L1 k)), .agg (cellsB (atM L2 k))] W fun e w' => e = .returned (.bool true) ∧ Below W.heap.size W w') := Lib.hid fun W hW => RSame_strip hS W (r1 W hW).2 (r2 W hW).2
      replace r1 := Lib.hid (fun W hW => (r1 W hW).1)
      replace r2 := Lib.hid (fun W hW => (r2 W hW).1)
      clear hS
      generalize atM L1 k = X at r1 hE
      generalize atM L2 k = Y at r2 hE
      have k0 : (0 : Int) ≤ (k : Int) := by omega
      have k1 : (k : Int) < (n : Int) := by omega
      go_wp2
      refine wp_region_held_drew (S := fun W => Below w.heap.size w W) (by kernel_rfl) (below_drew hB.out) (fun hHeld => ?_)
      refine takeD (i := 0) (oi := _) (d := some 16) (v := .slice (some ⟨b1, o1, none⟩) n c1) rfl rfl (by kernel_rfl) (by kernel_rfl) (by kernel_rfl) (fun _ _ _ h => h) (Or.inl ⟨by rfl, fun W hSw => by go_simp⟩) (by assumption) ?_
      try simp only [Act.put, List.setIfInBounds_toArray, List.set_cons_zero, List.set_cons_succ]
      refine takeD (i := 1) (oi := _) (d := some 17) (v := .int .i64 (k : Int)) rfl rfl (by kernel_rfl) (by kernel_rfl) (by kernel_rfl) (fun _ _ _ h => h) (Or.inl ⟨by rfl, fun W hSw => by go_simp⟩) (by assumption) ?_
      try simp only [Act.put, List.setIfInBounds_toArray, List.set_cons_zero, List.set_cons_succ]
      refine takeD (i := 2) (oi := _) (d := some 18) (v := .pointer (some ⟨b1, o1 + k * 39, none⟩)) rfl rfl (by kernel_rfl) (by kernel_rfl) (by kernel_rfl) (fun _ _ _ h => h) (Or.inl ⟨by rfl, fun W hSw => by go_simp⟩) (by assumption) ?_
      try simp only [Act.put, List.setIfInBounds_toArray, List.set_cons_zero, List.set_cons_succ]
      refine takeD (i := 3) (oi := _) (d := some 19) (v := .agg (cellsB X)) rfl rfl (by kernel_rfl) (by kernel_rfl) (by kernel_rfl) (fun _ _ _ h => h) (yieldsIf_load_mid (by rfl) 30 _ rfl b1 (o1 + k * 39) rfl (cellsM X) _ r1.out Tryz.underlying30 rfl (by kernel_rfl)) (by assumption) ?_
      try simp only [Act.put, List.setIfInBounds_toArray, List.set_cons_zero, List.set_cons_succ]
      refine takeD (i := 4) (oi := _) (d := some 20) (v := .slice (some ⟨b2, o2, none⟩) n c2) rfl rfl (by kernel_rfl) (by kernel_rfl) (by kernel_rfl) (fun _ _ _ h => h) (Or.inl ⟨by rfl, fun W hSw => by go_simp⟩) (by assumption) ?_
      try simp only [Act.put, List.setIfInBounds_toArray, List.set_cons_zero, List.set_cons_succ]
      refine takeD (i := 5) (oi := _) (d := some 21) (v := .int .i64 (k : Int)) rfl rfl (by kernel_rfl) (by kernel_rfl) (by kernel_rfl) (fun _ _ _ h => h) (Or.inl ⟨by rfl, fun W hSw => by go_simp⟩) (by assumption) ?_
      try simp only [Act.put, List.setIfInBounds_toArray, List.set_cons_zero, List.set_cons_succ]
      refine takeD (i := 6) (oi := _) (d := some 22) (v := .pointer (some ⟨b2, o2 + k * 39, none⟩)) rfl rfl (by kernel_rfl) (by kernel_rfl) (by kernel_rfl) (fun _ _ _ h => h) (Or.inl ⟨by rfl, fun W hSw => by go_simp⟩) (by assumption) ?_
      try simp only [Act.put, List.setIfInBounds_toArray, List.set_cons_zero, List.set_cons_succ]
      refine takeD (i := 7) (oi := _) (d := some 23) (v := .agg (cellsB Y)) rfl rfl (by kernel_rfl) (by kernel_rfl) (by kernel_rfl) (fun _ _ _ h => h) (yieldsIf_load_mid (by rfl) 30 _ rfl b2 (o2 + k * 39) rfl (cellsM Y) _ r2.out Tryz.underlying30 rfl (by kernel_rfl)) (by assumption) ?_
      try simp only [Act.put, List.setIfInBounds_toArray, List.set_cons_zero, List.set_cons_succ]
      refine wpAnyH_ready (rs := [8]) (by kernel_rfl) (by simp) ?_
      refine AllReadyH.cons (o := _) rfl (fun K hK => ?_) AllReadyH.nil
      go_simp
      refine (hE.out _ hHeld).mono ?_
      rintro e W5 ⟨rfl, hB5⟩
      refine hK.out _ _ (hHeld.trans (hB5.mono hHeld.size)) (fun hHeld => ?_)
      clear hK K
      try simp only [Act.put, List.setIfInBounds_toArray, List.set_cons_zero, List.set_cons_succ]
      refine takeD (i := 9) (oi := _) (d := some 25) (v := .bool false) rfl rfl (by kernel_rfl) (by kernel_rfl) (by kernel_rfl) (fun _ _ _ h => h) (Or.inl ⟨by rfl, fun W hSw => by go_simp⟩) (by assumption) ?_
      try simp only [Act.put, List.setIfInBounds_toArray, List.set_cons_zero, List.set_cons_succ]
      refine wpAnyH_done (by kernel_rfl) ?_ _
      have hB9 := Lib.hid hHeld
      go_wp2
      exact ⟨⟨k + 1, by go_num, by omega, hB9⟩, by simp [intOf]; omega⟩
    · obtain rfl : k = n := by omega
      go_wp2
      go_ret
      exact ⟨rfl, hB.out⟩
end Go.Proofs.YtlfdmbfbfadifaaGreatDoor
