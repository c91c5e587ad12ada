/-
  The reader: qids.
  The reader's pass over the fields of a message.
-/
import Derived.Test.YtlfdmbfbfadifaaGreatDoorZg
import Derived.Test.YtlfdmbfbfadifaaGreatDoorZf
import Derived.Test.YtlfdmbfbfadifaaGreatDoorYl
namespace Go.Proofs.YtlfdmbfbfadifaaGreatDoor
open Go.RowKit

def cellsQL (q : QQ) : List Value := [.int .i64 q.t, .int .i64 q.v, .int .i64 q.p]
def flatQ (L : List QQ) : List Value := L.flatMap cellsQL
theorem flatQ_get (L : List QQ) : ∀ (k j : Nat), k < L.length → j < 3 → (flatQ L)[k * 3 + j]? = (cellsQL (atQ L k))[j]? := by
  induction L with
  | nil => intro k j hk; simp at hk
  | cons d L ih =>
    intro k j hk hj
    rw [flatQ, List.flatMap_cons]
    cases k with
    | zero =>
      rw [List.getElem?_append_left (by show 0 * 3 + j < 3; omega)]
      simp [atQ]
    | succ k =>
      rw [List.getElem?_append_right (by show 3 ≤ _; omega), show (cellsQL d).length = 3 from rfl, show (k + 1) * 3 + j - 3 = k * 3 + j by omega]
      have := ih k j (by simpa using hk) hj
      rw [flatQ] at this
      rw [this]
      simp [atQ]
theorem flatQ_snoc (L : List QQ) (d : QQ) : flatQ (L ++ [d]) = flatQ L ++ cellsQL d := by simp [flatQ]
theorem info_qidY : (Tryz.prog.info? 25).map (fun i => (i.zero, i.size, i.bytes)) = some (some (.agg #[.int .i64 0, .int .i64 0, .int .i64 0]), 3, 24) := by kernel_rfl
theorem new_three (w : World) (x y z : Value) (e : TypeId) : ∀ j u, [x, y, z][j]? = some u → (w.alloc (.cells #[x, y, z] e)).cell? ((⟨w.heap.size, 0, none⟩ : Addr).add j) = some u := by
  intro j u h
  match j, h with
  | 0, h => simp at h; subst h; simp [Addr.add, World.cell?_alloc_new]
  | 1, h => simp at h; subst h; simp [Addr.add, World.cell?_alloc_new]
  | 2, h => simp at h; subst h; simp [Addr.add, World.cell?_alloc_new]
/-- The qids that were read lie in a slice of the call's own. -/
def QOwn (B : Nat) (w : World) (v : Value) (acc : List QQ) : Prop := w.ownsRow B 25 3 v acc.length (flatQ acc)
theorem QOwn.keep {B : Nat} {w w' : World} {v : Value} {acc : List QQ} (h : QOwn B w v acc) (hb : ∀ j, B ≤ j → j < w.heap.size → w'.heap[j]? = w.heap[j]?) : QOwn B w' v acc := by
  refine ⟨h.1, ?_⟩
  rcases h.2 with hn | ⟨g, cap, cur, rfl, hB, hgg, rest⟩
  · exact .inl hn
  · exact .inr ⟨g, cap, cur, rfl, hB, by rw [hb g hB (Array.getElem?_eq_some_iff.1 hgg).1]; exact hgg, rest⟩
theorem QOwn.nil_ (B : Nat) (w : World) : QOwn B w (.slice none 0 0) [] := World.ownsRow_nil _ _ _ _
theorem QOwn.snoc {B : Nat} {w : World} {v : Value} {acc : List QQ} {x : QQ} (h : w.ownsRow B 25 3 v (acc.length + 1) (flatQ acc ++ cellsQL x)) : QOwn B w v (acc ++ [x]) := by
  unfold QOwn
  rw [List.length_append, flatQ_snoc]
  exact h
theorem QOwn.row {B : Nat} {w : World} {v : Value} {acc : List QQ} (h : QOwn B w v acc) : QRow w v acc := by
  have hown := h
  obtain ⟨h1, h2⟩ := h
  rcases h2 with ⟨rfl, hx⟩ | ⟨g, cap, cur, rfl, hb, hg, hnc, hcm, rest⟩
  · have : acc = [] := List.eq_nil_of_length_eq_zero hx
    subst this
    exact QRow.nil_ w
  · refine ⟨some ⟨g, 0, none⟩, cap, rfl, hnc, hcm, fun _ => ⟨g, 0, rfl, (Array.getElem?_eq_some_iff.1 hg).1, fun j hj => ?_⟩⟩
    have key := fun i u (hi : i < 3) hu => World.ownsRow.cells (w := w) hown rfl (j * 3 + i) u ((flatQ_get acc j i hj hi).trans hu)
    have k0 := key 0 _ (by omega) rfl
    have k1 := key 1 _ (by omega) rfl
    have k2 := key 2 _ (by omega) rfl
    rw [add_at] at k0 k1 k2
    rw [show 0 + (j * 3 + 0) = 0 + j * 3 by omega] at k0
    rw [show 0 + (j * 3 + 1) = 0 + j * 3 + 1 by omega] at k1
    rw [show 0 + (j * 3 + 2) = 0 + j * 3 + 2 by omega] at k2
    exact ⟨k0, k1, k2⟩
theorem QOwn.rowA {B : Nat} {w : World} {v : Value} {acc : List QQ} (h : QOwn B w v acc) : QRowA B w v acc := fun _ _ hb => (h.keep hb).row
/-- The state of the loop. -/
def QSL (k g o c : Nat) (b : List UInt8) (cs : Array Value) (t : TypeId) (W : World) (acc : List QQ) (s : RS) (v : Value) (w : World) : Prop :=
  RdAt k b s w ∧ w.heap[g]? = some (.cells (cs.setIfInBounds o v) t (0, 0)) ∧ w.heap[W.heap.size]? = some (.cells #[.int .i64 (c : Int)] 3 (0, 0)) ∧ QOwn (W.heap.size + 1) w v acc ∧ Kp k g W w ∧ W.heap.size < w.heap.size
set_option maxHeartbeats 4000000 in
set_option maxRecDepth 100000 in
theorem rQids (k g o : Nat) (b : List UInt8) (s : RS) (cs : Array Value) (t : TypeId) (W : World) (hb : b.length ≤ 1000000) (hk : RdAt k b s W) (hgk : g ≠ k) (hg : W.heap[g]? = some (.cells cs t (0, 0))) (hn : cs[o]? = some (.slice none 0 0)) :
    Calls Tryz.prog 139 #[.pointer (some ⟨k, 0, none⟩), .pointer (some ⟨g, o, none⟩)] W fun e W' => e = .returned (.tuple #[]) ∧ ∃ v, RdAt k b (rdQids b s).2 W' ∧ W'.heap[g]? = some (.cells (cs.setIfInBounds o v) t (0, 0)) ∧ QRowA (W.heap.size + 1) W' v (rdQids b s).1 ∧ Kp k g W W' := by
  have hkl := hk.lt
  have hgl := (Array.getElem?_eq_some_iff.1 hg).1
  obtain ⟨i0, hi, hz0, hz1, hz2⟩ := info_parts info_qidY
  have HT0 := Lib.hid (rNumber k W.heap.size 0 b s 2 2 (W.alloc (.cells #[.int .i64 0] 3)) rfl (by omega) (hk.alloc _) (by omega) (Tgt.new W _ _))
  have hnn : 0 ≤ (rdN b s 2).1 := (getR_val b s.at' 2).1
  have hnm : (rdN b s 2).1 < 65536 := getR2_lt b s.at'
  have HE : Hid (rdQids b s = rdQs b (rdN b s 2).1 ((rdN b s 2).1.toNat + 1) [] (rdN b s 2).2) := rfl
  have HX := Lib.hid (fun W1 h => put1_new (W := W) (W1 := W1) (v := .int .i64 0) (u := .int .i64 (rdN b s 2).1) (t := 3) h)
  have HY := Lib.hid (fun W1 h => Kp.box (k := k) (W := W) (W1 := W1) (o := .cells #[.int .i64 0] 3) h)
  generalize rdQids b s = res at *
  generalize rdN b s 2 = tr at *
  obtain ⟨n, s1⟩ := tr
  dsimp only at HT0 HX HE hnn hnm
  obtain ⟨c, rfl⟩ := Int.eq_ofNat_of_zero_le hnn
  have HG := Lib.hid hg
  have HN := Lib.hid hn
  clear hk hg hn hnn
  go_enter Tryz.func139, Tryz.ntmps139
  go_wp2_with fail
  refine HT0.out.mono ?_
  rintro e W1 ⟨rfl, h1, h2, h3⟩
  have hI : Hid (QSL k g o c b cs t W [] s1 (.slice none 0 0) W1) := by
    have hgg : W1.heap[g]? = some (.cells cs t (0, 0)) := ((HY.out W1 h3).block g hgl hgk hgk).trans HG.out
    refine ⟨h1, ?_, HX.out W1 h2, QOwn.nil_ _ _, (HY.out W1 h3).self, ?_⟩
    · rw [hgg]
      have e : cs.setIfInBounds o (.slice none 0 0) = cs := by
        obtain ⟨hlt, he⟩ := Array.getElem?_eq_some_iff.1 HN.out
        rw [← he, Array.setIfInBounds_def]; simp [hlt]
      rw [e]
    · have := h3.size; simp at this; omega
  clear h1 h2 h3
  go_wp2
  have HTx := Lib.hid (fun acc s v w (h : QSL k g o c b cs t W acc s v w) => rPassQid k w.heap.size 0 b s #[.int .i64 0, .int .i64 0, .int .i64 0] 25 (w.alloc (.cells #[.int .i64 0, .int .i64 0, .int .i64 0] 25)) (w.alloc (.cells #[.int .i64 0, .int .i64 0, .int .i64 0] 25)) hb (by have := h.1.lt; omega) (by decide) ⟨h.1.alloc _, heap_alloc_new w _, Kp.refl _ _ _⟩)
  go_loopw [5] (fun _ wr => ∃ (acc : List QQ) (n : Nat) (s : RS) (v : Value), acc.length ≤ c ∧ acc.length + n = c + 1 ∧ Hid (res = rdQs b (c : Int) n acc s) ∧ Hid (QSL k g o c b cs t W acc s v wr)) (fun _ wr => c - lenAt g o wr)
  case atStart => exact ⟨[], c + 1, s1, _, by simp, by simp, HE, hI⟩
  case round =>
    clear hI HT0 HX HY HE
    obtain ⟨acc, n, sr, v, hac, han, hr, hS⟩ := hrel
    obtain ⟨p, cap, rfl, hcap, hcm, -⟩ := hS.out.2.2.2.1.row
    have ho : o < cs.size := (Array.getElem?_eq_some_iff.1 HN.out).1
    have ho' : (cs.setIfInBounds o (Value.slice p acc.length cap))[o]? = some (Value.slice p acc.length cap) := by rw [Array.getElem?_setIfInBounds]; simp [ho]
    have x0 : _ = some (Value.slice p acc.length cap) := (Lib.cell_of_heap hS.out.2.1 o).trans ho'
    clear ho ho'
    have hmes : lenAt g o wr = acc.length := by unfold lenAt; rw [x0]
    replace hmes := Lib.hid hmes
    have x1 := (Lib.cell_of_heap hS.out.2.2.1 0).trans (show _ = some (.int .i64 (c : Int)) from rfl)
    have c2 := hS.out.1.c.2.2
    unfold maxLen at hcm
    by_cases hlt : acc.length < c
    · have hlt' : decide ((acc.length : Int) < (c : Int)) = true := by simp; omega
      have hlt2 : decide (acc.length < c) = true := by simp; omega
      cases hbad : sr.bad
      · rw [hbad] at c2
        have hR : Hid (res = rdQs b (c : Int) (n - 1) (acc ++ [(rdQ b sr).1]) (rdQ b sr).2) := by
          obtain ⟨n', rfl⟩ : ∃ n', n = n' + 1 := ⟨n - 1, by omega⟩
          rw [Hid, hr.out, rdQs, if_pos ⟨by omega, hbad⟩]
          rfl
        clear hr
        go_wp2
        go_quiet (fail)
        have hS2 : Hid (QSL k g o c b cs t W acc sr (.slice p acc.length cap) (wr.drewN nq)) := ⟨hS.out.1, hS.out.2.1, hS.out.2.2.1, hS.out.2.2.2.1, hS.out.2.2.2.2.1.drewN nq, hS.out.2.2.2.2.2⟩
        clear x0 x1 c2 hS
        generalize wr.drewN nq = w2 at *
        have hT := Lib.hid (HTx.out acc sr _ w2 hS2.out)
        have hKb := Lib.hid (fun W1 h => Kp.box (k := k) (W := w2) (W1 := W1) (o := .cells #[.int .i64 0, .int .i64 0, .int .i64 0] 25) h)
        generalize rdQ b sr = tr at *
        obtain ⟨tx, s2⟩ := tr
        dsimp only at hT hR
        go_wp2_with fail
        refine hT.out.mono ?_
        rintro e w3 ⟨rfl, h1, h2, h3⟩
        have h2 : w3.heap[w2.heap.size]? = some (.cells #[.int .i64 tx.t, .int .i64 tx.v, .int .i64 tx.p] 25 (0, 0)) := h2
        have hS3 : Hid (QSL k g o c b cs t W acc s2 (.slice p acc.length cap) w3) := by
          have hK := hKb.out w3 h3
          have q := hS2.out
          have e1 := q.2.2.2.2.2
          refine ⟨h1, (hK.block g (Array.getElem?_eq_some_iff.1 q.2.1).1 hgk hgk).trans q.2.1, (hK.block _ e1 (by omega) (by omega)).trans q.2.2.1, q.2.2.2.1.keep (fun j h4 h5 => hK.block j h5 (by omega) (by omega)), q.2.2.2.2.1.trans hK.self, Nat.lt_of_lt_of_le e1 hK.size⟩
        have hn3 := Lib.hid h2
        have x0 := (Lib.cell_of_heap hS3.out.2.1 o).trans (show _ = some (Value.slice p acc.length cap) by rw [Array.getElem?_setIfInBounds]; simp [(Array.getElem?_eq_some_iff.1 HN.out).1])
        have x1 := (Lib.cell_of_heap hn3.out 0).trans (show _ = some (.int .i64 tx.t) from rfl)
        have x2 := (Lib.cell_of_heap hn3.out 1).trans (show _ = some (.int .i64 tx.v) from rfl)
        have x3 := (Lib.cell_of_heap hn3.out 2).trans (show _ = some (.int .i64 tx.p) from rfl)
        clear h1 h2 h3
        go_wp2
        have hO : Hid (w3.ownsRow (W.heap.size + 1) 25 3 (.slice p acc.length cap) acc.length (flatQ acc)) := hS3.out.2.2.2.1
        have hz3 := Lib.hid hS3.out.2.2.2.2.2
        have hGr : Hid (∀ w4, (w3.drew.alloc (.cells #[.int .i64 tx.t, .int .i64 tx.v, .int .i64 tx.p] 25)).grownBy w4 (Value.slice p acc.length cap).ownBlock → ∀ j, j ≤ W.heap.size → w4.heap[j]? = w3.heap[j]?) := fun w4 h j hj =>
          (h.block j (by have := hz3.out; simp; omega) (fun e => by have := (hO.out.lt j e.symm).1; omega)).trans (Below.heap_alloc _ _ _ (by have := hz3.out; show j < w3.heap.size; omega))
        have hZ : Hid (∀ w4, (w3.drew.alloc (.cells #[.int .i64 tx.t, .int .i64 tx.v, .int .i64 tx.p] 25)).grownBy w4 (Value.slice p acc.length cap).ownBlock → w4.frozen? ⟨g, o, none⟩ = false ∧ w4.cell? ⟨g, o, none⟩ = some (.slice p acc.length cap)) := fun w4 h =>
          ⟨Lib.frozen_of_heap ((hGr.out w4 h g (by omega)).trans hS3.out.2.1) o, (Lib.cell_of_heap ((hGr.out w4 h g (by omega)).trans hS3.out.2.1) o).trans (by rw [Array.getElem?_setIfInBounds]; simp [(Array.getElem?_eq_some_iff.1 HN.out).1])⟩
        have hFin : Hid (∀ w4 v', (w3.drew.alloc (.cells #[.int .i64 tx.t, .int .i64 tx.v, .int .i64 tx.p] 25)).grownBy w4 (Value.slice p acc.length cap).ownBlock → w4.ownsRow (W.heap.size + 1) 25 3 v' (acc.length + 1) (flatQ acc ++ cellsQL tx) → QSL k g o c b cs t W (acc ++ [tx]) s2 v' (w4.setCell ⟨g, o, none⟩ v')) := fun w4 v' h h2 => by
          have q := hS3.out
          have e1 : w4.heap[g]? = _ := (hGr.out w4 h g (by omega)).trans q.2.1
          refine ⟨(heap_ne (by omega)).trans ((hGr.out w4 h k (by omega)).trans q.1), ?_, (heap_ne (by omega)).trans ((hGr.out w4 h _ (Nat.le_refl _)).trans q.2.2.1), QOwn.keep (QOwn.snoc h2) (fun j h3 _ => heap_ne (by omega)), ?_, ?_⟩
          · have e2 := set_heap (o := o) (v := v') e1
            rw [Array.setIfInBounds_setIfInBounds] at e2
            exact e2
          · have e3 : Kp k g W w4 := ⟨h.os.trans q.2.2.2.2.1.os, h.tape.trans q.2.2.2.2.1.tape, h.output.trans q.2.2.2.2.1.output, Nat.le_trans q.2.2.2.2.1.size (Nat.le_trans (by simp) h.size), fun j hj h1 h2 => (hGr.out w4 h j (by omega)).trans (q.2.2.2.2.1.block j hj h1 h2)⟩
            exact e3.set g o v' (.inr rfl)
          · have := h.size; have := q.2.2.2.2.2; simp [World.setCell] at *; omega
        have hZ2 : Hid (∀ w4, (w3.alloc (.cells #[.int .i64 tx.t, .int .i64 tx.v, .int .i64 tx.p] 25)).drew.grownBy w4 (Value.slice p acc.length cap).ownBlock → w4.frozen? ⟨g, o, none⟩ = false ∧ w4.cell? ⟨g, o, none⟩ = some (.slice p acc.length cap)) := fun w4 h => hZ.out w4 h
        have x0a : (w3.alloc (.cells #[.int .i64 tx.t, .int .i64 tx.v, .int .i64 tx.p] 25)).cell? ⟨g, o, none⟩ = some (.slice p acc.length cap) := by
          rw [← x0]; exact cell_alloc_old w3 _ (by have := hS3.out.2.1; exact (Array.getElem?_eq_some_iff.1 this).1)
        go_region_law (first | (refine step_append_own rfl (.tmp 27) (.tmp 29) 23 rfl (W.heap.size + 1) 25 i0 (.agg #[.int .i64 0, .int .i64 0, .int .i64 0]) 3 24 Tryz.underlying23 hi hz0 hz1 hz2 rfl (by decide) _ _ _ rfl (hO.out.drew.alloc _) ⟨w3.heap.size, 0, none⟩ 1 1 (cellsQL tx) rfl rfl (new_three _ _ _ _ _) (by simp [cellsQL, Value.oneCell']) (by unfold maxLen; omega) (by omega) (by have := hz3.out; simp; omega) ?_; intro v' w4 hown1 hgrow1; obtain ⟨g5, cap5, rfl, hb5, hl5⟩ := hown1.form (by omega); have z0 := (hZ.out w4 hgrow1).1; have z1 := (hZ.out w4 hgrow1).2) | (refine step_append_own rfl (.tmp 27) (.tmp 29) 23 rfl (W.heap.size + 1) 25 i0 (.agg #[.int .i64 0, .int .i64 0, .int .i64 0]) 3 24 Tryz.underlying23 hi hz0 hz1 hz2 rfl (by decide) _ _ _ rfl (World.ownsRow.drew (hO.out.alloc _)) ⟨w3.heap.size, 0, none⟩ 1 1 (cellsQL tx) rfl rfl (new_three _ _ _ _ _) (by simp [cellsQL, Value.oneCell']) (by unfold maxLen; omega) (by omega) (by have := hz3.out; simp; omega) ?_; intro v' w4 hown1 hgrow1; obtain ⟨g5, cap5, rfl, hb5, hl5⟩ := hown1.form (by omega); have z0 := (hZ2.out w4 hgrow1).1; have z1 := (hZ2.out w4 hgrow1).2))
        all_goals have hF := Lib.hid (hFin.out w4 _ hgrow1 hown1)
        all_goals clear z0 z1 hgrow1 hown1
        all_goals go_wp2
        all_goals exact ⟨⟨acc ++ [tx], n - 1, s2, _, by simp; omega, by simp; omega, hR, hF⟩, by rw [hmes.out, lenAt_of hF.out.2.1 (show (_ : Option Value) = some (Value.slice (some ⟨g5, 0, none⟩) (acc.length + 1) cap5) by rw [Array.getElem?_setIfInBounds]; simp [(Array.getElem?_eq_some_iff.1 HN.out).1])]; omega⟩
      · rw [hbad] at c2
        have hR : Hid (res = (acc, sr)) := by
          obtain ⟨n', rfl⟩ : ∃ n', n = n' + 1 := ⟨n - 1, by omega⟩
          rw [Hid, hr.out, rdQs, if_neg (by rw [hbad]; simp)]
        clear hr
        go_wp2
        go_quiet (fail)
        go_wp2
        go_end0
        rw [hR.out]
        exact ⟨rfl, _, hS.out.1, hS.out.2.1, hS.out.2.2.2.1.rowA, hS.out.2.2.2.2.1.drewN _⟩
    · have hlt' : decide ((acc.length : Int) < (c : Int)) = false := by simp; omega
      have hlt2 : decide (acc.length < c) = false := by simp; omega
      have hR : Hid (res = (acc, sr)) := by
        obtain ⟨n', rfl⟩ : ∃ n', n = n' + 1 := ⟨n - 1, by omega⟩
        rw [Hid, hr.out, rdQs, if_neg (by omega)]
      clear hr hlt
      go_wp2
      go_quiet (fail)
      go_wp2
      go_end0
      rw [hR.out]
      exact ⟨rfl, _, hS.out.1, hS.out.2.1, hS.out.2.2.2.1.rowA, hS.out.2.2.2.2.1.drewN _⟩
end Go.Proofs.YtlfdmbfbfadifaaGreatDoor

namespace Go.Proofs.YtlfdmbfbfadifaaGreatDoor
open Go.RowKit

def nilS : Value := .slice none 0 0
/-- No lists have been read yet. -/
def Fresh (m : MM) : Prop := m.nv = nilS ∧ m.qv = nilS ∧ m.nl = [] ∧ m.ql = []
/-- The reader in the block k, the message in the block g, its lists; nothing older than w0 has changed, and since w1 nothing but the two. -/
def Rst (w0 w1 : World) (k g : Nat) (b : List UInt8) (m : MM) (s : RS) (W : World) : Prop :=
  (g ≠ k ∧ w0.heap.size ≤ k ∧ w0.heap.size ≤ g) ∧ Below w0.heap.size w0 W ∧ RdAt k b s W ∧ BlkM W g m ∧ RowA w0.heap.size W m ∧ Kp k g w1 W
theorem Rst.drew {w0 w1 : World} {k g : Nat} {b : List UInt8} {m : MM} {s : RS} {W : World} (h : Rst w0 w1 k g b m s W) : Rst w0 w1 k g b m s W.drew := ⟨h.1, below_drew h.2.1, h.2.2.1.drew, h.2.2.2.1.drew, h.2.2.2.2.1, h.2.2.2.2.2.drew⟩
theorem fresh_row {B : Nat} (W : World) {m : MM} (h : Fresh m) : RowA B W m := by
  obtain ⟨h1, h2, h3, h4⟩ := h
  unfold RowA
  rw [h1, h2, h3, h4]
  exact ⟨fun W _ _ => SRow.nil_ W, fun W _ _ => QRow.nil_ W⟩
theorem Rst.next {w0 w1 : World} {k g : Nat} {b : List UInt8} {m m' : MM} {s s' : RS} {W W' : World} (h : Rst w0 w1 k g b m s W) (h1 : RdAt k b s' W') (h2 : BlkM W' g m') (h3 : Kp k g W W') (h4 : RowA w0.heap.size W' m') : Rst w0 w1 k g b m' s' W' :=
  ⟨h.1, h.2.1.trans (h3.below h.1.2.1 h.1.2.2 h.2.1.size), h1, h2, h4, h.2.2.2.2.2.trans h3⟩
theorem Rst.base {w0 w1 : World} {k g : Nat} {b : List UInt8} {m : MM} {s : RS} {W : World} (h : Rst w0 w1 k g b m s W) : Rst w0 W k g b m s W := ⟨h.1, h.2.1, h.2.2.1, h.2.2.2.1, h.2.2.2.2.1, Kp.refl _ _ _⟩
theorem Rst.go {w0 w1 : World} {k g : Nat} {b : List UInt8} {m : MM} {s : RS} {W W' : World} (h : Rst w0 w1 k g b m s W) (hB : Below W.heap.size W W') : Rst w0 w1 k g b m s W' :=
  ⟨h.1, h.2.1.trans (hB.mono h.2.1.size), h.2.2.1.below hB, h.2.2.2.1.below hB h.2.2.2.1.lt, h.2.2.2.2.1.below hB, h.2.2.2.2.2.trans (Kp.of_below hB)⟩
theorem tgt_msg {W : World} {g o : Nat} {m : MM} (h : BlkM W g m) (ho : o < 39) : Tgt g o W := ⟨_, _, h, (cellsB m)[o]'ho, Array.getElem?_eq_getElem ho⟩
theorem setB_0 (m : MM) (v : Int) : (cellsB m).setIfInBounds 2 (.int .i64 v) = cellsB { m with fi := v } := by kernel_rfl
theorem setB_1 (m : MM) (v : Int) : (cellsB m).setIfInBounds 3 (.int .i64 v) = cellsB { m with nf := v } := by kernel_rfl
theorem setB_2 (m : MM) (v : Int) : (cellsB m).setIfInBounds 4 (.int .i64 v) = cellsB { m with af := v } := by kernel_rfl
theorem setB_3 (m : MM) (v : Int) : (cellsB m).setIfInBounds 5 (.int .i64 v) = cellsB { m with ot := v } := by kernel_rfl
theorem setB_4 (m : MM) (v : Int) : (cellsB m).setIfInBounds 6 (.int .i64 v) = cellsB { m with ms := v } := by kernel_rfl
theorem setB_5 (m : MM) (v : List UInt8) : (cellsB m).setIfInBounds 7 (.string (mk v)) = cellsB { m with ve := v } := by kernel_rfl
theorem setB_6 (m : MM) (v : List UInt8) : (cellsB m).setIfInBounds 8 (.string (mk v)) = cellsB { m with us := v } := by kernel_rfl
theorem setB_7 (m : MM) (v : List UInt8) : (cellsB m).setIfInBounds 9 (.string (mk v)) = cellsB { m with ac := v } := by kernel_rfl
theorem setB_11 (m : MM) (v : Int) : (cellsB m).setIfInBounds 15 (.int .i64 v) = cellsB { m with io := v } := by kernel_rfl
theorem setB_12 (m : MM) (v : Int) : (cellsB m).setIfInBounds 16 (.int .i64 v) = cellsB { m with mo := v } := by kernel_rfl
theorem setB_13 (m : MM) (v : Int) : (cellsB m).setIfInBounds 17 (.int .i64 v) = cellsB { m with pe := v } := by kernel_rfl
theorem setB_14 (m : MM) (v : List UInt8) : (cellsB m).setIfInBounds 18 (.string (mk v)) = cellsB { m with na := v } := by kernel_rfl
theorem setB_15 (m : MM) (v : Int) : (cellsB m).setIfInBounds 19 (.int .i64 v) = cellsB { m with os := v } := by kernel_rfl
theorem setB_16 (m : MM) (v : Int) : (cellsB m).setIfInBounds 20 (.int .i64 v) = cellsB { m with co := v } := by kernel_rfl
theorem setB_17 (m : MM) (v : List UInt8) : (cellsB m).setIfInBounds 21 (.string (mk v)) = cellsB { m with da := v } := by kernel_rfl
theorem setB_19 (m : MM) (v : Int) : (cellsB m).setIfInBounds 35 (.int .i64 v) = cellsB { m with er := v } := by kernel_rfl
theorem setB_20 (m : MM) (v : Int) : (cellsB m).setIfInBounds 36 (.int .i64 v) = cellsB { m with lz := v } := by kernel_rfl
theorem setB_21 (m : MM) (v : Int) : (cellsB m).setIfInBounds 37 (.int .i64 v) = cellsB { m with te := v } := by kernel_rfl
theorem setB_22 (m : MM) (v : List UInt8) : (cellsB m).setIfInBounds 38 (.string (mk v)) = cellsB { m with se := v } := by kernel_rfl
theorem setB_8 (m : MM) (v : Value) : (cellsB m).setIfInBounds 10 v = cellsB { m with nv := v } := by kernel_rfl
theorem setB_9 (m : MM) (v : Value) : (cellsB m).setIfInBounds 11 v = cellsB { m with qv := v } := by kernel_rfl
theorem setB_10 (m : MM) (q : QQ) : (((cellsB m).setIfInBounds 12 (.int .i64 q.t)).setIfInBounds 13 (.int .i64 q.v)).setIfInBounds 14 (.int .i64 q.p) = cellsB { m with qd := q } := by kernel_rfl
theorem cellsB_nl (m : MM) (l : List (List UInt8)) : cellsB { m with nl := l } = cellsB m := rfl
theorem cellsB_ql (m : MM) (l : List QQ) : cellsB { m with ql := l } = cellsB m := rfl

section
variable (w0 w1 : World) (k g : Nat) (b : List UInt8) (m : MM) (s : RS) (W : World) (hb : b.length ≤ 1000000)
include hb in
theorem rF_0 (hfr : Fresh m) (h : Rst w0 w1 k g b m s W) :
    Calls Tryz.prog 38 #[.iface 94 (.pointer (some ⟨k, 0, none⟩)), .pointer (some ⟨g, 0, none⟩), .int .i64 0] W fun e W' => e = .returned (.tuple #[]) ∧ Rst w0 w1 k g b (rdF b m s 0).1 (rdF b m s 0).2 W' :=
  pf_0 (nilR_number k) (metR_number k) (fun args W => cfR_number W args) g (Rst w0 w1 k g b m s) (Rst w0 w1 k g b (rdF b m s 0).1 (rdF b m s 0).2) (fun _ h => h.drew)
    (fun W h => (rNumber k g 2 b s 4 4 W rfl hb h.2.2.1 h.1.1 (tgt_msg h.2.2.2.1 (by omega))).mono fun _ W' ⟨e1, e2, e3, e4⟩ => ⟨e1, h.next e2 (show W'.heap[g]? = _ from setB_0 m _ ▸ e3 _ _ h.2.2.2.1) e4 (fresh_row W' hfr)⟩) W h
include hb in
theorem rF_1 (hfr : Fresh m) (h : Rst w0 w1 k g b m s W) :
    Calls Tryz.prog 38 #[.iface 94 (.pointer (some ⟨k, 0, none⟩)), .pointer (some ⟨g, 0, none⟩), .int .i64 1] W fun e W' => e = .returned (.tuple #[]) ∧ Rst w0 w1 k g b (rdF b m s 1).1 (rdF b m s 1).2 W' :=
  pf_1 (nilR_number k) (metR_number k) (fun args W => cfR_number W args) g (Rst w0 w1 k g b m s) (Rst w0 w1 k g b (rdF b m s 1).1 (rdF b m s 1).2) (fun _ h => h.drew)
    (fun W h => (rNumber k g 3 b s 4 4 W rfl hb h.2.2.1 h.1.1 (tgt_msg h.2.2.2.1 (by omega))).mono fun _ W' ⟨e1, e2, e3, e4⟩ => ⟨e1, h.next e2 (show W'.heap[g]? = _ from setB_1 m _ ▸ e3 _ _ h.2.2.2.1) e4 (fresh_row W' hfr)⟩) W h
include hb in
theorem rF_2 (hfr : Fresh m) (h : Rst w0 w1 k g b m s W) :
    Calls Tryz.prog 38 #[.iface 94 (.pointer (some ⟨k, 0, none⟩)), .pointer (some ⟨g, 0, none⟩), .int .i64 2] W fun e W' => e = .returned (.tuple #[]) ∧ Rst w0 w1 k g b (rdF b m s 2).1 (rdF b m s 2).2 W' :=
  pf_2 (nilR_number k) (metR_number k) (fun args W => cfR_number W args) g (Rst w0 w1 k g b m s) (Rst w0 w1 k g b (rdF b m s 2).1 (rdF b m s 2).2) (fun _ h => h.drew)
    (fun W h => (rNumber k g 4 b s 4 4 W rfl hb h.2.2.1 h.1.1 (tgt_msg h.2.2.2.1 (by omega))).mono fun _ W' ⟨e1, e2, e3, e4⟩ => ⟨e1, h.next e2 (show W'.heap[g]? = _ from setB_2 m _ ▸ e3 _ _ h.2.2.2.1) e4 (fresh_row W' hfr)⟩) W h
include hb in
theorem rF_3 (hfr : Fresh m) (h : Rst w0 w1 k g b m s W) :
    Calls Tryz.prog 38 #[.iface 94 (.pointer (some ⟨k, 0, none⟩)), .pointer (some ⟨g, 0, none⟩), .int .i64 3] W fun e W' => e = .returned (.tuple #[]) ∧ Rst w0 w1 k g b (rdF b m s 3).1 (rdF b m s 3).2 W' :=
  pf_3 (nilR_number k) (metR_number k) (fun args W => cfR_number W args) g (Rst w0 w1 k g b m s) (Rst w0 w1 k g b (rdF b m s 3).1 (rdF b m s 3).2) (fun _ h => h.drew)
    (fun W h => (rNumber k g 5 b s 2 2 W rfl hb h.2.2.1 h.1.1 (tgt_msg h.2.2.2.1 (by omega))).mono fun _ W' ⟨e1, e2, e3, e4⟩ => ⟨e1, h.next e2 (show W'.heap[g]? = _ from setB_3 m _ ▸ e3 _ _ h.2.2.2.1) e4 (fresh_row W' hfr)⟩) W h
include hb in
theorem rF_4 (hfr : Fresh m) (h : Rst w0 w1 k g b m s W) :
    Calls Tryz.prog 38 #[.iface 94 (.pointer (some ⟨k, 0, none⟩)), .pointer (some ⟨g, 0, none⟩), .int .i64 4] W fun e W' => e = .returned (.tuple #[]) ∧ Rst w0 w1 k g b (rdF b m s 4).1 (rdF b m s 4).2 W' :=
  pf_4 (nilR_number k) (metR_number k) (fun args W => cfR_number W args) g (Rst w0 w1 k g b m s) (Rst w0 w1 k g b (rdF b m s 4).1 (rdF b m s 4).2) (fun _ h => h.drew)
    (fun W h => (rNumber k g 6 b s 4 4 W rfl hb h.2.2.1 h.1.1 (tgt_msg h.2.2.2.1 (by omega))).mono fun _ W' ⟨e1, e2, e3, e4⟩ => ⟨e1, h.next e2 (show W'.heap[g]? = _ from setB_4 m _ ▸ e3 _ _ h.2.2.2.1) e4 (fresh_row W' hfr)⟩) W h
include hb in
theorem rF_5 (hfr : Fresh m) (h : Rst w0 w1 k g b m s W) :
    Calls Tryz.prog 38 #[.iface 94 (.pointer (some ⟨k, 0, none⟩)), .pointer (some ⟨g, 0, none⟩), .int .i64 5] W fun e W' => e = .returned (.tuple #[]) ∧ Rst w0 w1 k g b (rdF b m s 5).1 (rdF b m s 5).2 W' :=
  pf_5 (nilR_text k) (metR_text k) (fun args W => cfR_text W args) g (Rst w0 w1 k g b m s) (Rst w0 w1 k g b (rdF b m s 5).1 (rdF b m s 5).2) (fun _ h => h.drew)
    (fun W h => (rText k g 7 b s W hb h.2.2.1 h.1.1 (tgt_msg h.2.2.2.1 (by omega))).mono fun _ W' ⟨e1, e2, e3, e4⟩ => ⟨e1, h.next e2 (show W'.heap[g]? = _ from setB_5 m _ ▸ e3 _ _ h.2.2.2.1) e4 (fresh_row W' hfr)⟩) W h
include hb in
theorem rF_6 (hfr : Fresh m) (h : Rst w0 w1 k g b m s W) :
    Calls Tryz.prog 38 #[.iface 94 (.pointer (some ⟨k, 0, none⟩)), .pointer (some ⟨g, 0, none⟩), .int .i64 6] W fun e W' => e = .returned (.tuple #[]) ∧ Rst w0 w1 k g b (rdF b m s 6).1 (rdF b m s 6).2 W' :=
  pf_6 (nilR_text k) (metR_text k) (fun args W => cfR_text W args) g (Rst w0 w1 k g b m s) (Rst w0 w1 k g b (rdF b m s 6).1 (rdF b m s 6).2) (fun _ h => h.drew)
    (fun W h => (rText k g 8 b s W hb h.2.2.1 h.1.1 (tgt_msg h.2.2.2.1 (by omega))).mono fun _ W' ⟨e1, e2, e3, e4⟩ => ⟨e1, h.next e2 (show W'.heap[g]? = _ from setB_6 m _ ▸ e3 _ _ h.2.2.2.1) e4 (fresh_row W' hfr)⟩) W h
include hb in
theorem rF_7 (hfr : Fresh m) (h : Rst w0 w1 k g b m s W) :
    Calls Tryz.prog 38 #[.iface 94 (.pointer (some ⟨k, 0, none⟩)), .pointer (some ⟨g, 0, none⟩), .int .i64 7] W fun e W' => e = .returned (.tuple #[]) ∧ Rst w0 w1 k g b (rdF b m s 7).1 (rdF b m s 7).2 W' :=
  pf_7 (nilR_text k) (metR_text k) (fun args W => cfR_text W args) g (Rst w0 w1 k g b m s) (Rst w0 w1 k g b (rdF b m s 7).1 (rdF b m s 7).2) (fun _ h => h.drew)
    (fun W h => (rText k g 9 b s W hb h.2.2.1 h.1.1 (tgt_msg h.2.2.2.1 (by omega))).mono fun _ W' ⟨e1, e2, e3, e4⟩ => ⟨e1, h.next e2 (show W'.heap[g]? = _ from setB_7 m _ ▸ e3 _ _ h.2.2.2.1) e4 (fresh_row W' hfr)⟩) W h
include hb in
theorem rF_8 (hfr : Fresh m) (h : Rst w0 w1 k g b m s W) :
    Calls Tryz.prog 38 #[.iface 94 (.pointer (some ⟨k, 0, none⟩)), .pointer (some ⟨g, 0, none⟩), .int .i64 8] W fun e W' => e = .returned (.tuple #[]) ∧ ∃ v, Rst w0 w1 k g b { (rdF b m s 8).1 with nv := v } (rdF b m s 8).2 W' :=
  pf_8 (nilR_names k) (metR_names k) (fun args W => cfR_names W args) g (Rst w0 w1 k g b m s) (fun W' => ∃ v, Rst w0 w1 k g b { (rdF b m s 8).1 with nv := v } (rdF b m s 8).2 W') (fun _ h => h.drew)
    (fun W h => (rNames k g 10 b s (cellsB m) 30 W hb h.2.2.1 h.1.1 h.2.2.2.1 (by have : (cellsB m)[10]? = some m.nv := rfl; rw [this]; exact congrArg some hfr.1)).mono fun _ W' ⟨e1, v, e2, e3, hr, e4⟩ => ⟨e1, v, h.next e2 (show W'.heap[g]? = _ from setB_8 m v ▸ e3) e4 ⟨hr.mono (Nat.le_succ_of_le h.2.1.size), (fresh_row W' hfr).2⟩⟩) W h
include hb in
theorem rF_9 (hfr : Fresh m) (h : Rst w0 w1 k g b m s W) :
    Calls Tryz.prog 38 #[.iface 94 (.pointer (some ⟨k, 0, none⟩)), .pointer (some ⟨g, 0, none⟩), .int .i64 9] W fun e W' => e = .returned (.tuple #[]) ∧ ∃ v, Rst w0 w1 k g b { (rdF b m s 9).1 with qv := v } (rdF b m s 9).2 W' :=
  pf_9 (nilR_qids k) (metR_qids k) (fun args W => cfR_qids W args) g (Rst w0 w1 k g b m s) (fun W' => ∃ v, Rst w0 w1 k g b { (rdF b m s 9).1 with qv := v } (rdF b m s 9).2 W') (fun _ h => h.drew)
    (fun W h => (rQids k g 11 b s (cellsB m) 30 W hb h.2.2.1 h.1.1 h.2.2.2.1 (by have : (cellsB m)[11]? = some m.qv := rfl; rw [this]; exact congrArg some hfr.2.1)).mono fun _ W' ⟨e1, v, e2, e3, hr, e4⟩ => ⟨e1, v, h.next e2 (show W'.heap[g]? = _ from setB_9 m v ▸ e3) e4 ⟨(fresh_row W' hfr).1, hr.mono (Nat.le_succ_of_le h.2.1.size)⟩⟩) W h
include hb in
theorem rF_10 (hfr : Fresh m) (h : Rst w0 w1 k g b m s W) :
    Calls Tryz.prog 38 #[.iface 94 (.pointer (some ⟨k, 0, none⟩)), .pointer (some ⟨g, 0, none⟩), .int .i64 10] W fun e W' => e = .returned (.tuple #[]) ∧ Rst w0 w1 k g b (rdF b m s 10).1 (rdF b m s 10).2 W' :=
  pf_10 g (Rst w0 w1 k g b m s) (Rst w0 w1 k g b (rdF b m s 10).1 (rdF b m s 10).2)
    (fun W h => (rPassQid k g 12 b s (cellsB m) 30 W W hb h.1.1 (by show 14 < 39; omega) ⟨h.2.2.1, h.2.2.2.1, Kp.refl _ _ _⟩).mono fun _ W' ⟨e1, e2, e3, e4⟩ => ⟨e1, h.next e2 (show W'.heap[g]? = _ from setB_10 m _ ▸ e3) e4 (fresh_row W' hfr)⟩) W h
include hb in
theorem rF_11 (hfr : Fresh m) (h : Rst w0 w1 k g b m s W) :
    Calls Tryz.prog 38 #[.iface 94 (.pointer (some ⟨k, 0, none⟩)), .pointer (some ⟨g, 0, none⟩), .int .i64 11] W fun e W' => e = .returned (.tuple #[]) ∧ Rst w0 w1 k g b (rdF b m s 11).1 (rdF b m s 11).2 W' :=
  pf_11 (nilR_number k) (metR_number k) (fun args W => cfR_number W args) g (Rst w0 w1 k g b m s) (Rst w0 w1 k g b (rdF b m s 11).1 (rdF b m s 11).2) (fun _ h => h.drew)
    (fun W h => (rNumber k g 15 b s 4 4 W rfl hb h.2.2.1 h.1.1 (tgt_msg h.2.2.2.1 (by omega))).mono fun _ W' ⟨e1, e2, e3, e4⟩ => ⟨e1, h.next e2 (show W'.heap[g]? = _ from setB_11 m _ ▸ e3 _ _ h.2.2.2.1) e4 (fresh_row W' hfr)⟩) W h
include hb in
theorem rF_12 (hfr : Fresh m) (h : Rst w0 w1 k g b m s W) :
    Calls Tryz.prog 38 #[.iface 94 (.pointer (some ⟨k, 0, none⟩)), .pointer (some ⟨g, 0, none⟩), .int .i64 12] W fun e W' => e = .returned (.tuple #[]) ∧ Rst w0 w1 k g b (rdF b m s 12).1 (rdF b m s 12).2 W' :=
  pf_12 (nilR_number k) (metR_number k) (fun args W => cfR_number W args) g (Rst w0 w1 k g b m s) (Rst w0 w1 k g b (rdF b m s 12).1 (rdF b m s 12).2) (fun _ h => h.drew)
    (fun W h => (rNumber k g 16 b s 1 1 W rfl hb h.2.2.1 h.1.1 (tgt_msg h.2.2.2.1 (by omega))).mono fun _ W' ⟨e1, e2, e3, e4⟩ => ⟨e1, h.next e2 (show W'.heap[g]? = _ from setB_12 m _ ▸ e3 _ _ h.2.2.2.1) e4 (fresh_row W' hfr)⟩) W h
include hb in
theorem rF_13 (hfr : Fresh m) (h : Rst w0 w1 k g b m s W) :
    Calls Tryz.prog 38 #[.iface 94 (.pointer (some ⟨k, 0, none⟩)), .pointer (some ⟨g, 0, none⟩), .int .i64 13] W fun e W' => e = .returned (.tuple #[]) ∧ Rst w0 w1 k g b (rdF b m s 13).1 (rdF b m s 13).2 W' :=
  pf_13 (nilR_number k) (metR_number k) (fun args W => cfR_number W args) g (Rst w0 w1 k g b m s) (Rst w0 w1 k g b (rdF b m s 13).1 (rdF b m s 13).2) (fun _ h => h.drew)
    (fun W h => (rNumber k g 17 b s 4 4 W rfl hb h.2.2.1 h.1.1 (tgt_msg h.2.2.2.1 (by omega))).mono fun _ W' ⟨e1, e2, e3, e4⟩ => ⟨e1, h.next e2 (show W'.heap[g]? = _ from setB_13 m _ ▸ e3 _ _ h.2.2.2.1) e4 (fresh_row W' hfr)⟩) W h
include hb in
theorem rF_14 (hfr : Fresh m) (h : Rst w0 w1 k g b m s W) :
    Calls Tryz.prog 38 #[.iface 94 (.pointer (some ⟨k, 0, none⟩)), .pointer (some ⟨g, 0, none⟩), .int .i64 14] W fun e W' => e = .returned (.tuple #[]) ∧ Rst w0 w1 k g b (rdF b m s 14).1 (rdF b m s 14).2 W' :=
  pf_14 (nilR_text k) (metR_text k) (fun args W => cfR_text W args) g (Rst w0 w1 k g b m s) (Rst w0 w1 k g b (rdF b m s 14).1 (rdF b m s 14).2) (fun _ h => h.drew)
    (fun W h => (rText k g 18 b s W hb h.2.2.1 h.1.1 (tgt_msg h.2.2.2.1 (by omega))).mono fun _ W' ⟨e1, e2, e3, e4⟩ => ⟨e1, h.next e2 (show W'.heap[g]? = _ from setB_14 m _ ▸ e3 _ _ h.2.2.2.1) e4 (fresh_row W' hfr)⟩) W h
include hb in
theorem rF_15 (hfr : Fresh m) (h : Rst w0 w1 k g b m s W) :
    Calls Tryz.prog 38 #[.iface 94 (.pointer (some ⟨k, 0, none⟩)), .pointer (some ⟨g, 0, none⟩), .int .i64 15] W fun e W' => e = .returned (.tuple #[]) ∧ Rst w0 w1 k g b (rdF b m s 15).1 (rdF b m s 15).2 W' :=
  pf_15 (nilR_number k) (metR_number k) (fun args W => cfR_number W args) g (Rst w0 w1 k g b m s) (Rst w0 w1 k g b (rdF b m s 15).1 (rdF b m s 15).2) (fun _ h => h.drew)
    (fun W h => (rNumber k g 19 b s 8 8 W rfl hb h.2.2.1 h.1.1 (tgt_msg h.2.2.2.1 (by omega))).mono fun _ W' ⟨e1, e2, e3, e4⟩ => ⟨e1, h.next e2 (show W'.heap[g]? = _ from setB_15 m _ ▸ e3 _ _ h.2.2.2.1) e4 (fresh_row W' hfr)⟩) W h
include hb in
theorem rF_16 (hfr : Fresh m) (h : Rst w0 w1 k g b m s W) :
    Calls Tryz.prog 38 #[.iface 94 (.pointer (some ⟨k, 0, none⟩)), .pointer (some ⟨g, 0, none⟩), .int .i64 16] W fun e W' => e = .returned (.tuple #[]) ∧ Rst w0 w1 k g b (rdF b m s 16).1 (rdF b m s 16).2 W' :=
  pf_16 (nilR_number k) (metR_number k) (fun args W => cfR_number W args) g (Rst w0 w1 k g b m s) (Rst w0 w1 k g b (rdF b m s 16).1 (rdF b m s 16).2) (fun _ h => h.drew)
    (fun W h => (rNumber k g 20 b s 4 4 W rfl hb h.2.2.1 h.1.1 (tgt_msg h.2.2.2.1 (by omega))).mono fun _ W' ⟨e1, e2, e3, e4⟩ => ⟨e1, h.next e2 (show W'.heap[g]? = _ from setB_16 m _ ▸ e3 _ _ h.2.2.2.1) e4 (fresh_row W' hfr)⟩) W h
include hb in
theorem rF_17 (hfr : Fresh m) (h : Rst w0 w1 k g b m s W) (ha : s.at' ≤ b.length) :
    Calls Tryz.prog 38 #[.iface 94 (.pointer (some ⟨k, 0, none⟩)), .pointer (some ⟨g, 0, none⟩), .int .i64 17] W fun e W' => e = .returned (.tuple #[]) ∧ Rst w0 w1 k g b (rdF b m s 17).1 (rdF b m s 17).2 W' :=
  pf_17 (nilR_data k) (metR_data k) (fun args W => cfR_data W args) g (Rst w0 w1 k g b m s) (Rst w0 w1 k g b (rdF b m s 17).1 (rdF b m s 17).2) (fun _ h => h.drew)
    (fun W h => (rData k g 21 b m.da s W (by rw [mk_size]; exact hb) ha h.2.2.1 h.1.1 (tgt_msg h.2.2.2.1 (by omega)) ⟨_, _, h.2.2.2.1, rfl⟩).mono fun _ W' ⟨e1, e2, e3, e4⟩ => ⟨e1, h.next e2 (show W'.heap[g]? = _ from setB_17 m _ ▸ e3 _ _ h.2.2.2.1) e4 (fresh_row W' hfr)⟩) W h
include hb in
theorem rF_18 (hfr : Fresh m) (h : Rst w0 w1 k g b m s W) (ha : s.at' ≤ b.length) (g0 : G w0) :
    Calls Tryz.prog 38 #[.iface 94 (.pointer (some ⟨k, 0, none⟩)), .pointer (some ⟨g, 0, none⟩), .int .i64 18] W fun e W' => e = .returned (.tuple #[]) ∧ Rst w0 w1 k g b (rdF b m s 18).1 (rdF b m s 18).2 W' :=
  pf_18 (nilR_dir k) (metR_dir k) (fun args W => cfR_dir W args) g (Rst w0 w1 k g b m s) (Rst w0 w1 k g b (rdF b m s 18).1 (rdF b m s 18).2) (fun _ h => h.drew)
    (fun W h => (rDir k g b m s W hb ha (g0.below h.2.1) (fun _ hK => g0.below (h.2.1.trans ((Kp.self (g := k) hK).below h.1.2.1 h.1.2.1 h.2.1.size))) h.2.2.1 h.1.1 h.2.2.2.1).mono fun _ W' ⟨e1, e2, e3, e4⟩ => ⟨e1, h.next e2 e3 e4 (fresh_row W' hfr)⟩) W h
include hb in
theorem rF_19 (hfr : Fresh m) (h : Rst w0 w1 k g b m s W) :
    Calls Tryz.prog 38 #[.iface 94 (.pointer (some ⟨k, 0, none⟩)), .pointer (some ⟨g, 0, none⟩), .int .i64 19] W fun e W' => e = .returned (.tuple #[]) ∧ Rst w0 w1 k g b (rdF b m s 19).1 (rdF b m s 19).2 W' :=
  pf_19 (nilR_errno k) (metR_errno k) (fun args W => cfR_errno W args) g (Rst w0 w1 k g b m s) (Rst w0 w1 k g b (rdF b m s 19).1 (rdF b m s 19).2) (fun _ h => h.drew)
    (fun W h => (rErrno k g 35 b s W hb h.2.2.1 h.1.1 (tgt_msg h.2.2.2.1 (by omega))).mono fun _ W' ⟨e1, e2, e3, e4⟩ => ⟨e1, h.next e2 (show W'.heap[g]? = _ from setB_19 m _ ▸ e3 _ _ h.2.2.2.1) e4 (fresh_row W' hfr)⟩) W h
include hb in
theorem rF_20 (hfr : Fresh m) (h : Rst w0 w1 k g b m s W) :
    Calls Tryz.prog 38 #[.iface 94 (.pointer (some ⟨k, 0, none⟩)), .pointer (some ⟨g, 0, none⟩), .int .i64 20] W fun e W' => e = .returned (.tuple #[]) ∧ Rst w0 w1 k g b (rdF b m s 20).1 (rdF b m s 20).2 W' :=
  pf_20 (nilR_number k) (metR_number k) (fun args W => cfR_number W args) g (Rst w0 w1 k g b m s) (Rst w0 w1 k g b (rdF b m s 20).1 (rdF b m s 20).2) (fun _ h => h.drew)
    (fun W h => (rNumber k g 36 b s 1 1 W rfl hb h.2.2.1 h.1.1 (tgt_msg h.2.2.2.1 (by omega))).mono fun _ W' ⟨e1, e2, e3, e4⟩ => ⟨e1, h.next e2 (show W'.heap[g]? = _ from setB_20 m _ ▸ e3 _ _ h.2.2.2.1) e4 (fresh_row W' hfr)⟩) W h
include hb in
theorem rF_21 (hfr : Fresh m) (h : Rst w0 w1 k g b m s W) :
    Calls Tryz.prog 38 #[.iface 94 (.pointer (some ⟨k, 0, none⟩)), .pointer (some ⟨g, 0, none⟩), .int .i64 21] W fun e W' => e = .returned (.tuple #[]) ∧ Rst w0 w1 k g b (rdF b m s 21).1 (rdF b m s 21).2 W' :=
  pf_21 (nilR_number k) (metR_number k) (fun args W => cfR_number W args) g (Rst w0 w1 k g b m s) (Rst w0 w1 k g b (rdF b m s 21).1 (rdF b m s 21).2) (fun _ h => h.drew)
    (fun W h => (rNumber k g 37 b s 4 4 W rfl hb h.2.2.1 h.1.1 (tgt_msg h.2.2.2.1 (by omega))).mono fun _ W' ⟨e1, e2, e3, e4⟩ => ⟨e1, h.next e2 (show W'.heap[g]? = _ from setB_21 m _ ▸ e3 _ _ h.2.2.2.1) e4 (fresh_row W' hfr)⟩) W h
include hb in
theorem rF_22 (hfr : Fresh m) (h : Rst w0 w1 k g b m s W) :
    Calls Tryz.prog 38 #[.iface 94 (.pointer (some ⟨k, 0, none⟩)), .pointer (some ⟨g, 0, none⟩), .int .i64 22] W fun e W' => e = .returned (.tuple #[]) ∧ Rst w0 w1 k g b (rdF b m s 22).1 (rdF b m s 22).2 W' :=
  pf_22 (nilR_text k) (metR_text k) (fun args W => cfR_text W args) g (Rst w0 w1 k g b m s) (Rst w0 w1 k g b (rdF b m s 22).1 (rdF b m s 22).2) (fun _ h => h.drew)
    (fun W h => (rText k g 38 b s W hb h.2.2.1 h.1.1 (tgt_msg h.2.2.2.1 (by omega))).mono fun _ W' ⟨e1, e2, e3, e4⟩ => ⟨e1, h.next e2 (show W'.heap[g]? = _ from setB_22 m _ ▸ e3 _ _ h.2.2.2.1) e4 (fresh_row W' hfr)⟩) W h
end
end Go.Proofs.YtlfdmbfbfadifaaGreatDoor
