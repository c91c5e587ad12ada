/-
  Lists of descriptions in memory; two of them compared.
-/
import Derived.Test.YtinjnbcikoejkaaDoorSg
import Derived.Deep.AppendLies
import Derived.Laws.OwnMore
import Derived.Maps.AppendAt
import Derived.OwnWalk
import Derived.Handy
namespace Go.Proofs.YtinjnbcikoejkaaDoor
open Go.RowKit

def atD (L : List DD) (k : Nat) : DD := L.getD k noD
def flatD (L : List DD) : List Value := L.flatMap cellsD
theorem cellsD_len (d : DD) : (cellsD d).length = 13 := rfl
theorem flatD_len (L : List DD) : (flatD L).length = L.length * 13 := by
  induction L with
  | nil => rfl
  | cons d L ih => rw [flatD, List.flatMap_cons, List.length_append, cellsD_len]; simp only [flatD] at ih; rw [ih, List.length_cons]; omega
theorem flatD_get (L : List DD) : ∀ (k j : Nat), k < L.length → j < 13 → (flatD L)[k * 13 + j]? = (cellsD (atD L k))[j]? := by
  induction L with
  | nil => intro k j hk; simp at hk
  | cons d L ih =>
    intro k j hk hj
    rw [flatD, List.flatMap_cons]
    cases k with
    | zero =>
      rw [List.getElem?_append_left (by rw [cellsD_len]; omega)]
      simp [atD]
    | succ k =>
      rw [List.getElem?_append_right (by rw [cellsD_len]; omega), cellsD_len, show (k + 1) * 13 + j - 13 = k * 13 + j by omega]
      have := ih k j (by simpa using hk) hj
      rw [flatD] at this
      rw [this]
      simp [atD]
theorem flatD_snoc (L : List DD) (d : DD) : flatD (L ++ [d]) = flatD L ++ cellsD d := by simp [flatD]

/-- The slice v holds the descriptions L, in a block that lies below the world's size. -/
def DRow (w : World) (v : Value) (L : List DD) : Prop :=
  ∃ p cap, v = .slice p L.length cap ∧ L.length ≤ cap ∧ cap ≤ maxLen ∧ (L ≠ [] → ∃ b o, p = some ⟨b, o, none⟩ ∧ b < w.heap.size ∧ ∀ k, k < L.length → ∀ j u, (cellsD (atD L k))[j]? = some u → w.cell? ⟨b, o + k * 13 + j, none⟩ = some u)
theorem DRow.below {w w' : World} {v : Value} {L : List DD} (h : DRow w v L) (hB : Below w.heap.size w w') : DRow w' v L := by
  obtain ⟨p, cap, rfl, hc, hm, h⟩ := h
  refine ⟨p, cap, rfl, hc, hm, fun hL => ?_⟩
  obtain ⟨b, o, rfl, hb, hcell⟩ := h hL
  exact ⟨b, o, rfl, Nat.lt_of_lt_of_le hb hB.size, fun k hk j u hu => (hB.cell (p := ⟨b, o + k * 13 + j, none⟩) hb).trans (hcell k hk j u hu)⟩
theorem DRow.nil_ (w : World) : DRow w (.slice none 0 0) [] := ⟨none, 0, rfl, Nat.le_refl _, Nat.zero_le _, fun h => absurd rfl h⟩
/-- What a round reads of description k. -/
theorem DRow.at_ {w wr : World} {v : Value} {L : List DD} (h : DRow w v L) (hB : Below w.heap.size w wr) {k : Nat} (hk : k < L.length) :
    ∃ b o cap d, atD L k = d ∧ v = .slice (some ⟨b, o, none⟩) L.length cap ∧ b < w.heap.size ∧ (L.length : Int) ≤ (cap : Int) ∧ wr.cell? ⟨b, o + k * 13, none⟩ = some (.int .i64 d.ty) ∧ wr.cell? ⟨b, o + k * 13 + 1, none⟩ = some (.int .i64 d.dv) ∧ wr.cell? ⟨b, o + k * 13 + 2, none⟩ = some (.int .i64 d.qt) ∧ wr.cell? ⟨b, o + k * 13 + 3, none⟩ = some (.int .i64 d.qv) ∧ wr.cell? ⟨b, o + k * 13 + 4, none⟩ = some (.int .i64 d.qp) ∧ wr.cell? ⟨b, o + k * 13 + 5, none⟩ = some (.int .i64 d.mo) ∧ wr.cell? ⟨b, o + k * 13 + 6, none⟩ = some (.int .i64 d.ai) ∧ wr.cell? ⟨b, o + k * 13 + 7, none⟩ = some (.int .i64 d.mi) ∧ wr.cell? ⟨b, o + k * 13 + 8, none⟩ = some (.int .i64 d.ln) ∧ wr.cell? ⟨b, o + k * 13 + 9, none⟩ = some (.string (mk d.nm)) ∧ wr.cell? ⟨b, o + k * 13 + 10, none⟩ = some (.string (mk d.ui)) ∧ wr.cell? ⟨b, o + k * 13 + 11, none⟩ = some (.string (mk d.gi)) ∧ wr.cell? ⟨b, o + k * 13 + 12, none⟩ = some (.string (mk d.mu)) := by
  obtain ⟨p, cap, rfl, hc, hm, h⟩ := h
  obtain ⟨b, o, rfl, hb, hcell⟩ := h (by rintro rfl; simp at hk)
  have key := fun j u hu => (hB.cell (p := ⟨b, o + k * 13 + j, none⟩) hb).trans (hcell k hk j u hu)
  exact ⟨b, o, cap, _, rfl, rfl, hb, by omega, key 0 _ rfl, key 1 _ rfl, key 2 _ rfl, key 3 _ rfl, key 4 _ rfl, key 5 _ rfl, key 6 _ rfl, key 7 _ rfl, key 8 _ rfl, key 9 _ rfl, key 10 _ rfl, key 11 _ rfl, key 12 _ rfl⟩

/-- v is a slice of the call's own that holds the descriptions acc. -/
def DOwn (B : Nat) (w : World) (v : Value) (acc : List DD) : Prop := w.ownsRow B 25 13 v acc.length (flatD acc)
theorem DOwn.nil_ (B : Nat) (w : World) : DOwn B w (.slice none 0 0) [] := World.ownsRow_nil _ _ _ _
theorem DOwn.row {B : Nat} {w : World} {v : Value} {acc : List DD} (h : DOwn B w v acc) : DRow w v acc := by
  have hown := h
  obtain ⟨h1, h2⟩ := h
  rcases h2 with ⟨rfl, hx⟩ | ⟨g, cap, cur, rfl, hb, hg, hnc, hcm, rest⟩
  · have : acc = [] := List.eq_nil_of_length_eq_zero hx
    subst this
    exact DRow.nil_ w
  · refine ⟨some ⟨g, 0, none⟩, cap, rfl, hnc, hcm, fun _ => ⟨g, 0, rfl, (Array.getElem?_eq_some_iff.1 hg).1, fun k hkl j u hu => ?_⟩⟩
    have hj : j < 13 := by
      have := (List.getElem?_eq_some_iff.1 hu).1
      rwa [cellsD_len] at this
    have := World.ownsRow.cells (w := w) hown rfl (k * 13 + j) u ((flatD_get acc k j hkl hj).trans hu)
    rw [add_at] at this
    rw [show 0 + k * 13 + j = 0 + (k * 13 + j) by omega]
    exact this
theorem DOwn.below {B : Nat} {w w' : World} {v : Value} {acc : List DD} (h : DOwn B w v acc) (hB : Below w.heap.size w w') : DOwn B w' v acc :=
  World.ownsRow.kept (row := none) h ⟨hB.os, hB.tape, hB.output, hB.size, fun k hk _ => hB.block k hk⟩ (by cases v.ownBlock <;> simp)
theorem DOwn.more {B : Nat} {w : World} {v : Value} {acc : List DD} {d : DD} (h : w.ownsRow B 25 13 v (acc.length + 1) (flatD acc ++ cellsD d)) : DOwn B w v (acc ++ [d]) := by
  unfold DOwn
  rw [List.length_append, flatD_snoc]
  exact h
theorem below_grown {B : Nat} {w w1 : World} {e : TypeId} {sz : Nat} {v : Value} {n : Nat} {xs : List Value} (hB : B ≤ w.heap.size) (hown : w.ownsRow B e sz v n xs) (hg : w.grownBy w1 v.ownBlock) : Below B w w1 :=
  (Below.refl B w).grown hg hB (fun k hk => (hown.lt k hk).1)
theorem info_dir : (Tryd.prog.info? 25).map (fun i => (i.zero, i.size, i.bytes)) = some (some (.agg (cellsA noD)), 13, 136) := by kernel_rfl

set_option maxRecDepth 100000 in
set_option maxHeartbeats 3200000 in
theorem equal_any (v1 v2 : Value) (L : List DD) (w : World) (h1 : DRow w v1 L) (h2 : DRow w v2 L) :
    Calls Tryd.prog 20 #[v1, v2] w fun e w' => e = .returned (.bool true) ∧ Below w.heap.size w w' := by
  have H1 := Lib.hid h1
  have H2 := Lib.hid h2
  obtain ⟨p1, cap1, rfl, hc1, hm1, _⟩ := h1
  obtain ⟨p2, cap2, rfl, hc2, hm2, _⟩ := h2
  unfold maxLen at hm1 hm2
  go_enter Tryd.func20, Tryd.ntmps20
  go_wp2
  go_loopw [13] (fun vk wr => ∃ k : Nat, vk = .int .i64 (k : Int) ∧ k ≤ L.length ∧ Hid (Below w.heap.size w wr)) (fun vk _ => L.length - (intOf vk).toNat)
  case atStart => exact ⟨0, rfl, by omega, Below.refl _ _⟩
  case round =>
    obtain ⟨k, rfl, hk, HB⟩ := hrel
    by_cases hlt : k < L.length
    · obtain ⟨b, o, cap, d, hd, hv, hb, hcl, x0, x1, x2, x3, x4, x5, x6, x7, x8, x9, x10, x11, x12⟩ := H1.out.at_ HB.out hlt
      obtain ⟨b', o', cap', d', hd', hv', hb', hcl', y0, y1, y2, y3, y4, y5, y6, y7, y8, y9, y10, y11, y12⟩ := H2.out.at_ HB.out hlt
      obtain rfl : d = d' := hd.symm.trans hd'
      injection hv with e1 e2 e3
      injection hv' with e1' e2' e3'
      subst e1 e3 e1' e3'
      have hne : ∀ W, (binOp .neq 25 (.agg #[.int .i64 d.ty, .int .i64 d.dv, .int .i64 d.qt, .int .i64 d.qv, .int .i64 d.qp, .int .i64 d.mo, .int .i64 d.ai, .int .i64 d.mi, .int .i64 d.ln, .string (mk d.nm), .string (mk d.ui), .string (mk d.gi), .string (mk d.mu)]) (.agg #[.int .i64 d.ty, .int .i64 d.dv, .int .i64 d.qt, .int .i64 d.qv, .int .i64 d.qp, .int .i64 d.mo, .int .i64 d.ai, .int .i64 d.mi, .int .i64 d.ln, .string (mk d.nm), .string (mk d.ui), .string (mk d.gi), .string (mk d.mu)])).run Tryd.prog W = .ok (.bool (!(eqB d d))) W := neq_dir d d
      have hgd : ∀ x y W, (eqGuard .neq 25 x y (.agg #[.int .i64 d.ty, .int .i64 d.dv, .int .i64 d.qt, .int .i64 d.qv, .int .i64 d.qp, .int .i64 d.mo, .int .i64 d.ai, .int .i64 d.mi, .int .i64 d.ln, .string (mk d.nm), .string (mk d.ui), .string (mk d.gi), .string (mk d.mu)]) (.agg #[.int .i64 d.ty, .int .i64 d.dv, .int .i64 d.qt, .int .i64 d.qv, .int .i64 d.qp, .int .i64 d.mo, .int .i64 d.ai, .int .i64 d.mi, .int .i64 d.ln, .string (mk d.nm), .string (mk d.ui), .string (mk d.gi), .string (mk d.mu)])).run Tryd.prog W = .ok () W := fun x y => guard_dir .neq x y d d
      rw [eqB_self] at hne
      have k0 : (0 : Int) ≤ (k : Int) := by omega
      have k1 : (k : Int) < (L.length : Int) := by omega
      clear hd hd' hb hb' e2 e2'
      go_wp2
      go_quiet (fail)
      go_wp2
      exact ⟨⟨k + 1, by go_num, by omega, below_drewN HB.out _⟩, by simp [intOf]; omega⟩
    · obtain rfl : k = L.length := by omega
      go_wp2
      go_ret
      exact ⟨rfl, HB.out⟩
end Go.Proofs.YtinjnbcikoejkaaDoor
