/-
  slices.Grow of a nil slice and slices.Concat of two slices of rows.
-/
import Derived.Test.YtpcohlacmhbclaaFb
import Derived.Deep.AppendLies
import Derived.Laws.OwnMore
import Derived.Maps.AppendAt
import Derived.OwnWalk
import Derived.Lib.AppendZerosOnto
import Derived.Lib.AppendZeros
namespace Go.Proofs.Ytpcohlacmhbclaa
open Go.RowKit

theorem info_row : (Try.prog.info? 36).map (fun i => (i.zero, i.size, i.bytes)) = some (some (.agg #[.int .i64 0, .string ⟨#[]⟩]), 2, 24) := by kernel_rfl

set_option maxRecDepth 100000 in
set_option maxHeartbeats 1600000 in
theorem Grow_nil (n : Nat) (h0 : 0 < n) (hn : n ≤ 100000) (w : World) :
    Calls Try.prog 24 #[.slice none 0 0, .int .i64 (n : Int)] w fun e w' => ∃ v, e = .returned v ∧ w'.ownsRow w.heap.size 36 2 v 0 [] ∧ Below w.heap.size w w' := by
  obtain ⟨i0, hi, hz, hs, hb⟩ := info_parts info_row
  have hold : (Builtin.firstCells i0.size 0 (.slice none 0 0)).run Try.prog w.drew = .ok ([] : List Value).toArray w.drew := by simp [Builtin.firstCells]
  have hrz : ∀ ty, (Builtin.append_ #[33, 3] ty #[.slice none 0 0, .int .i64 (n : Int)]).run Try.prog w =
      .ok (.slice (some ⟨w.heap.size, 0, none⟩) n (grownCap w n 0 36)) (w.drew.alloc (.cells (Builtin.zeroCells (Value.agg #[.int .i64 0, .string ⟨#[]⟩]).cells n ++ Builtin.zeroCells (Value.agg #[.int .i64 0, .string ⟨#[]⟩]).cells (grownCap w n 0 36 - n)) 36)) := fun ty => by
    have h := Lib.run_append_grow_zeros w 33 3 ty 36 i0 _ .i64 .i64 Try.underlying33 Try.underlying3 hi hz none 0 0 [] hold n h0 (by omega) (by omega) (by omega) (by rw [hb]; omega)
      (by rw [Nat.zero_add]; exact growslice_fits h0 (by rw [hb]; omega))
    simpa using h
  have hg := grownCap_ge w n 0 36
  have hm := grownCap_le_maxLen w n 0 36 (by unfold maxLen; omega)
  generalize grownCap w n 0 36 = G at hrz hg hm
  have HM := Lib.hid hm
  have hG63 : G ≤ 9223372036854775807 := by unfold maxLen at hm; omega
  have hfin : ((w.drew.alloc (.cells (Builtin.zeroCells (Value.agg #[.int .i64 0, .string ⟨#[]⟩]).cells n ++ Builtin.zeroCells (Value.agg #[.int .i64 0, .string ⟨#[]⟩]).cells (G - n)) 36)).ownsRow w.heap.size 36 2 (.slice (some ⟨w.heap.size, 0, none⟩) 0 G) 0 []) :=
    ⟨rfl, .inr ⟨w.heap.size, G, _, rfl, Nat.le_refl _, heap_alloc_new w.drew _, Nat.zero_le _, hm, by
      rw [Array.size_append, size_zeroCells, size_zeroCells, show (Value.agg #[.int .i64 0, .string ⟨#[]⟩]).cells.size = 2 by rfl, ← Nat.add_mul]; congr 1; omega, by simp⟩⟩
  have HF := Lib.hid hfin
  clear hold hi hz hs hb hm hfin
  go_enter Try.func24, Try.ntmps24
  go_wp2_with (at_builtin; refine Lib.wpList_append_run _ rfl _ _ _ _ rfl _ _ rfl rfl _ _ (hrz _) ?_)
  go_ret
  exact ⟨_, rfl, HF.out, ((Below.refl _ w).drew).alloc (Nat.le_refl _) _⟩

/-- A slice value of n rows that lies at the head of block g and reads the cells xs. -/
def Lies (w : World) (v : Value) (n : Nat) (xs : List Value) : Prop := ∃ g c, v = .slice (some ⟨g, 0, none⟩) n c ∧ g < w.heap.size ∧ xs.length = n * 2 ∧ (∀ j u, xs[j]? = some u → w.cell? ⟨g, j, none⟩ = some u)
theorem Lies.below {w w' : World} {v : Value} {n : Nat} {xs : List Value} (h : Lies w v n xs) (hB : Below w.heap.size w w') : Lies w' v n xs := by
  obtain ⟨g, c, rfl, hg, hl, hc⟩ := h
  exact ⟨g, c, rfl, Nat.lt_of_lt_of_le hg hB.size, hl, fun j u hj => (hB.cell (p := ⟨g, j, none⟩) hg).trans (hc j u hj)⟩

def sumTo (n1 n2 k : Nat) : Nat := if k = 0 then 0 else if k = 1 then n1 else n1 + n2
def catTo (xs1 xs2 : List Value) (k : Nat) : List Value := if k = 0 then [] else if k = 1 then xs1 else xs1 ++ xs2

set_option maxRecDepth 100000 in
set_option maxHeartbeats 3200000 in
theorem Concat_two (b n1 n2 : Nat) (v1 v2 : Value) (xs1 xs2 : List Value) (w : World) (hb : b < w.heap.size) (h1 : Lies w v1 n1 xs1) (h2 : Lies w v2 n2 xs2) (hn1 : n1 ≤ 1000) (hn2 : n2 ≤ 1000) (hp : 0 < n1)
    (ho1 : ∀ u ∈ xs1, u.oneCell' = true) (ho2 : ∀ u ∈ xs2, u.oneCell' = true) (hc1 : w.cell? ⟨b, 0, none⟩ = some v1) (hc2 : w.cell? ⟨b, 1, none⟩ = some v2) :
    Calls Try.prog 19 #[.slice (some ⟨b, 0, none⟩) 2 2] w fun e w' => ∃ v, e = .returned v ∧ w'.ownsRow w.heap.size 36 2 v (n1 + n2) (xs1 ++ xs2) ∧ Below w.heap.size w w' := by
  have hG := Grow_nil (n1 + n2) (by omega) (by omega) w
  rw [Int.natCast_add] at hG
  have HG := Lib.hid hG
  clear hG
  obtain ⟨g1, c1, rfl, hg1, hl1, hx1⟩ := h1
  obtain ⟨g2, c2, rfl, hg2, hl2, hx2⟩ := h2
  have HX1 := Lib.hid hx1
  have HX2 := Lib.hid hx2
  have HL1 := Lib.hid hl1
  have HL2 := Lib.hid hl2
  have HO1 := Lib.hid ho1
  have HO2 := Lib.hid ho2
  obtain ⟨i0, hi, hz, hsz, hby⟩ := info_parts info_row
  clear hx1 hx2 hl1 hl2 ho1 ho2
  have HC1 := Lib.hid hc1
  have HC2 := Lib.hid hc2
  have hf1 : ¬ ((n1 : Int) < 0) := by omega
  go_enter Try.func19, Try.ntmps19
  go_wp2
  go_loop [3, 11] (fun vs vi => ∃ k : Nat, k ≤ 2 ∧ vi = .int .i64 (k : Int) ∧ vs = .int .i64 (sumTo n1 n2 k : Int)) (fun _ vi => 2 - (intOf vi).toNat)
  case atStart => exact ⟨0, by omega, rfl, rfl⟩
  case round =>
    obtain ⟨k, hk, rfl, rfl⟩ := hrel
    match k, hk with
    | 0, _ =>
      rw [show sumTo n1 n2 0 = 0 from rfl]
      go_wp2
      exact ⟨⟨1, by omega, rfl, rfl⟩, by simp [intOf]⟩
    | 1, _ =>
      rw [show sumTo n1 n2 1 = n1 from rfl]
      go_wp2
      exact ⟨⟨2, by omega, rfl, by show Value.int .i64 _ = .int .i64 ((n1 + n2 : Nat) : Int); congr 1⟩, by simp [intOf]⟩
    | 2, _ =>
      rw [show sumTo n1 n2 2 = n1 + n2 from rfl]
      go_wp2_with fail
      refine HG.out.mono ?_
      rintro e w1 ⟨v, rfl, hv, hB⟩
      have HV := Lib.hid hv
      have HB := Lib.hid hB
      have hsz1 := hB.size
      clear hv hB
      go_wp2
      go_loopw [6, 27] (fun vr vi wr => ∃ k : Nat, k ≤ 2 ∧ vi = .int .i64 (k : Int) ∧ Hid (wr.ownsRow w.heap.size 36 2 vr (sumTo n1 n2 k) (catTo xs1 xs2 k)) ∧ Hid (Below w.heap.size w wr)) (fun _ vi _ => 2 - (intOf vi).toNat)
      case atStart => exact ⟨0, by omega, rfl, HV, HB⟩
      case round =>
        obtain ⟨k, hk, rfl, HR, HW⟩ := hrel
        have hs := HW.out.size
        match k, hk with
        | 0, _ =>
          have hc := (HW.out.cell (p := ⟨b, 0, none⟩) hb).trans HC1.out
          have hx : Hid (∀ j u, xs1[j]? = some u → _root_.Go.World.cell? _ ((⟨g1, 0, none⟩ : Addr).add j) = some u) := fun j u hj => by rw [add_at, Nat.zero_add]; exact (HW.out.cell (p := ⟨g1, j, none⟩) hg1).trans (HX1.out j u hj)
          clear hc1 hc2
          go_wp2_with (at_builtin; refine wpList_append_own _ rfl (.tmp 31) (.tmp 32) 33 rfl w.heap.size 36 i0 _ 2 24 Try.underlying33 hi hz hsz hby rfl (by decide) _ _ _ rfl HR.out ⟨g1, 0, none⟩ n1 c1 xs1 rfl HL1.out hx.out HO1.out (by unfold maxLen sumTo; simp; omega) (by unfold sumTo; simp; omega) hs ?_; intro v' w2 hown' hgrow _)
          exact ⟨⟨1, by omega, rfl, Lib.hid (by simpa [sumTo, catTo] using hown'), HW.out.grown hgrow hs (fun k hk => (HR.out.lt k hk).1)⟩, by simp [intOf]⟩
        | 1, _ =>
          have hc := (HW.out.cell (p := ⟨b, 1, none⟩) hb).trans HC2.out
          have hx : Hid (∀ j u, xs2[j]? = some u → _root_.Go.World.cell? _ ((⟨g2, 0, none⟩ : Addr).add j) = some u) := fun j u hj => by rw [add_at, Nat.zero_add]; exact (HW.out.cell (p := ⟨g2, j, none⟩) hg2).trans (HX2.out j u hj)
          clear hc1 hc2
          go_wp2_with (at_builtin; refine wpList_append_own _ rfl (.tmp 31) (.tmp 32) 33 rfl w.heap.size 36 i0 _ 2 24 Try.underlying33 hi hz hsz hby rfl (by decide) _ _ _ rfl HR.out ⟨g2, 0, none⟩ n2 c2 xs2 rfl HL2.out hx.out HO2.out (by unfold maxLen sumTo; simp; omega) (by unfold sumTo; simp; omega) hs ?_; intro v' w2 hown' hgrow _)
          exact ⟨⟨2, by omega, rfl, Lib.hid (by simpa [sumTo, catTo] using hown'), HW.out.grown hgrow hs (fun k hk => (HR.out.lt k hk).1)⟩, by simp [intOf]⟩
        | 2, _ =>
          clear hc1 hc2
          go_wp2
          go_ret
          exact ⟨_, rfl, HR.out, HW.out⟩
end Go.Proofs.Ytpcohlacmhbclaa
