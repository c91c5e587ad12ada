/-
  Strings as lists of bytes; the rows of the table as cells; the functions that build the table: package fault's and the reference's.
  slices.Grow of a nil slice and slices.Concat of two slices of rows.
  Package fault's rows, Text and Find.
-/
import Derived.Test.YtlfdmbfbfadifaaGreatDoorRows
import Derived.Test.YtlfdmbfbfadifaaGreatDoorFa
import Derived.WalkKit
import Derived.WalkSmall
import Derived.Lib.Hide
import Derived.LoopTactic
import Derived.Deep.AppendLies
import Derived.Laws.OwnMore
import Derived.Maps.AppendAt
import Derived.OwnWalk
import Derived.Lib.AppendZerosOnto
import Derived.Lib.AppendZeros
namespace Go.Proofs.YtlfdmbfbfadifaaGreatDoor.Ft
open Go.RowKit

def mk (l : List UInt8) : ByteArray := ⟨l.toArray⟩
theorem mk_toList (l : List UInt8) : (mk l).toList = l := by rw [Lib.toList_data]; simp [mk]
theorem mk_data (l : List UInt8) : (mk l).data.toList = l := by simp [mk]
theorem mk_of (s : ByteArray) : mk s.data.toList = s := by apply ByteArray.ext; simp [mk]
theorem mk_size (l : List UInt8) : (mk l).size = l.length := by simp [mk, ByteArray.size]
theorem mk_inj {a b : List UInt8} (h : mk a = mk b) : a = b := by rw [← mk_data a, ← mk_data b, h]
theorem add_at (b o j : Nat) : (⟨b, o, none⟩ : Addr).add j = ⟨b, o + j, none⟩ := by
  unfold Addr.add
  split
  · rename_i h; subst h; rfl
  · rfl
def sv (x : List UInt8) : Value := .string (mk x)
theorem mk_app (a b : List UInt8) : mk a ++ mk b = mk (a ++ b) := by
  apply ByteArray.ext
  simp [mk, ByteArray.data_append]

/-- The cells of the rows of the codes a + 1, .., a + n. -/
def rowCells (a n : Nat) : List Value := (List.range n).flatMap fun j => [.int .i64 ((a + j : Nat) + 1 : Int), sv (textsL.getD (a + j + 1) [])]
theorem rowCells_len (a n : Nat) : (rowCells a n).length = 2 * n := by
  unfold rowCells
  induction n with
  | zero => rfl
  | succ n ih => rw [List.range_succ, List.flatMap_append, List.length_append, ih]; simp; omega
theorem rowCells_succ (a n : Nat) : rowCells a (n + 1) = rowCells a n ++ [.int .i64 ((a + n : Nat) + 1 : Int), sv (textsL.getD (a + n + 1) [])] := by
  unfold rowCells
  rw [List.range_succ, List.flatMap_append]
  simp
theorem rowCells_app (a n m : Nat) : rowCells a n ++ rowCells (a + n) m = rowCells a (n + m) := by
  induction m with
  | zero => simp [rowCells]
  | succ m ih => rw [rowCells_succ, ← List.append_assoc, ih, ← Nat.add_assoc, rowCells_succ, Nat.add_assoc a n m]
theorem rowCells_at (a n j : Nat) (hj : j < n) : (rowCells a n)[2 * j]? = some (.int .i64 ((a + j : Nat) + 1 : Int)) ∧ (rowCells a n)[2 * j + 1]? = some (sv (textsL.getD (a + j + 1) [])) := by
  induction n with
  | zero => omega
  | succ n ih =>
    rw [rowCells_succ]
    by_cases h : j < n
    · have := rowCells_len a n
      rw [List.getElem?_append_left (by omega), List.getElem?_append_left (by omega)]
      exact ih h
    · obtain rfl : j = n := by omega
      have hl := rowCells_len a j
      rw [List.getElem?_append_right (by omega), List.getElem?_append_right (by omega), hl, show 2 * j - 2 * j = 0 by omega, show 2 * j + 1 - 2 * j = 1 by omega]
      exact ⟨rfl, rfl⟩

set_option maxRecDepth 100000 in
set_option maxHeartbeats 6400000 in
theorem file_any (w : World) : Calls Tryz.prog 130 #[] w fun e w' => e = .returned (.slice (some ⟨w.heap.size, 0, none⟩) 33 33) ∧ w' = w.alloc (.cells (rowCells 0 33).toArray 177) := by
  go_enter Tryz.func130, Tryz.ntmps130
  go_wp2
  go_ret
  exact ⟨rfl, rfl⟩
set_option maxRecDepth 100000 in
set_option maxHeartbeats 6400000 in
theorem service_any (w : World) : Calls Tryz.prog 131 #[] w fun e w' => e = .returned (.slice (some ⟨w.heap.size, 0, none⟩) 26 26) ∧ w' = w.alloc (.cells (rowCells 33 26).toArray 177) := by
  go_enter Tryz.func131, Tryz.ntmps131
  go_wp2
  go_ret
  exact ⟨rfl, rfl⟩
end Go.Proofs.YtlfdmbfbfadifaaGreatDoor.Ft

namespace Go.Proofs.YtlfdmbfbfadifaaGreatDoor.Ft
open Go.RowKit

theorem info_row : (Tryz.prog.info? 177).map (fun i => (i.zero, i.size, i.bytes)) = some (some (.agg #[.int .i64 0, .string ⟨#[]⟩]), 2, 24) := by kernel_rfl

set_option maxRecDepth 100000 in
set_option maxHeartbeats 1600000 in
theorem Grow_nil (n : Nat) (h0 : 0 < n) (hn : n ≤ 100000) (w : World) :
    Calls Tryz.prog 133 #[.slice none 0 0, .int .i64 (n : Int)] w fun e w' => ∃ v, e = .returned v ∧ w'.ownsRow w.heap.size 177 2 v 0 [] ∧ Below w.heap.size w w' := by
  obtain ⟨i0, hi, hz, hs, hb⟩ := info_parts info_row
  have hold : (Builtin.firstCells i0.size 0 (.slice none 0 0)).run Tryz.prog w.drew = .ok ([] : List Value).toArray w.drew := by simp [Builtin.firstCells]
  have hrz : ∀ ty, (Builtin.append_ #[174, 3] ty #[.slice none 0 0, .int .i64 (n : Int)]).run Tryz.prog w =
      .ok (.slice (some ⟨w.heap.size, 0, none⟩) n (grownCap w n 0 177)) (w.drew.alloc (.cells (Builtin.zeroCells (Value.agg #[.int .i64 0, .string ⟨#[]⟩]).cells n ++ Builtin.zeroCells (Value.agg #[.int .i64 0, .string ⟨#[]⟩]).cells (grownCap w n 0 177 - n)) 177)) := fun ty => by
    have h := Lib.run_append_grow_zeros w 174 3 ty 177 i0 _ .i64 .i64 Tryz.underlying174 Tryz.underlying3 hi hz none 0 0 [] hold n h0 (by omega) (by omega) (by omega) (by rw [hb]; omega)
      (by rw [Nat.zero_add]; exact growslice_fits h0 (by rw [hb]; omega))
    simpa using h
  have hg := grownCap_ge w n 0 177
  have hm := grownCap_le_maxLen w n 0 177 (by unfold maxLen; omega)
  generalize grownCap w n 0 177 = G at hrz hg hm
  have HM := Lib.hid hm
  have hG63 : G ≤ 9223372036854775807 := by unfold maxLen at hm; omega
  have hfin : ((w.drew.alloc (.cells (Builtin.zeroCells (Value.agg #[.int .i64 0, .string ⟨#[]⟩]).cells n ++ Builtin.zeroCells (Value.agg #[.int .i64 0, .string ⟨#[]⟩]).cells (G - n)) 177)).ownsRow w.heap.size 177 2 (.slice (some ⟨w.heap.size, 0, none⟩) 0 G) 0 []) :=
    ⟨rfl, .inr ⟨w.heap.size, G, _, rfl, Nat.le_refl _, heap_alloc_new w.drew _, Nat.zero_le _, hm, by
      rw [Array.size_append, size_zeroCells, size_zeroCells, show (Value.agg #[.int .i64 0, .string ⟨#[]⟩]).cells.size = 2 by rfl, ← Nat.add_mul]; congr 1; omega, by simp⟩⟩
  have HF := Lib.hid hfin
  clear hold hi hz hs hb hm hfin
  go_enter Tryz.func133, Tryz.ntmps133
  go_wp2_with (at_builtin; refine Lib.wpList_append_run _ rfl _ _ _ _ rfl _ _ rfl rfl _ _ (hrz _) ?_)
  go_ret
  exact ⟨_, rfl, HF.out, ((Below.refl _ w).drew).alloc (Nat.le_refl _) _⟩

/-- A slice value of n rows that lies at the head of block g and reads the cells xs. -/
def Lies (w : World) (v : Value) (n : Nat) (xs : List Value) : Prop := ∃ g c, v = .slice (some ⟨g, 0, none⟩) n c ∧ g < w.heap.size ∧ xs.length = n * 2 ∧ (∀ j u, xs[j]? = some u → w.cell? ⟨g, j, none⟩ = some u)
theorem Lies.below {w w' : World} {v : Value} {n : Nat} {xs : List Value} (h : Lies w v n xs) (hB : Below w.heap.size w w') : Lies w' v n xs := by
  obtain ⟨g, c, rfl, hg, hl, hc⟩ := h
  exact ⟨g, c, rfl, Nat.lt_of_lt_of_le hg hB.size, hl, fun j u hj => (hB.cell (p := ⟨g, j, none⟩) hg).trans (hc j u hj)⟩

def sumTo (n1 n2 k : Nat) : Nat := if k = 0 then 0 else if k = 1 then n1 else n1 + n2
def catTo (xs1 xs2 : List Value) (k : Nat) : List Value := if k = 0 then [] else if k = 1 then xs1 else xs1 ++ xs2

set_option maxRecDepth 100000 in
set_option maxHeartbeats 3200000 in
theorem Concat_two (b n1 n2 : Nat) (v1 v2 : Value) (xs1 xs2 : List Value) (w : World) (hb : b < w.heap.size) (h1 : Lies w v1 n1 xs1) (h2 : Lies w v2 n2 xs2) (hn1 : n1 ≤ 1000) (hn2 : n2 ≤ 1000) (hp : 0 < n1)
    (ho1 : ∀ u ∈ xs1, u.oneCell' = true) (ho2 : ∀ u ∈ xs2, u.oneCell' = true) (hc1 : w.cell? ⟨b, 0, none⟩ = some v1) (hc2 : w.cell? ⟨b, 1, none⟩ = some v2) :
    Calls Tryz.prog 129 #[.slice (some ⟨b, 0, none⟩) 2 2] w fun e w' => ∃ v, e = .returned v ∧ w'.ownsRow w.heap.size 177 2 v (n1 + n2) (xs1 ++ xs2) ∧ Below w.heap.size w w' := by
  have hG := Grow_nil (n1 + n2) (by omega) (by omega) w
  rw [Int.natCast_add] at hG
  have HG := Lib.hid hG
  clear hG
  obtain ⟨g1, c1, rfl, hg1, hl1, hx1⟩ := h1
  obtain ⟨g2, c2, rfl, hg2, hl2, hx2⟩ := h2
  have HX1 := Lib.hid hx1
  have HX2 := Lib.hid hx2
  have HL1 := Lib.hid hl1
  have HL2 := Lib.hid hl2
  have HO1 := Lib.hid ho1
  have HO2 := Lib.hid ho2
  obtain ⟨i0, hi, hz, hsz, hby⟩ := info_parts info_row
  clear hx1 hx2 hl1 hl2 ho1 ho2
  have HC1 := Lib.hid hc1
  have HC2 := Lib.hid hc2
  have hf1 : ¬ ((n1 : Int) < 0) := by omega
  go_enter Tryz.func129, Tryz.ntmps129
  go_wp2
  go_loop [3, 11] (fun vs vi => ∃ k : Nat, k ≤ 2 ∧ vi = .int .i64 (k : Int) ∧ vs = .int .i64 (sumTo n1 n2 k : Int)) (fun _ vi => 2 - (intOf vi).toNat)
  case atStart => exact ⟨0, by omega, rfl, rfl⟩
  case round =>
    obtain ⟨k, hk, rfl, rfl⟩ := hrel
    match k, hk with
    | 0, _ =>
      rw [show sumTo n1 n2 0 = 0 from rfl]
      go_wp2
      exact ⟨⟨1, by omega, rfl, rfl⟩, by simp [intOf]⟩
    | 1, _ =>
      rw [show sumTo n1 n2 1 = n1 from rfl]
      go_wp2
      exact ⟨⟨2, by omega, rfl, by show Value.int .i64 _ = .int .i64 ((n1 + n2 : Nat) : Int); congr 1⟩, by simp [intOf]⟩
    | 2, _ =>
      rw [show sumTo n1 n2 2 = n1 + n2 from rfl]
      go_wp2_with fail
      refine HG.out.mono ?_
      rintro e w1 ⟨v, rfl, hv, hB⟩
      have HV := Lib.hid hv
      have HB := Lib.hid hB
      have hsz1 := hB.size
      clear hv hB
      go_wp2
      go_loopw [6, 27] (fun vr vi wr => ∃ k : Nat, k ≤ 2 ∧ vi = .int .i64 (k : Int) ∧ Hid (wr.ownsRow w.heap.size 177 2 vr (sumTo n1 n2 k) (catTo xs1 xs2 k)) ∧ Hid (Below w.heap.size w wr)) (fun _ vi _ => 2 - (intOf vi).toNat)
      case atStart => exact ⟨0, by omega, rfl, HV, HB⟩
      case round =>
        obtain ⟨k, hk, rfl, HR, HW⟩ := hrel
        have hs := HW.out.size
        match k, hk with
        | 0, _ =>
          have hc := (HW.out.cell (p := ⟨b, 0, none⟩) hb).trans HC1.out
          have hx : Hid (∀ j u, xs1[j]? = some u → _root_.Go.World.cell? _ ((⟨g1, 0, none⟩ : Addr).add j) = some u) := fun j u hj => by rw [add_at, Nat.zero_add]; exact (HW.out.cell (p := ⟨g1, j, none⟩) hg1).trans (HX1.out j u hj)
          clear hc1 hc2
          go_wp2_with (at_builtin; refine wpList_append_own _ rfl (.tmp 31) (.tmp 32) 174 rfl w.heap.size 177 i0 _ 2 24 Tryz.underlying174 hi hz hsz hby rfl (by decide) _ _ _ rfl HR.out ⟨g1, 0, none⟩ n1 c1 xs1 rfl HL1.out hx.out HO1.out (by unfold maxLen sumTo; simp; omega) (by unfold sumTo; simp; omega) hs ?_; intro v' w2 hown' hgrow _)
          exact ⟨⟨1, by omega, rfl, Lib.hid (by simpa [sumTo, catTo] using hown'), HW.out.grown hgrow hs (fun k hk => (HR.out.lt k hk).1)⟩, by simp [intOf]⟩
        | 1, _ =>
          have hc := (HW.out.cell (p := ⟨b, 1, none⟩) hb).trans HC2.out
          have hx : Hid (∀ j u, xs2[j]? = some u → _root_.Go.World.cell? _ ((⟨g2, 0, none⟩ : Addr).add j) = some u) := fun j u hj => by rw [add_at, Nat.zero_add]; exact (HW.out.cell (p := ⟨g2, j, none⟩) hg2).trans (HX2.out j u hj)
          clear hc1 hc2
          go_wp2_with (at_builtin; refine wpList_append_own _ rfl (.tmp 31) (.tmp 32) 174 rfl w.heap.size 177 i0 _ 2 24 Tryz.underlying174 hi hz hsz hby rfl (by decide) _ _ _ rfl HR.out ⟨g2, 0, none⟩ n2 c2 xs2 rfl HL2.out hx.out HO2.out (by unfold maxLen sumTo; simp; omega) (by unfold sumTo; simp; omega) hs ?_; intro v' w2 hown' hgrow _)
          exact ⟨⟨2, by omega, rfl, Lib.hid (by simpa [sumTo, catTo] using hown'), HW.out.grown hgrow hs (fun k hk => (HR.out.lt k hk).1)⟩, by simp [intOf]⟩
        | 2, _ =>
          clear hc1 hc2
          go_wp2
          go_ret
          exact ⟨_, rfl, HR.out, HW.out⟩
end Go.Proofs.YtlfdmbfbfadifaaGreatDoor.Ft

namespace Go.Proofs.YtlfdmbfbfadifaaGreatDoor.Ft
open Go.RowKit

theorem Lies.of_own {w : World} {B n : Nat} {v : Value} {xs : List Value} (h : w.ownsRow B 177 2 v n xs) (hn : 0 < n) : Lies w v n xs := by
  obtain ⟨g, cap, rfl, hb, hlt⟩ := h.form hn
  refine ⟨g, cap, rfl, hlt, h.1, fun j u hj => ?_⟩
  have hl := (List.getElem?_eq_some_iff.1 hj).1
  rw [h.cellAt j (by have := h.1; omega)]
  exact hj
theorem Lies.new (w : World) (l : List Value) (n : Nat) (hl : l.length = n * 2) (t : TypeId) : Lies (w.alloc (.cells l.toArray t)) (.slice (some ⟨w.heap.size, 0, none⟩) n n) n l :=
  ⟨w.heap.size, n, rfl, by simp, hl, fun j u hj => by rw [cell_of_row _ _ j l.toArray t (0, 0) (heap_alloc_new w _)]; simpa using hj⟩
theorem oneCell_rows (a n : Nat) : ∀ u ∈ rowCells a n, u.oneCell' = true := by
  intro u hu
  unfold rowCells at hu
  obtain ⟨j, _, hj⟩ := List.mem_flatMap.1 hu
  simp at hj
  rcases hj with rfl | rfl <;> rfl

set_option maxRecDepth 100000 in
set_option maxHeartbeats 1600000 in
theorem rows_any (w : World) : Calls Tryz.prog 127 #[] w fun e w' => ∃ v, e = .returned v ∧ Lies w' v 59 (rowCells 0 59) ∧ Below w.heap.size w w' := by
  have F1 := Lib.hid (file_any w)
  go_enter Tryz.func127, Tryz.ntmps127
  go_wp2_with fail
  refine F1.out.mono ?_
  rintro e w1 ⟨rfl, hw1⟩
  have L1 := Lib.hid (Lies.new w (rowCells 0 33) 33 (rowCells_len 0 33) 177)
  have B1 := Lib.hid ((Below.refl w.heap.size w).alloc (Nat.le_refl _) (.cells (rowCells 0 33).toArray 177))
  rw [← hw1] at L1 B1
  have F2 := Lib.hid (service_any w1)
  have hz1 : w1.heap.size = w.heap.size + 1 := by rw [hw1]; simp
  have HZ1 := Lib.hid hz1
  clear hw1 hz1
  go_wp2_with fail
  refine F2.out.mono ?_
  rintro e w2 ⟨rfl, hw2⟩
  have L2 := Lib.hid (Lies.new w1 (rowCells 33 26) 26 (rowCells_len 33 26) 177)
  have B2 := Lib.hid ((Below.refl w1.heap.size w1).alloc (Nat.le_refl _) (.cells (rowCells 33 26).toArray 177))
  rw [← hw2] at L2 B2
  have L1' := Lib.hid (L1.out.below B2.out)
  have hz2 : w2.heap.size = w1.heap.size + 1 := by rw [hw2]; simp
  have HZ2 := Lib.hid hz2
  clear hw2 hz2 L1
  go_wp2_with fail
  have hal := Below.alloc (Below.refl w2.heap.size w2) (Nat.le_refl _) (.cells #[.slice (some ⟨w.heap.size, 0, none⟩) 33 33, .slice (some ⟨w1.heap.size, 0, none⟩) 26 26] 174)
  refine (Concat_two w2.heap.size 33 26 _ _ (rowCells 0 33) (rowCells 33 26) _ (by simp) (L1'.out.below hal) (L2.out.below hal) (by omega) (by omega) (by omega) (oneCell_rows _ _) (oneCell_rows _ _) (by rw [cell_of_row _ _ 0 _ _ (0, 0) (heap_alloc_new w2 _)]; rfl) (by rw [cell_of_row _ _ 1 _ _ (0, 0) (heap_alloc_new w2 _)]; rfl)).mono ?_
  rintro e w3 ⟨v, rfl, hv, hB⟩
  have HV := Lib.hid (Lies.of_own hv (by omega))
  have HB := Lib.hid (B1.out.trans ((B2.out.mono B1.out.size).trans ((hal.mono (Nat.le_trans B1.out.size B2.out.size)).trans (hB.mono (Nat.le_trans B1.out.size (Nat.le_trans B2.out.size hal.size))))))
  clear hv hB hal
  go_wp2_with fail
  go_ret
  refine ⟨v, rfl, ?_, HB.out⟩
  have := HV.out
  rw [rowCells_app 0 33 26] at this
  exact this

/-- The rows, in the loops' words. -/
theorem Lies.at_ {w : World} {g c : Nat} (h : Lies w (.slice (some ⟨g, 0, none⟩) 59 c) 59 (rowCells 0 59)) {k : Nat} (hk : k < 59) :
    w.cell? ⟨g, k * 2, none⟩ = some (.int .i64 ((k : Int) + 1)) ∧ w.cell? ⟨g, k * 2 + 1, none⟩ = some (.string (mk (textL ((k : Int) + 1)))) := by
  obtain ⟨g', c', hv, _, _, hx⟩ := h
  injection hv with h1 h2 h3
  injection h1 with h1
  injection h1 with h1
  subst h1
  have := rowCells_at 0 59 k hk
  rw [textL_in hk]
  rw [Nat.mul_comm]
  refine ⟨?_, ?_⟩
  · have := hx _ _ this.1; simpa using this
  · have := hx _ _ this.2; simpa [sv] using this

set_option maxRecDepth 100000 in
set_option maxHeartbeats 1600000 in
theorem Text_any (e : Int) (he : -9223372036854775808 ≤ e ∧ e ≤ 9223372036854775807) (w : World) :
    Calls Tryz.prog 122 #[.int .i64 e] w fun x w' => x = .returned (.string (mk (textL e))) ∧ Below w.heap.size w w' := by
  have R := Lib.hid (rows_any w)
  go_enter Tryz.func122, Tryz.ntmps122
  go_wp2_with fail
  refine R.out.mono ?_
  rintro x w1 ⟨v, rfl, hv, hB⟩
  obtain ⟨g, c, rfl, hg, _, _⟩ := id hv
  have HV := Lib.hid hv
  have HB := Lib.hid hB
  clear hv hB
  go_wp2_with fail
  go_loopw [7] (fun vi wr => ∃ k : Nat, k ≤ 59 ∧ vi = .int .i64 (k : Int) ∧ ¬ (1 ≤ e ∧ e ≤ k) ∧ Hid (Below w1.heap.size w1 wr)) (fun vi _ => 59 - (intOf vi).toNat)
  case atStart => exact ⟨0, by omega, rfl, by omega, Lib.hid (Below.refl _ _)⟩
  case round =>
    obtain ⟨k, hk, rfl, hno, HW⟩ := hrel
    have hsz := HW.out.size
    by_cases hlt : k < 59
    · have hc := HV.out.at_ hlt
      have hc0 := (HW.out.cell (p := ⟨g, k * 2, none⟩) hg).trans hc.1
      have hc1 := (HW.out.cell (p := ⟨g, k * 2 + 1, none⟩) hg).trans hc.2
      have HW' := fun o => Lib.hid (HW.out.alloc hsz o)
      clear hc
      by_cases hek : e = (k : Int) + 1
      · have hte : Hid (textL e = textL ((k : Int) + 1)) := by rw [hek]; rfl
        generalize textL ((k : Int) + 1) = t at hc1 hte
        have hq : (((k : Int) + 1) == e) = true := by rw [hek]; simp
        clear hek hno
        go_wp2
        go_ret
        rw [hte.out]
        exact ⟨rfl, HB.out.trans ((HW' _).out.mono HB.out.size)⟩
      · generalize textL ((k : Int) + 1) = t at hc1
        have hq : (((k : Int) + 1) == e) = false := by simp; omega
        have hno' : ¬ (1 ≤ e ∧ e ≤ ((k + 1 : Nat) : Int)) := by omega
        clear hek
        go_wp2
        exact ⟨⟨k + 1, by omega, by go_num, hno', HW' _⟩, by simp [intOf]; omega⟩
    · have hte : Hid (textL e = []) := Lib.hid (textL_out (by omega))
      go_wp2
      go_ret
      rw [hte.out]
      exact ⟨rfl, HB.out.trans (HW.out.mono HB.out.size)⟩

set_option maxRecDepth 100000 in
set_option maxHeartbeats 1600000 in
theorem Find_any (s : List UInt8) (w : World) :
    Calls Tryz.prog 143 #[.string (mk s)] w fun x w' => x = .returned (.tuple #[.int .i64 (findL s).1, .bool (findL s).2]) ∧ Below w.heap.size w w' := by
  have R := Lib.hid (rows_any w)
  go_enter Tryz.func143, Tryz.ntmps143
  go_wp2_with fail
  refine R.out.mono ?_
  rintro x w1 ⟨v, rfl, hv, hB⟩
  obtain ⟨g, c, rfl, hg, _, _⟩ := id hv
  have HV := Lib.hid hv
  have HB := Lib.hid hB
  clear hv hB
  go_wp2_with fail
  go_loopw [8] (fun vi wr => ∃ k : Nat, k ≤ 59 ∧ vi = .int .i64 (k : Int) ∧ Hid (findL s = findFrom s (k + 1) (59 - k)) ∧ Hid (Below w1.heap.size w1 wr)) (fun vi _ => 59 - (intOf vi).toNat)
  case atStart => exact ⟨0, by omega, rfl, rfl, Lib.hid (Below.refl _ _)⟩
  case round =>
    obtain ⟨k, hk, rfl, HN, HW⟩ := hrel
    have hsz := HW.out.size
    by_cases hlt : k < 59
    · have hc := HV.out.at_ hlt
      have hc0 := (HW.out.cell (p := ⟨g, k * 2, none⟩) hg).trans hc.1
      have hc1 := (HW.out.cell (p := ⟨g, k * 2 + 1, none⟩) hg).trans hc.2
      have HW' := fun o => Lib.hid (HW.out.alloc hsz o)
      clear hc
      by_cases hek : textL ((k : Int) + 1) = s
      · have hte := Lib.hid (HN.out.trans (findFrom_hit s k hlt hek))
        have hq : ((mk (textL ((k : Int) + 1))).toList == (mk s).toList) = true := by rw [hek]; simp
        clear hek
        generalize textL ((k : Int) + 1) = t at hc1 hq
        go_wp2
        go_ret2
        rw [hte.out]
        exact ⟨rfl, HB.out.trans ((HW' _).out.mono HB.out.size)⟩
      · have hq : ((mk (textL ((k : Int) + 1))).toList == (mk s).toList) = false := by rw [mk_toList, mk_toList]; simpa using hek
        have hno' := Lib.hid (HN.out.trans (findFrom_miss s k hlt hek))
        clear hek
        generalize textL ((k : Int) + 1) = t at hc1 hq
        go_wp2
        exact ⟨⟨k + 1, by omega, by go_num, hno', HW' _⟩, by simp [intOf]; omega⟩
    · have hk' : k = 59 := by omega
      have hte : Hid (findL s = (0, false)) := Lib.hid (HN.out.trans (by rw [hk']; rfl))
      clear hk'
      go_wp2
      go_ret2
      rw [hte.out]
      exact ⟨rfl, HB.out.trans (HW.out.mono HB.out.size)⟩
end Go.Proofs.YtlfdmbfbfadifaaGreatDoor.Ft
