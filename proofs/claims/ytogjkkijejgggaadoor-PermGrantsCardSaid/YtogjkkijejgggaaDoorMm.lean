/-
  Lists of strings and lists of users in memory; who is a member: the program's Member, the reference's.
-/
import Derived.Test.YtogjkkijejgggaaDoorMl
import Derived.Deep.AppendLies
import Derived.Laws.OwnMore
import Derived.Maps.AppendAt
import Derived.OwnWalk
import Derived.Handy
import Derived.Laws.ResultCell
namespace Go.Proofs.YtogjkkijejgggaaDoor
open Go.RowKit

/-- The slice v holds the strings L, in a block that lies below the world's size. -/
def SRow (w : World) (v : Value) (L : List (List UInt8)) : Prop :=
  ∃ p cap, v = .slice p L.length cap ∧ L.length ≤ cap ∧ cap ≤ maxLen ∧ (L ≠ [] → ∃ b o, p = some ⟨b, o, none⟩ ∧ b < w.heap.size ∧ ∀ j (hj : j < L.length), w.cell? ⟨b, o + j, none⟩ = some (sv L[j]))
theorem SRow.below {w w' : World} {v : Value} {L : List (List UInt8)} (h : SRow w v L) (hB : Below w.heap.size w w') : SRow w' v L := by
  obtain ⟨p, cap, rfl, hc, hm, h⟩ := h
  refine ⟨p, cap, rfl, hc, hm, fun hL => ?_⟩
  obtain ⟨b, o, rfl, hb, hcell⟩ := h hL
  exact ⟨b, o, rfl, Nat.lt_of_lt_of_le hb hB.size, fun j hj => by rw [hB.cell (p := ⟨b, o + j, none⟩) hb]; exact hcell j hj⟩
theorem SRow.nil_ (w : World) : SRow w (.slice none 0 0) [] := ⟨none, 0, rfl, Nat.le_refl _, Nat.zero_le _, fun h => absurd rfl h⟩
/-- The slice v holds the users L, in a block that lies below the world's size. -/
def URow (w : World) (v : Value) (L : List U) : Prop :=
  ∃ p cap, v = .slice p L.length cap ∧ L.length ≤ cap ∧ cap ≤ maxLen ∧ (L ≠ [] → ∃ b o, p = some ⟨b, o, none⟩ ∧ b < w.heap.size ∧ ∀ k, k < L.length → ∃ mv,
    w.cell? ⟨b, o + k * 3, none⟩ = some (.string (mk (getL L k).n)) ∧ w.cell? ⟨b, o + k * 3 + 1, none⟩ = some (.string (mk (getL L k).l)) ∧ w.cell? ⟨b, o + k * 3 + 2, none⟩ = some mv ∧ SRow w mv (getL L k).m)
theorem URow.below {w w' : World} {v : Value} {L : List U} (h : URow w v L) (hB : Below w.heap.size w w') : URow w' v L := by
  obtain ⟨p, cap, rfl, hc, hm, h⟩ := h
  refine ⟨p, cap, rfl, hc, hm, fun hL => ?_⟩
  obtain ⟨b, o, rfl, hb, hcell⟩ := h hL
  refine ⟨b, o, rfl, Nat.lt_of_lt_of_le hb hB.size, fun k hk => ?_⟩
  obtain ⟨mv, c0, c1, c2, hs⟩ := hcell k hk
  exact ⟨mv, (hB.cell (p := ⟨b, o + k * 3, none⟩) hb).trans c0, (hB.cell (p := ⟨b, o + k * 3 + 1, none⟩) hb).trans c1, (hB.cell (p := ⟨b, o + k * 3 + 2, none⟩) hb).trans c2, hs.below hB⟩
theorem URow.nil_ (w : World) : URow w (.slice none 0 0) [] := ⟨none, 0, rfl, Nat.le_refl _, Nat.zero_le _, fun h => absurd rfl h⟩
/-- What a round reads of user k. -/
theorem URow.at_ {w wr : World} {v : Value} {L : List U} (h : URow w v L) (hB : Below w.heap.size w wr) {k : Nat} (hk : k < L.length) :
    ∃ b o cap q c, v = .slice (some ⟨b, o, none⟩) L.length cap ∧ b < w.heap.size ∧ (L.length : Int) ≤ (cap : Int) ∧ wr.cell? ⟨b, o + k * 3, none⟩ = some (.string (mk (getL L k).n)) ∧ wr.cell? ⟨b, o + k * 3 + 1, none⟩ = some (.string (mk (getL L k).l)) ∧
      wr.cell? ⟨b, o + k * 3 + 2, none⟩ = some (.slice q (getL L k).m.length c) ∧ (getL L k).m.length ≤ c ∧ SRow w (.slice q (getL L k).m.length c) (getL L k).m := by
  obtain ⟨p, cap, rfl, hc, hm, h⟩ := h
  obtain ⟨b, o, rfl, hb, hcell⟩ := h (by rintro rfl; simp at hk)
  obtain ⟨mv, c0, c1, c2, hs⟩ := hcell k hk
  obtain ⟨q, c, rfl, hqc, hqm, hq⟩ := id hs
  exact ⟨b, o, cap, q, c, rfl, hb, by omega, (hB.cell (p := ⟨b, o + k * 3, none⟩) hb).trans c0, (hB.cell (p := ⟨b, o + k * 3 + 1, none⟩) hb).trans c1, (hB.cell (p := ⟨b, o + k * 3 + 2, none⟩) hb).trans c2, hqc, hs⟩

theorem hid_at {L : List U} {x : List UInt8} {k : Nat} (hk : k < L.length) (h : ∀ j, j < k → (getL L j).n ≠ x) (he : (getL L k).n ≠ x) : ∀ j, j < k + 1 → (getL L j).n ≠ x := fun j hj => by
  by_cases e : j = k
  · subst e; exact he
  · exact h j (by omega)

set_option maxHeartbeats 1600000 in
theorem at_any (v : Value) (L : List U) (x : List UInt8) (w : World) (h : URow w v L) (hl : L.length ≤ 100000) :
    Calls Tryd.prog 35 #[v, .string (mk x)] w fun e w' => e = .returned (.int .i64 (if hasL L x = true then (atL L x : Int) else -1)) ∧ w = w' := by
  have HU := Lib.hid h
  obtain ⟨p, cap, rfl, hc, hm, _⟩ := h
  have hr : ∀ k, atL L x = k → (if hasL L x = true then (atL L x : Int) else -1) = if k < L.length then (k : Int) else -1 := by
    rintro k rfl; unfold hasL; simp
  have HR := Lib.hid hr
  generalize (if hasL L x = true then (atL L x : Int) else -1) = r at HR ⊢
  clear hr
  go_enter Tryd.func35, Tryd.ntmps35
  go_wp2
  go_loop [8] (fun vi => ∃ k : Nat, vi = .int .i64 (k : Int) ∧ k ≤ L.length ∧ Hid (∀ j, j < k → (getL L j).n ≠ x)) (fun vi => L.length - (intOf vi).toNat)
  case atStart => exact ⟨0, rfl, by omega, fun j hj => by omega⟩
  case round =>
    obtain ⟨k, rfl, hk, ha⟩ := hrel
    by_cases hlt : k < L.length
    · obtain ⟨b, o, cap', q, c, hp, hb, hcl, c0, c1, c2, hqc, hs⟩ := HU.out.at_ (Below.refl _ _) hlt
      obtain ⟨rfl, rfl⟩ : p = some ⟨b, o, none⟩ ∧ cap = cap' := by injection hp with h1 h2 h3; exact ⟨h1, h3⟩
      clear hp c1 c2 hs
      by_cases hn : (getL L k).n = x
      · have hq : ((mk (getL L k).n).toList == (mk x).toList) = true := by rw [hn]; simp
        have HA := Lib.hid (atL_hit hlt ha.out hn)
        clear hn
        generalize (getL L k).n = t at c0 hq
        go_wp2
        go_ret
        rw [HR.out k HA.out, if_pos hlt]
        exact ⟨rfl, rfl⟩
      · have hq : ((mk (getL L k).n).toList == (mk x).toList) = false := by rw [mk_toList, mk_toList]; simpa using hn
        have HA := Lib.hid (hid_at hlt ha.out hn)
        clear hn
        generalize (getL L k).n = t at c0 hq
        go_wp2
        exact ⟨⟨k + 1, by go_num, by omega, HA⟩, by simp [intOf]; omega⟩
    · have hkn : k = L.length := by omega
      have HA : Hid (atL L x = L.length) := atL_miss (by rw [← hkn]; exact ha.out)
      clear hkn
      go_wp2
      go_ret
      rw [HR.out _ HA.out, if_neg (by omega)]
      exact ⟨rfl, rfl⟩

/-- A block of one user. -/
def Blk3 (w : World) (B : Nat) (t : TypeId) : Prop := ∃ a b c, w.heap[B]? = some (.cells #[a, b, c] t (0, 0))
theorem blk3_0 {w : World} {B : Nat} {t : TypeId} {a b c : Value} (h : w.heap[B]? = some (.cells #[a, b, c] t (0, 0))) : w.cell? ⟨B, 0, none⟩ = some a := by simp [World.cell?, h]
theorem blk3_1 {w : World} {B : Nat} {t : TypeId} {a b c : Value} (h : w.heap[B]? = some (.cells #[a, b, c] t (0, 0))) : w.cell? ⟨B, 1, none⟩ = some b := by simp [World.cell?, h]
theorem blk3_2 {w : World} {B : Nat} {t : TypeId} {a b c : Value} (h : w.heap[B]? = some (.cells #[a, b, c] t (0, 0))) : w.cell? ⟨B, 2, none⟩ = some c := by simp [World.cell?, h]
theorem blk3_f {w : World} {B : Nat} {t : TypeId} {a b c : Value} (h : w.heap[B]? = some (.cells #[a, b, c] t (0, 0))) (j : Nat) : w.frozen? ⟨B, j, none⟩ = false := by simp [World.frozen?, h]

theorem Blk3.alloc {w : World} {B : Nat} {t : TypeId} (h : Blk3 w B t) (o : Obj) : Blk3 (w.alloc o) B t := by
  obtain ⟨a, b, c, h⟩ := h
  exact ⟨a, b, c, (Below.heap_alloc w o B (Array.getElem?_eq_some_iff.1 h).1).trans h⟩
theorem blk3_set {w : World} {B : Nat} {t : TypeId} {x0 x1 x2 : Value} (h : w.heap[B]? = some (.cells #[x0, x1, x2] t (0, 0))) (a b c : Value) :
    (((w.setCell ⟨B, 0, none⟩ a).setCell ⟨B, 1, none⟩ b).setCell ⟨B, 2, none⟩ c).heap[B]? = some (.cells #[a, b, c] t (0, 0)) := by
  simp [World.setCell, Array.getElem?_modify, h]
theorem blk3_alloc {w : World} {B : Nat} {t : TypeId} {a b c : Value} (h : w.heap[B]? = some (.cells #[a, b, c] t (0, 0))) (o : Obj) : (w.alloc o).heap[B]? = some (.cells #[a, b, c] t (0, 0)) :=
  (Below.heap_alloc w o B (Array.getElem?_eq_some_iff.1 h).1).trans h
theorem load_user {w : World} {B : Nat} {t : TypeId} {a b c : Value} (h : w.heap[B]? = some (.cells #[a, b, c] t (0, 0))) : (loadVar 52 ⟨B, 0, none⟩).run Tryd.prog w = .ok (.agg #[a, b, c]) w := by
  have z0 := blk3_0 h
  have z1 := blk3_1 h
  have z2 := blk3_2 h
  simp [go_sem, z0, z1, z2]
/-- A user and a bool are handed back: the user lies in a block of the call's own. -/
theorem results_user {fn : Func} {p u B : Nat} {t : TypeId} {a b c : Value} {w : World} {tmps : Array Value} (h : fn.results = #[.cell p 52, .tmp u]) (hp : tmps.getD p undef = .pointer (some ⟨B, 0, none⟩)) (hb : w.heap[B]? = some (.cells #[a, b, c] t (0, 0))) :
    (results fn tmps).run Tryd.prog w = .ok (.tuple #[.agg #[a, b, c], tmps.getD u undef]) w := by
  rw [results_cell_tmp h, hp]
  have ha : (asAddr (.pointer (some ⟨B, 0, none⟩))).run Tryd.prog w = .ok ⟨B, 0, none⟩ w := rfl
  simp only [ha, Result.andThen, load_user hb]
theorem below_set3 {B B' : Nat} {w wr : World} (h : Below B w wr) (hB : B ≤ B') (a b c : Value) : Below B w (((wr.setCell ⟨B', 0, none⟩ a).setCell ⟨B', 1, none⟩ b).setCell ⟨B', 2, none⟩ c) :=
  ((h.setCell (p := ⟨B', 0, none⟩) hB a).setCell (p := ⟨B', 1, none⟩) hB b).setCell (p := ⟨B', 2, none⟩) hB c

set_option maxHeartbeats 1600000 in
theorem named_any (v : Value) (L : List U) (x : List UInt8) (w : World) (h : URow w v L) (hl : L.length ≤ 100000) :
    Calls Tryd.prog 33 #[v, .string (mk x)] w fun e w' => ∃ mv, e = .returned (.tuple #[.agg #[.string (mk (findL L x).n), .string (mk (findL L x).l), mv], .bool (hasL L x)]) ∧ SRow w mv (findL L x).m ∧ Below w.heap.size w w' := by
  have HU := Lib.hid h
  obtain ⟨p, cap, rfl, hc, hm, _⟩ := h
  have hr : ∀ k, atL L x = k → hasL L x = decide (k < L.length) ∧ findL L x = getL L k := by
    rintro k rfl; exact ⟨rfl, rfl⟩
  have HR := Lib.hid hr
  generalize hasL L x = r at HR ⊢
  generalize findL L x = u at HR ⊢
  clear hr
  go_enter Tryd.func33, Tryd.ntmps33
  go_wp2
  go_loopw [10] (fun vi wr => ∃ k : Nat, vi = .int .i64 (k : Int) ∧ k ≤ L.length ∧ Hid (∀ j, j < k → (getL L j).n ≠ x) ∧ Hid (Below w.heap.size w wr) ∧ Hid (Blk3 wr w.heap.size 52)) (fun vi _ => L.length - (intOf vi).toNat)
  case atStart => exact ⟨0, rfl, by omega, fun j hj => by omega, (Below.refl _ w).alloc (Nat.le_refl _) _, ⟨_, _, _, heap_alloc_new w _⟩⟩
  case round =>
    obtain ⟨k, rfl, hk, ha, HB, HC⟩ := hrel
    have hsz := HB.out.size
    obtain ⟨x0, x1, x2, hX⟩ := HC.out
    have hlt0 := (Array.getElem?_eq_some_iff.1 hX).1
    have z0 := blk3_0 hX
    have z1 := blk3_1 hX
    have z2 := blk3_2 hX
    have f0 := blk3_f hX 0
    have f1 := blk3_f hX 1
    have f2 := blk3_f hX 2
    have HX := Lib.hid hX
    clear hX
    by_cases hlt : k < L.length
    · obtain ⟨b, o, cap', q, c, hp, hb, hcl, c0, c1, c2, hqc, hs⟩ := HU.out.at_ HB.out hlt
      obtain ⟨rfl, rfl⟩ : p = some ⟨b, o, none⟩ ∧ cap = cap' := by injection hp with h1 h2 h3; exact ⟨h1, h3⟩
      have HS := Lib.hid hs
      clear hp hs
      by_cases hn : (getL L k).n = x
      · have hq : ((mk (getL L k).n).toList == (mk x).toList) = true := by rw [hn]; simp
        have HA := Lib.hid (HR.out _ (atL_hit hlt ha.out hn))
        clear hn ha
        generalize hu : getL L k = uk at c0 c1 c2 hq hqc HS HA
        clear hu
        obtain ⟨un, ul, um⟩ := uk
        go_wp2
        refine bodyPost_ret (results_user rfl rfl (blk3_alloc (blk3_set HX.out _ _ _) _)) rfl ?_
        rw [HA.out.1, HA.out.2, decide_eq_true hlt]
        exact ⟨_, rfl, HS.out, (below_set3 HB.out (Nat.le_refl _) _ _ _).alloc (by simp; omega) _⟩
      · have hq : ((mk (getL L k).n).toList == (mk x).toList) = false := by rw [mk_toList, mk_toList]; simpa using hn
        have HA := Lib.hid (hid_at hlt ha.out hn)
        have HB' := fun o => Lib.hid (HB.out.alloc hsz o)
        have HC' := fun o => Lib.hid (HC.out.alloc o)
        clear hn
        generalize hu : getL L k = uk at c0 c1 c2 hq hqc HS
        clear hu
        obtain ⟨un, ul, um⟩ := uk
        go_wp2
        exact ⟨⟨k + 1, by go_num, by omega, HA, HB' _, HC' _⟩, by simp [intOf]; omega⟩
    · have hkn : k = L.length := by omega
      have HA : Hid (atL L x = L.length) := atL_miss (by rw [← hkn]; exact ha.out)
      have HA2 := Lib.hid (HR.out _ HA.out)
      clear hkn
      go_wp2
      refine bodyPost_ret (results_user rfl rfl (blk3_set HX.out _ _ _)) rfl ?_
      rw [HA2.out.1, HA2.out.2, getL_out, decide_eq_false (by omega)]
      exact ⟨_, rfl, SRow.nil_ _, below_set3 HB.out (Nat.le_refl _) _ _ _⟩
set_option maxHeartbeats 1600000 in
theorem RFind_any (v : Value) (L : List U) (x : List UInt8) (w : World) (h : URow w v L) (hl : L.length ≤ 100000) :
    Calls Tryd.prog 32 #[v, .string (mk x)] w fun e w' => ∃ mv, e = .returned (.tuple #[.agg #[.string (mk (findL L x).n), .string (mk (findL L x).l), mv], .bool (hasL L x)]) ∧ SRow w mv (findL L x).m ∧ Below w.heap.size w w' := by
  have HU := Lib.hid h
  have hB0 : Below w.heap.size w (w.alloc (.cells #[.string ⟨#[]⟩, .string ⟨#[]⟩, .slice none 0 0] 52)) := (Below.refl _ w).alloc (Nat.le_refl _) _
  have HB0 := Lib.hid hB0
  have A := at_any v L x _ (h.below hB0) hl
  have HX := Lib.hid (heap_alloc_new w (.cells #[.string ⟨#[]⟩, .string ⟨#[]⟩, .slice none 0 0] 52 (0, 0)))
  by_cases hh : hasL L x = true
  · have hlt : atL L x < L.length := by unfold hasL at hh; simpa using hh
    rw [if_pos hh] at A
    have HA := Lib.hid A
    have HH := Lib.hid hh
    have HF : Hid (findL L x = getL L (atL L x)) := rfl
    generalize findL L x = u at HF ⊢
    generalize hasL L x = r at HH ⊢
    clear A hh hB0
    generalize atL L x = k at hlt HA HF
    obtain ⟨b, o, cap, q, c, rfl, hb, hcl, c0, c1, c2, hqc, hs⟩ := h.at_ (Below.refl _ _) hlt
    have HS := Lib.hid hs
    clear hs h
    generalize hu : getL L k = uk at c0 c1 c2 hqc HS HF
    clear hu
    obtain ⟨un, ul, um⟩ := uk
    go_enter Tryd.func32, Tryd.ntmps32
    go_wp2_with (go_at_call 35; refine HA.out.mono ?_; rintro e w' ⟨rfl, rfl⟩)
    refine bodyPost_ret (results_user rfl rfl (heap_alloc_new w _)) rfl ?_
    rw [HF.out, HH.out]
    exact ⟨_, rfl, HS.out, (Below.refl _ w).alloc (Nat.le_refl _) _⟩
  · have hlt : atL L x = L.length := by
      unfold hasL at hh
      have := atL_le L x
      simp at hh
      omega
    have hh : hasL L x = false := by simpa using hh
    rw [hh] at A
    have HA := Lib.hid A
    have HF : Hid (findL L x = U0) := by rw [Hid, findL, hlt, getL_out]
    have HH := Lib.hid hh
    generalize findL L x = u at HF ⊢
    generalize hasL L x = r at HH ⊢
    clear A hh hlt hB0 h
    go_enter Tryd.func32, Tryd.ntmps32
    go_wp2_with (go_at_call 35; refine HA.out.mono ?_; rintro e w' ⟨rfl, rfl⟩)
    refine bodyPost_ret (results_user rfl rfl (heap_alloc_new w _)) rfl ?_
    rw [HF.out, HH.out]
    exact ⟨_, rfl, SRow.nil_ _, (Below.refl _ w).alloc (Nat.le_refl _) _⟩
theorem SRow.cells {w : World} {q : Option Addr} {c : Nat} {M : List (List UInt8)} (h : SRow w (.slice q M.length c) M) (h0 : M ≠ []) : ∃ b o, q = some ⟨b, o, none⟩ ∧ b < w.heap.size ∧ ∀ j (hj : j < M.length), w.cell? ⟨b, o + j, none⟩ = some (sv M[j]) := by
  obtain ⟨p, cap, hv, _, _, h⟩ := h
  injection hv with h1 h2 h3
  subst h1
  exact h h0
theorem getD_at {M : List (List UInt8)} {k : Nat} (h : k < M.length) : M.getD k [] = M[k] := by simp [h]
/-- Cells of a row, by getD. -/
theorem SRow.at_ {w wr : World} {q : Option Addr} {c : Nat} {M : List (List UInt8)} (h : SRow w (.slice q M.length c) M) (hB : Below w.heap.size w wr) {k : Nat} (hk : k < M.length) :
    ∃ b o, q = some ⟨b, o, none⟩ ∧ b < w.heap.size ∧ wr.cell? ⟨b, o + k, none⟩ = some (.string (mk (M.getD k []))) := by
  obtain ⟨b, o, rfl, hb, hc⟩ := h.cells (by rintro rfl; simp at hk)
  exact ⟨b, o, rfl, hb, (hB.cell (p := ⟨b, o + k, none⟩) hb).trans (by rw [getD_at hk]; exact hc k hk)⟩

theorem cont_go {M : List (List UInt8)} {x : List UInt8} {k : Nat} (h : ∀ j, j < k → M.getD j [] ≠ x) (he : M.getD k [] ≠ x) : ∀ j, j < k + 1 → M.getD j [] ≠ x := fun j hj => by
  by_cases e : j = k
  · subst e; exact he
  · exact h j (by omega)
theorem cont_hit {M : List (List UInt8)} {x : List UInt8} {k : Nat} (hk : k < M.length) (he : M.getD k [] = x) : M.contains x = true := by
  rw [List.contains_iff_mem, ← he, getD_at hk]; exact List.getElem_mem _
theorem cont_end {M : List (List UInt8)} {x : List UInt8} (h : ∀ j, j < M.length → M.getD j [] ≠ x) : M.contains x = false := by
  rw [Bool.eq_false_iff]
  intro hc
  rw [List.contains_iff_mem] at hc
  obtain ⟨j, hj, e⟩ := List.getElem_of_mem hc
  exact h j hj (by rw [getD_at hj]; exact e)

def IdxOk (M : List (List UInt8)) (x : List UInt8) (i : Int) : Prop := decide (0 ≤ i) = M.contains x
set_option maxHeartbeats 1600000 in
theorem Index_any (q : Option Addr) (c : Nat) (M : List (List UInt8)) (x : List UInt8) (w : World) (h : SRow w (.slice q M.length c) M) (hl : M.length ≤ 1000000) :
    Calls Tryd.prog 36 #[.slice q M.length c, .string (mk x)] w fun e w' => ∃ i : Int, e = .returned (.int .i64 i) ∧ IdxOk M x i ∧ w = w' := by
  have HS := Lib.hid h
  obtain ⟨p, cap, hv, hc1, hc2, _⟩ := id h
  have hcc : (M.length : Int) ≤ (c : Int) := by injection hv with h1 h2 h3; omega
  clear hv h
  go_enter Tryd.func36, Tryd.ntmps36
  go_wp2
  go_loop [8] (fun vi => ∃ k : Nat, vi = .int .i64 (k : Int) ∧ k ≤ M.length ∧ Hid (∀ j, j < k → M.getD j [] ≠ x)) (fun vi => M.length - (intOf vi).toNat)
  case atStart => exact ⟨0, rfl, by omega, fun j hj => by omega⟩
  case round =>
    obtain ⟨k, rfl, hk, ha⟩ := hrel
    by_cases hlt : k < M.length
    · obtain ⟨b, o, hp, hb, c0⟩ := HS.out.at_ (Below.refl _ _) hlt
      subst hp
      by_cases hn : M.getD k [] = x
      · have hq : ((mk x).toList == (mk (M.getD k [])).toList) = true := by rw [hn]; simp
        have HA := Lib.hid (cont_hit hlt hn)
        clear hn
        generalize M.getD k [] = t at c0 hq
        go_wp2
        go_ret
        exact ⟨_, rfl, by unfold IdxOk; rw [HA.out]; simp, rfl⟩
      · have hq : ((mk x).toList == (mk (M.getD k [])).toList) = false := by rw [mk_toList, mk_toList]; simpa using fun e => hn e.symm
        have HA := Lib.hid (cont_go ha.out hn)
        clear hn
        generalize M.getD k [] = t at c0 hq
        go_wp2
        exact ⟨⟨k + 1, by go_num, by omega, HA⟩, by simp [intOf]; omega⟩
    · have hkn : k = M.length := by omega
      have HA := Lib.hid (cont_end (by rw [← hkn]; exact ha.out))
      clear hkn
      go_wp2
      go_ret
      exact ⟨_, rfl, by unfold IdxOk; rw [HA.out]; rfl, rfl⟩
theorem Contains_any (q : Option Addr) (c : Nat) (M : List (List UInt8)) (x : List UInt8) (w : World) (h : SRow w (.slice q M.length c) M) (hl : M.length ≤ 1000000) :
    Calls Tryd.prog 34 #[.slice q M.length c, .string (mk x)] w fun e w' => e = .returned (.bool (M.contains x)) ∧ w = w' := by
  have I := Lib.hid (Index_any q c M x w h hl)
  have HX : Hid (∀ i, IdxOk M x i → decide (0 ≤ i) = M.contains x) := fun i h => h
  generalize IdxOk M x = Ok at *
  generalize M.contains x = r at *
  clear h
  go_enter Tryd.func34, Tryd.ntmps34
  go_wp2_with fail
  refine I.out.mono ?_
  rintro e w' ⟨i, rfl, hi, rfl⟩
  replace hi := Lib.hid (HX.out i hi)
  go_wp2
  go_ret
  exact ⟨ret_bool hi.out, rfl⟩

/-- Every user's members are at most n. -/
def Memb (L : List U) (n : Nat) : Prop := ∀ k, (getL L k).m.length ≤ n

set_option maxHeartbeats 1600000 in
theorem Member_any (v : Value) (L : List U) (x g : List UInt8) (w : World) (h : URow w v L) (hl : L.length ≤ 100000) (hm : Memb L 1000000) :
    Calls Tryd.prog 31 #[v, .string (mk x), .string (mk g)] w fun e w' => e = .returned (.bool (memberL L x g)) ∧ Below w.heap.size w w' := by
  have N := Lib.hid (named_any v L g _ h hl)
  have hr : memberL L x g = ((x == g) || (hasL L g && (findL L g).m.contains x)) := by
    unfold memberL
    by_cases hh : hasL L g = true
    · rw [hh, Bool.true_and]
    · have hlt : atL L g = L.length := by
        unfold hasL at hh
        have := atL_le L g
        simp at hh
        omega
      have : (findL L g).m = [] := by rw [findL, hlt, getL_out]; rfl
      rw [this]; simp
  have HR := Lib.hid hr
  have hml : (findL L g).m.length ≤ 1000000 := hm _
  generalize memberL L x g = res at HR ⊢
  generalize findL L g = u at N hml HR
  generalize hasL L g = r at N HR
  obtain ⟨un, ul, um⟩ := u
  clear hr h hm
  by_cases hq : x = g
  · have hq1 : ((mk x).toList == (mk g).toList) = true := by rw [hq]; simp
    have HR2 : Hid (res = true) := by rw [Hid, HR.out, hq]; simp
    clear hq HR N
    go_enter Tryd.func31, Tryd.ntmps31
    go_wp2
    go_ret
    rw [HR2.out]
    exact ⟨rfl, Below.refl _ _⟩
  · have hq1 : ((mk x).toList == (mk g).toList) = false := by rw [mk_toList, mk_toList]; simpa using hq
    have HR2 : Hid (res = (r && um.contains x)) := by rw [Hid, HR.out, beq_false_of_ne hq]; simp
    clear hq HR
    go_enter Tryd.func31, Tryd.ntmps31
    go_wp2_with fail
    refine N.out.mono ?_
    rintro e w1 ⟨mv, rfl, hs, hB⟩
    obtain ⟨q, c, rfl, hqc, hqm, hq⟩ := id hs
    have hz1 := hB.size
    have ha := (Below.refl w1.heap.size w1).alloc (Nat.le_refl _) (.cells #[.string (mk un), .string (mk ul), .slice q um.length c] 52)
    have C := Lib.hid (Contains_any q c um x _ ((hs.below hB).below ha) hml)
    have HB := Lib.hid (hB.trans (ha.mono hz1))
    clear hs hB ha hq N
    cases r with
    | false =>
      clear C
      go_wp2
      go_ret
      rw [HR2.out]
      exact ⟨rfl, HB.out⟩
    | true =>
      generalize um.contains x = bb at C HR2
      go_wp2_with (go_at_call 34; refine C.out.mono ?_; rintro e w' ⟨rfl, rfl⟩)
      go_ret
      rw [HR2.out]
      exact ⟨rfl, HB.out⟩

set_option maxHeartbeats 1600000 in
theorem RMember_any (v : Value) (L : List U) (x g : List UInt8) (w : World) (h : URow w v L) (hl : L.length ≤ 100000) (hm : Memb L 1000000) :
    Calls Tryd.prog 30 #[v, .string (mk x), .string (mk g)] w fun e w' => e = .returned (.bool (memberL L x g)) ∧ Below w.heap.size w w' := by
  have N := Lib.hid (RFind_any v L g _ h hl)
  have hr : memberL L x g = ((x == g) || (findL L g).m.contains x) := rfl
  have HR := Lib.hid hr
  have hml : (findL L g).m.length ≤ 1000000 := hm _
  generalize memberL L x g = res at HR ⊢
  generalize findL L g = u at N hml HR
  generalize hasL L g = r at N
  obtain ⟨un, ul, um⟩ := u
  clear hr h hm
  by_cases hq : x = g
  · have hq1 : ((mk x).toList == (mk g).toList) = true := by rw [hq]; simp
    have HR2 : Hid (res = true) := by rw [Hid, HR.out, hq]; simp
    clear hq HR N
    go_enter Tryd.func30, Tryd.ntmps30
    go_wp2
    go_ret
    rw [HR2.out]
    exact ⟨rfl, Below.refl _ _⟩
  · have hq1 : ((mk x).toList == (mk g).toList) = false := by rw [mk_toList, mk_toList]; simpa using hq
    have HR2 : Hid (res = um.contains x) := by rw [Hid, HR.out, beq_false_of_ne hq]; simp
    clear hq HR
    go_enter Tryd.func30, Tryd.ntmps30
    go_wp2_with fail
    refine N.out.mono ?_
    rintro e w1 ⟨mv, rfl, hs, hB⟩
    obtain ⟨q, c, rfl, hqc, hqm, hq⟩ := id hs
    have hz1 := hB.size
    have ha := (Below.refl w1.heap.size w1).alloc (Nat.le_refl _) (.cells #[.string (mk un), .string (mk ul), .slice q um.length c] 52)
    have HS := Lib.hid ((hs.below hB).below ha)
    have HB := Lib.hid (hB.trans (ha.mono hz1))
    have hcb : (um.length : Int) ≤ (c : Int) := by omega
    clear hs hB ha hq N
    go_wp2
    go_loop [22] (fun vi => ∃ k : Nat, vi = .int .i64 (k : Int) ∧ k ≤ um.length ∧ Hid (∀ j, j < k → um.getD j [] ≠ x)) (fun vi => um.length - (intOf vi).toNat)
    case atStart => exact ⟨0, rfl, by omega, fun j hj => by omega⟩
    case round =>
      obtain ⟨k, rfl, hk, ha⟩ := hrel
      by_cases hlt : k < um.length
      · obtain ⟨b, o, hp, hb, c0⟩ := HS.out.at_ (Below.refl _ _) hlt
        subst hp
        by_cases hn : um.getD k [] = x
        · have hq : ((mk (um.getD k [])).toList == (mk x).toList) = true := by rw [hn]; simp
          have HA := Lib.hid (cont_hit hlt hn)
          clear hn
          generalize um.getD k [] = t at c0 hq
          go_wp2
          go_ret
          rw [HR2.out, HA.out]
          exact ⟨rfl, HB.out⟩
        · have hq : ((mk (um.getD k [])).toList == (mk x).toList) = false := by rw [mk_toList, mk_toList]; simpa using hn
          have HA := Lib.hid (cont_go ha.out hn)
          clear hn
          generalize um.getD k [] = t at c0 hq
          go_wp2
          exact ⟨⟨k + 1, by go_num, by omega, HA⟩, by simp [intOf]; omega⟩
      · have hkn : k = um.length := by omega
        have HA := Lib.hid (cont_end (by rw [← hkn]; exact ha.out))
        clear hkn
        go_wp2
        go_ret
        rw [HR2.out, HA.out]
        exact ⟨rfl, HB.out⟩
end Go.Proofs.YtogjkkijejgggaaDoor
