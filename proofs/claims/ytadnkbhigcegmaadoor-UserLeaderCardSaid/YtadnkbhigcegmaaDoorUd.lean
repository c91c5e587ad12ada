/-
  Lists of strings and lists of users in memory; the user with a name: the program's 'named', the reference's 'at'.
-/
import Derived.Test.YtadnkbhigcegmaaDoorUc
import Derived.Deep.AppendLies
import Derived.Laws.OwnMore
import Derived.Maps.AppendAt
import Derived.OwnWalk
import Derived.Handy
import Derived.Laws.ResultCell
namespace Go.Proofs.YtadnkbhigcegmaaDoor
open Go.RowKit

/-- The slice v holds the strings L, in a block that lies below the world's size. -/
def SRow (w : World) (v : Value) (L : List (List UInt8)) : Prop :=
  ∃ p cap, v = .slice p L.length cap ∧ L.length ≤ cap ∧ cap ≤ maxLen ∧ (L ≠ [] → ∃ b o, p = some ⟨b, o, none⟩ ∧ b < w.heap.size ∧ ∀ j (hj : j < L.length), w.cell? ⟨b, o + j, none⟩ = some (sv L[j]))
theorem SRow.below {w w' : World} {v : Value} {L : List (List UInt8)} (h : SRow w v L) (hB : Below w.heap.size w w') : SRow w' v L := by
  obtain ⟨p, cap, rfl, hc, hm, h⟩ := h
  refine ⟨p, cap, rfl, hc, hm, fun hL => ?_⟩
  obtain ⟨b, o, rfl, hb, hcell⟩ := h hL
  exact ⟨b, o, rfl, Nat.lt_of_lt_of_le hb hB.size, fun j hj => by rw [hB.cell (p := ⟨b, o + j, none⟩) hb]; exact hcell j hj⟩
theorem SRow.nil_ (w : World) : SRow w (.slice none 0 0) [] := ⟨none, 0, rfl, Nat.le_refl _, Nat.zero_le _, fun h => absurd rfl h⟩
theorem SRow.of_own {w : World} {B : Nat} {e : TypeId} {v : Value} {L : List (List UInt8)} (h : w.ownsRow B e 1 v L.length (L.map sv)) : SRow w v L := by
  obtain ⟨h1, h2⟩ := h
  rcases h2 with ⟨rfl, hx⟩ | ⟨g, cap, cur, rfl, hb, hg, hnc, hcm, rest⟩
  · have : L = [] := List.eq_nil_of_length_eq_zero hx
    subst this
    exact SRow.nil_ w
  · refine ⟨some ⟨g, 0, none⟩, cap, rfl, hnc, hcm, fun _ => ⟨g, 0, rfl, ?_, fun j hj => ?_⟩⟩
    · exact (Array.getElem?_eq_some_iff.1 hg).1
    · have := World.ownsRow.cells (w := w) (base := B) (e := e) (size := 1) (n := L.length) (xs := L.map sv) (v := .slice (some ⟨g, 0, none⟩) L.length cap) ⟨h1, .inr ⟨g, cap, cur, rfl, hb, hg, hnc, hcm, rest⟩⟩ rfl j (sv L[j]) (by simp [hj])
      rw [add_at] at this
      exact this
theorem info_str : (Tryd.prog.info? 9).map (fun i => (i.zero, i.size, i.bytes)) = some (some (.string ⟨#[]⟩), 1, 16) := by kernel_rfl
/-- An append's way: only what lies from B on has turned. -/
theorem below_grown {B : Nat} {w w1 : World} {e : TypeId} {sz : Nat} {v : Value} {n : Nat} {xs : List Value} (o : Obj) (hB : B ≤ w.heap.size) (hown : w.ownsRow B e sz v n xs) (hg : (w.alloc o).grownBy w1 v.ownBlock) : Below B w w1 :=
  ((Below.refl B w).alloc hB o).grown hg (by simp; omega) (fun k hk => (hown.lt k hk).1)

/-- The slice v holds the users L, in a block that lies below the world's size. -/
def URow (w : World) (v : Value) (L : List U) : Prop :=
  ∃ p cap, v = .slice p L.length cap ∧ L.length ≤ cap ∧ cap ≤ maxLen ∧ (L ≠ [] → ∃ b o, p = some ⟨b, o, none⟩ ∧ b < w.heap.size ∧ ∀ k, k < L.length → ∃ mv,
    w.cell? ⟨b, o + k * 3, none⟩ = some (.string (mk (getL L k).n)) ∧ w.cell? ⟨b, o + k * 3 + 1, none⟩ = some (.string (mk (getL L k).l)) ∧ w.cell? ⟨b, o + k * 3 + 2, none⟩ = some mv ∧ SRow w mv (getL L k).m)
theorem URow.below {w w' : World} {v : Value} {L : List U} (h : URow w v L) (hB : Below w.heap.size w w') : URow w' v L := by
  obtain ⟨p, cap, rfl, hc, hm, h⟩ := h
  refine ⟨p, cap, rfl, hc, hm, fun hL => ?_⟩
  obtain ⟨b, o, rfl, hb, hcell⟩ := h hL
  refine ⟨b, o, rfl, Nat.lt_of_lt_of_le hb hB.size, fun k hk => ?_⟩
  obtain ⟨mv, c0, c1, c2, hs⟩ := hcell k hk
  exact ⟨mv, (hB.cell (p := ⟨b, o + k * 3, none⟩) hb).trans c0, (hB.cell (p := ⟨b, o + k * 3 + 1, none⟩) hb).trans c1, (hB.cell (p := ⟨b, o + k * 3 + 2, none⟩) hb).trans c2, hs.below hB⟩
theorem URow.nil_ (w : World) : URow w (.slice none 0 0) [] := ⟨none, 0, rfl, Nat.le_refl _, Nat.zero_le _, fun h => absurd rfl h⟩
/-- What a round reads of user k. -/
theorem URow.at_ {w wr : World} {v : Value} {L : List U} (h : URow w v L) (hB : Below w.heap.size w wr) {k : Nat} (hk : k < L.length) :
    ∃ b o cap q c, v = .slice (some ⟨b, o, none⟩) L.length cap ∧ b < w.heap.size ∧ (L.length : Int) ≤ (cap : Int) ∧ wr.cell? ⟨b, o + k * 3, none⟩ = some (.string (mk (getL L k).n)) ∧ wr.cell? ⟨b, o + k * 3 + 1, none⟩ = some (.string (mk (getL L k).l)) ∧
      wr.cell? ⟨b, o + k * 3 + 2, none⟩ = some (.slice q (getL L k).m.length c) ∧ (getL L k).m.length ≤ c ∧ SRow w (.slice q (getL L k).m.length c) (getL L k).m := by
  obtain ⟨p, cap, rfl, hc, hm, h⟩ := h
  obtain ⟨b, o, rfl, hb, hcell⟩ := h (by rintro rfl; simp at hk)
  obtain ⟨mv, c0, c1, c2, hs⟩ := hcell k hk
  obtain ⟨q, c, rfl, hqc, hqm, hq⟩ := id hs
  exact ⟨b, o, cap, q, c, rfl, hb, by omega, (hB.cell (p := ⟨b, o + k * 3, none⟩) hb).trans c0, (hB.cell (p := ⟨b, o + k * 3 + 1, none⟩) hb).trans c1, (hB.cell (p := ⟨b, o + k * 3 + 2, none⟩) hb).trans c2, hqc, hs⟩

theorem hid_at {L : List U} {x : List UInt8} {k : Nat} (hk : k < L.length) (h : ∀ j, j < k → (getL L j).n ≠ x) (he : (getL L k).n ≠ x) : ∀ j, j < k + 1 → (getL L j).n ≠ x := fun j hj => by
  by_cases e : j = k
  · subst e; exact he
  · exact h j (by omega)

set_option maxHeartbeats 1600000 in
theorem at_any (v : Value) (L : List U) (x : List UInt8) (w : World) (h : URow w v L) (hl : L.length ≤ 100000) :
    Calls Tryd.prog 39 #[v, .string (mk x)] w fun e w' => e = .returned (.int .i64 (if hasL L x = true then (atL L x : Int) else -1)) ∧ w = w' := by
  have HU := Lib.hid h
  obtain ⟨p, cap, rfl, hc, hm, _⟩ := h
  have hr : ∀ k, atL L x = k → (if hasL L x = true then (atL L x : Int) else -1) = if k < L.length then (k : Int) else -1 := by
    rintro k rfl; unfold hasL; simp
  have HR := Lib.hid hr
  generalize (if hasL L x = true then (atL L x : Int) else -1) = r at HR ⊢
  clear hr
  go_enter Tryd.func39, Tryd.ntmps39
  go_wp2
  go_loop [8] (fun vi => ∃ k : Nat, vi = .int .i64 (k : Int) ∧ k ≤ L.length ∧ Hid (∀ j, j < k → (getL L j).n ≠ x)) (fun vi => L.length - (intOf vi).toNat)
  case atStart => exact ⟨0, rfl, by omega, fun j hj => by omega⟩
  case round =>
    obtain ⟨k, rfl, hk, ha⟩ := hrel
    by_cases hlt : k < L.length
    · obtain ⟨b, o, cap', q, c, hp, hb, hcl, c0, c1, c2, hqc, hs⟩ := HU.out.at_ (Below.refl _ _) hlt
      obtain ⟨rfl, rfl⟩ : p = some ⟨b, o, none⟩ ∧ cap = cap' := by injection hp with h1 h2 h3; exact ⟨h1, h3⟩
      clear hp c1 c2 hs
      by_cases hn : (getL L k).n = x
      · have hq : ((mk (getL L k).n).toList == (mk x).toList) = true := by rw [hn]; simp
        have HA := Lib.hid (atL_hit hlt ha.out hn)
        clear hn
        generalize (getL L k).n = t at c0 hq
        go_wp2
        go_ret
        rw [HR.out k HA.out, if_pos hlt]
        exact ⟨rfl, rfl⟩
      · have hq : ((mk (getL L k).n).toList == (mk x).toList) = false := by rw [mk_toList, mk_toList]; simpa using hn
        have HA := Lib.hid (hid_at hlt ha.out hn)
        clear hn
        generalize (getL L k).n = t at c0 hq
        go_wp2
        exact ⟨⟨k + 1, by go_num, by omega, HA⟩, by simp [intOf]; omega⟩
    · have hkn : k = L.length := by omega
      have HA : Hid (atL L x = L.length) := atL_miss (by rw [← hkn]; exact ha.out)
      clear hkn
      go_wp2
      go_ret
      rw [HR.out _ HA.out, if_neg (by omega)]
      exact ⟨rfl, rfl⟩

/-- A block of one user. -/
def Blk3 (w : World) (B : Nat) (t : TypeId) : Prop := ∃ a b c, w.heap[B]? = some (.cells #[a, b, c] t (0, 0))
theorem blk3_0 {w : World} {B : Nat} {t : TypeId} {a b c : Value} (h : w.heap[B]? = some (.cells #[a, b, c] t (0, 0))) : w.cell? ⟨B, 0, none⟩ = some a := by simp [World.cell?, h]
theorem blk3_1 {w : World} {B : Nat} {t : TypeId} {a b c : Value} (h : w.heap[B]? = some (.cells #[a, b, c] t (0, 0))) : w.cell? ⟨B, 1, none⟩ = some b := by simp [World.cell?, h]
theorem blk3_2 {w : World} {B : Nat} {t : TypeId} {a b c : Value} (h : w.heap[B]? = some (.cells #[a, b, c] t (0, 0))) : w.cell? ⟨B, 2, none⟩ = some c := by simp [World.cell?, h]
theorem blk3_f {w : World} {B : Nat} {t : TypeId} {a b c : Value} (h : w.heap[B]? = some (.cells #[a, b, c] t (0, 0))) (j : Nat) : w.frozen? ⟨B, j, none⟩ = false := by simp [World.frozen?, h]

theorem Blk3.alloc {w : World} {B : Nat} {t : TypeId} (h : Blk3 w B t) (o : Obj) : Blk3 (w.alloc o) B t := by
  obtain ⟨a, b, c, h⟩ := h
  exact ⟨a, b, c, (Below.heap_alloc w o B (Array.getElem?_eq_some_iff.1 h).1).trans h⟩
theorem blk3_set {w : World} {B : Nat} {t : TypeId} {x0 x1 x2 : Value} (h : w.heap[B]? = some (.cells #[x0, x1, x2] t (0, 0))) (a b c : Value) :
    (((w.setCell ⟨B, 0, none⟩ a).setCell ⟨B, 1, none⟩ b).setCell ⟨B, 2, none⟩ c).heap[B]? = some (.cells #[a, b, c] t (0, 0)) := by
  simp [World.setCell, Array.getElem?_modify, h]
theorem blk3_alloc {w : World} {B : Nat} {t : TypeId} {a b c : Value} (h : w.heap[B]? = some (.cells #[a, b, c] t (0, 0))) (o : Obj) : (w.alloc o).heap[B]? = some (.cells #[a, b, c] t (0, 0)) :=
  (Below.heap_alloc w o B (Array.getElem?_eq_some_iff.1 h).1).trans h
theorem load_user {w : World} {B : Nat} {t : TypeId} {a b c : Value} (h : w.heap[B]? = some (.cells #[a, b, c] t (0, 0))) : (loadVar 32 ⟨B, 0, none⟩).run Tryd.prog w = .ok (.agg #[a, b, c]) w := by
  have z0 := blk3_0 h
  have z1 := blk3_1 h
  have z2 := blk3_2 h
  simp [go_sem, z0, z1, z2]
/-- A user and a bool are handed back: the user lies in a block of the call's own. -/
theorem results_user {fn : Func} {p u B : Nat} {t : TypeId} {a b c : Value} {w : World} {tmps : Array Value} (h : fn.results = #[.cell p 32, .tmp u]) (hp : tmps.getD p undef = .pointer (some ⟨B, 0, none⟩)) (hb : w.heap[B]? = some (.cells #[a, b, c] t (0, 0))) :
    (results fn tmps).run Tryd.prog w = .ok (.tuple #[.agg #[a, b, c], tmps.getD u undef]) w := by
  rw [results_cell_tmp h, hp]
  have ha : (asAddr (.pointer (some ⟨B, 0, none⟩))).run Tryd.prog w = .ok ⟨B, 0, none⟩ w := rfl
  simp only [ha, Result.andThen, load_user hb]
theorem below_set3 {B B' : Nat} {w wr : World} (h : Below B w wr) (hB : B ≤ B') (a b c : Value) : Below B w (((wr.setCell ⟨B', 0, none⟩ a).setCell ⟨B', 1, none⟩ b).setCell ⟨B', 2, none⟩ c) :=
  ((h.setCell (p := ⟨B', 0, none⟩) hB a).setCell (p := ⟨B', 1, none⟩) hB b).setCell (p := ⟨B', 2, none⟩) hB c

set_option maxHeartbeats 1600000 in
theorem named_any (v : Value) (L : List U) (x : List UInt8) (w : World) (h : URow w v L) (hl : L.length ≤ 100000) :
    Calls Tryd.prog 37 #[v, .string (mk x)] w fun e w' => ∃ mv, e = .returned (.tuple #[.agg #[.string (mk (findL L x).n), .string (mk (findL L x).l), mv], .bool (hasL L x)]) ∧ SRow w mv (findL L x).m ∧ Below w.heap.size w w' := by
  have HU := Lib.hid h
  obtain ⟨p, cap, rfl, hc, hm, _⟩ := h
  have hr : ∀ k, atL L x = k → hasL L x = decide (k < L.length) ∧ findL L x = getL L k := by
    rintro k rfl; exact ⟨rfl, rfl⟩
  have HR := Lib.hid hr
  generalize hasL L x = r at HR ⊢
  generalize findL L x = u at HR ⊢
  clear hr
  go_enter Tryd.func37, Tryd.ntmps37
  go_wp2
  go_loopw [10] (fun vi wr => ∃ k : Nat, vi = .int .i64 (k : Int) ∧ k ≤ L.length ∧ Hid (∀ j, j < k → (getL L j).n ≠ x) ∧ Hid (Below w.heap.size w wr) ∧ Hid (Blk3 wr w.heap.size 32)) (fun vi _ => L.length - (intOf vi).toNat)
  case atStart => exact ⟨0, rfl, by omega, fun j hj => by omega, (Below.refl _ w).alloc (Nat.le_refl _) _, ⟨_, _, _, heap_alloc_new w _⟩⟩
  case round =>
    obtain ⟨k, rfl, hk, ha, HB, HC⟩ := hrel
    have hsz := HB.out.size
    obtain ⟨x0, x1, x2, hX⟩ := HC.out
    have hlt0 := (Array.getElem?_eq_some_iff.1 hX).1
    have z0 := blk3_0 hX
    have z1 := blk3_1 hX
    have z2 := blk3_2 hX
    have f0 := blk3_f hX 0
    have f1 := blk3_f hX 1
    have f2 := blk3_f hX 2
    have HX := Lib.hid hX
    clear hX
    by_cases hlt : k < L.length
    · obtain ⟨b, o, cap', q, c, hp, hb, hcl, c0, c1, c2, hqc, hs⟩ := HU.out.at_ HB.out hlt
      obtain ⟨rfl, rfl⟩ : p = some ⟨b, o, none⟩ ∧ cap = cap' := by injection hp with h1 h2 h3; exact ⟨h1, h3⟩
      have HS := Lib.hid hs
      clear hp hs
      by_cases hn : (getL L k).n = x
      · have hq : ((mk (getL L k).n).toList == (mk x).toList) = true := by rw [hn]; simp
        have HA := Lib.hid (HR.out _ (atL_hit hlt ha.out hn))
        clear hn ha
        generalize hu : getL L k = uk at c0 c1 c2 hq hqc HS HA
        clear hu
        obtain ⟨un, ul, um⟩ := uk
        go_wp2
        refine bodyPost_ret (results_user rfl rfl (blk3_alloc (blk3_set HX.out _ _ _) _)) rfl ?_
        rw [HA.out.1, HA.out.2, decide_eq_true hlt]
        exact ⟨_, rfl, HS.out, (below_set3 HB.out (Nat.le_refl _) _ _ _).alloc (by simp; omega) _⟩
      · have hq : ((mk (getL L k).n).toList == (mk x).toList) = false := by rw [mk_toList, mk_toList]; simpa using hn
        have HA := Lib.hid (hid_at hlt ha.out hn)
        have HB' := fun o => Lib.hid (HB.out.alloc hsz o)
        have HC' := fun o => Lib.hid (HC.out.alloc o)
        clear hn
        generalize hu : getL L k = uk at c0 c1 c2 hq hqc HS
        clear hu
        obtain ⟨un, ul, um⟩ := uk
        go_wp2
        exact ⟨⟨k + 1, by go_num, by omega, HA, HB' _, HC' _⟩, by simp [intOf]; omega⟩
    · have hkn : k = L.length := by omega
      have HA : Hid (atL L x = L.length) := atL_miss (by rw [← hkn]; exact ha.out)
      have HA2 := Lib.hid (HR.out _ HA.out)
      clear hkn
      go_wp2
      refine bodyPost_ret (results_user rfl rfl (blk3_set HX.out _ _ _)) rfl ?_
      rw [HA2.out.1, HA2.out.2, getL_out, decide_eq_false (by omega)]
      exact ⟨_, rfl, SRow.nil_ _, below_set3 HB.out (Nat.le_refl _) _ _ _⟩
end Go.Proofs.YtadnkbhigcegmaaDoor
