/-
  Names: package path's Valid and the reference's.
  Descriptions, messages and lists in memory; the two tables.
-/
import Derived.Test.YtlfdmbfbfadifaaGreatDoorSa
import Derived.Test.YtlfdmbfbfadifaaGreatDoorRows
import Derived.WalkKit
import Derived.WalkSmall
import Derived.WalkSpells
import Derived.WalkLawsBesides
import Derived.Laws.BytesArg
import Derived.Lib.Hide
import Derived.Lib.Strings
import Derived.LoopTactic
import Derived.Test.YtlfdmbfbfadifaaGreatDoorWa
import Derived.StillTailTactics
import Derived.Deep.MidRow
import Derived.Lib.SmallJoins
import Derived.IntWalk
namespace Go.Proofs.YtlfdmbfbfadifaaGreatDoor
open Go.RowKit

def mk (l : List UInt8) : ByteArray := ⟨l.toArray⟩
theorem mk_toList (l : List UInt8) : (mk l).toList = l := by rw [Lib.toList_data]; simp [mk]
theorem mk_data (l : List UInt8) : (mk l).data.toList = l := by simp [mk]
theorem mk_of (s : ByteArray) : mk s.data.toList = s := by apply ByteArray.ext; simp [mk]
theorem mk_size (l : List UInt8) : (mk l).size = l.length := by simp [mk, ByteArray.size]
theorem mk_inj {a b : List UInt8} (h : mk a = mk b) : a = b := by rw [← mk_data a, ← mk_data b, h]
theorem mk_app (a b : List UInt8) : mk a ++ mk b = mk (a ++ b) := by
  apply ByteArray.ext
  simp [mk, ByteArray.data_append]
theorem mk_get (l : List UInt8) (k : Nat) (h : k < (mk l).size) : (mk l)[k] = l[k]'(by rw [mk_size] at h; exact h) := by
  simp only [mk]; rfl
theorem mk_cut (l : List UInt8) (a n : Nat) : (mk l).extract a (a + n) = mk (cut l a n) := by
  apply ByteArray.ext
  apply Array.ext'
  simp [mk, ByteArray.data_extract, cut, List.extract]
def sv (x : List UInt8) : Value := .string (mk x)
theorem add_at (b o j : Nat) : (⟨b, o, none⟩ : Addr).add j = ⟨b, o + j, none⟩ := by
  unfold Addr.add
  split
  · rename_i h; subst h; rfl
  · rfl

/-! ### Names -/
theorem isNameByte_any (c : UInt8) (w : World) :
    Calls Tryz.prog 93 #[.int .u8 (c.toNat : Int)] w fun e w' => e = .returned (.bool (nameB c)) ∧ w = w' := by
  have hc := c.toNat_lt
  by_cases h1 : 33 ≤ c.toNat
  · by_cases h2 : c.toNat ≤ 126
    · have hr : nameB c = ((c.toNat : Int) != 47) := by
        unfold nameB; rw [Bool.eq_iff_iff]; simp; omega
      rw [hr]
      clear hr
      go_enter Tryz.func93, Tryz.ntmps93
      go_wp2
      go_ret
      exact ⟨rfl, rfl⟩
    · have hr : nameB c = false := by unfold nameB; simp; omega
      rw [hr]
      clear hr
      go_enter Tryz.func93, Tryz.ntmps93
      go_wp2
      go_ret
      exact ⟨rfl, rfl⟩
  · have hr : nameB c = false := by unfold nameB; simp; omega
    rw [hr]
    clear hr
    go_enter Tryz.func93, Tryz.ntmps93
    go_wp2
    go_ret
    exact ⟨rfl, rfl⟩

theorem validL_bad {s : ByteArray} (h : s.toList = [] ∨ 64 < s.size ∨ s.toList = [46] ∨ s.toList = [46, 46]) : validL s.data.toList = false := by
  rw [Lib.toList_data] at h
  have hl : s.data.toList.length = s.size := Array.length_toList
  unfold validL
  rw [Bool.and_eq_false_iff]
  left
  rw [decide_eq_false_iff_not]
  rintro ⟨a, b, c, d⟩
  rcases h with h | h | h | h
  · exact a h
  · omega
  · exact c h
  · exact d h
theorem validL_good {s : ByteArray} (h1 : s.toList ≠ []) (h2 : s.size ≤ 64) (h3 : s.toList ≠ [46]) (h4 : s.toList ≠ [46, 46]) : validL s.data.toList = s.data.toList.all nameB := by
  rw [Lib.toList_data] at h1 h3 h4
  have hl : s.data.toList.length = s.size := Array.length_toList
  unfold validL
  rw [decide_eq_true ⟨h1, by omega, h3, h4⟩, Bool.true_and]
theorem take_all (s : ByteArray) (k : Nat) (h : k < s.size) (ha : (s.data.toList.take k).all nameB = true) (hb : nameB s[k] = true) : (s.data.toList.take (k + 1)).all nameB = true := by
  have hl : s.data.toList.length = s.size := Array.length_toList
  rw [List.take_succ_eq_append_getElem (by omega), List.all_append, ha]
  simp
  exact hb
theorem take_none (s : ByteArray) (k : Nat) (h : k < s.size) (hb : nameB s[k] = false) : s.data.toList.all nameB = false := by
  have hl : s.data.toList.length = s.size := Array.length_toList
  rw [List.all_eq_false]
  refine ⟨s[k], ?_, by simp [hb]⟩
  rw [show s[k] = s.data.toList[k]'(by omega) from by simp [Array.getElem_toList]; rfl]
  exact List.getElem_mem _

set_option maxHeartbeats 800000 in
theorem Valid_any (s : ByteArray) (hs : s.size ≤ 9223372036854775807) (w : World) :
    Calls Tryz.prog 84 #[.string s] w fun e w' => e = .returned (.bool (validL s.data.toList)) ∧ w = w' := by
  have hl : s.data.toList.length = s.size := Array.length_toList
  have HL := Lib.hid hl
  clear hl
  by_cases hbad : s.toList = [] ∨ 64 < s.size ∨ s.toList = [46] ∨ s.toList = [46, 46]
  · have HR := Lib.hid (validL_bad hbad)
    rw [HR.out]
    rcases hbad with h | h | h | h
    · have g2 : (s.toList == [46]) = false := by rw [h]; decide
      go_enter Tryz.func84, Tryz.ntmps84
      go_wp2
      go_ret
      exact ⟨rfl, rfl⟩
    · have g1 : s.toList ≠ [] := by
        intro e; rw [Lib.toList_data] at e; have := HL.out; rw [e] at this; simp at this; omega
      go_enter Tryz.func84, Tryz.ntmps84
      go_wp2
      go_ret
      exact ⟨rfl, rfl⟩
    · have g1 : s.toList ≠ [] := by rw [h]; simp
      have g3 : s.size ≤ 64 := by have := HL.out; rw [← Lib.toList_data, h] at this; simp at this; omega
      go_enter Tryz.func84, Tryz.ntmps84
      go_wp2
      go_ret
      exact ⟨rfl, rfl⟩
    · have g1 : s.toList ≠ [] := by rw [h]; simp
      have g2 : (s.toList == [46]) = false := by rw [h]; decide
      have g3 : s.size ≤ 64 := by have := HL.out; rw [← Lib.toList_data, h] at this; simp at this; omega
      have g4 : (s.toList == [46, 46]) = true := by rw [h]; decide
      go_enter Tryz.func84, Tryz.ntmps84
      go_wp2
      go_ret
      exact ⟨rfl, rfl⟩
  · simp only [not_or] at hbad
    obtain ⟨h1, h2, h3, h4⟩ := hbad
    have hr := validL_good h1 (by omega) h3 h4
    generalize validL s.data.toList = r at hr ⊢
    have HR := Lib.hid hr
    clear hr
    have g0 : s.toList.isEmpty = false := by simp [h1]
    have g2 : (s.toList == [46]) = false := by simpa using h3
    have g4 : (s.toList == [46, 46]) = false := by simpa using h4
    have g3 : s.size ≤ 64 := by omega
    go_enter Tryz.func84, Tryz.ntmps84
    go_wp2
    go_loop [21] (fun vi => ∃ k : Nat, vi = .int .i64 (k : Int) ∧ k ≤ s.size ∧ Hid ((s.data.toList.take k).all nameB = true)) (fun vi => s.size - (intOf vi).toNat)
    case atStart => exact ⟨0, rfl, by omega, by simp [Hid]⟩
    case round =>
      obtain ⟨k, rfl, hk, ha⟩ := hrel
      by_cases hlt : k < s.size
      · have N := isNameByte_any s[k] w
        by_cases hb : nameB s[k] = true
        · rw [hb] at N
          have HN := Lib.hid N
          have HA := Lib.hid (take_all s k hlt ha.out hb)
          clear N hb
          go_wp2_with (go_at_call 93; refine HN.out.mono ?_; rintro e w' ⟨rfl, rfl⟩)
          exact ⟨⟨k + 1, by go_num, by omega, HA⟩, by simp [intOf]; omega⟩
        · have hb : nameB s[k] = false := by simpa using hb
          rw [hb] at N
          have HN := Lib.hid N
          have HA := Lib.hid (take_none s k hlt hb)
          clear N hb
          go_wp2_with (go_at_call 93; refine HN.out.mono ?_; rintro e w' ⟨rfl, rfl⟩)
          go_ret
          rw [HR.out, HA.out]
          exact ⟨rfl, rfl⟩
      · have hkn : k = s.size := by omega
        have ha' := ha.out
        rw [hkn, ← HL.out, List.take_length] at ha'
        have HA := Lib.hid ha'
        clear ha'
        go_wp2
        go_ret
        rw [HR.out, HA.out]
        exact ⟨rfl, rfl⟩

theorem nameB_eq (c : UInt8) : nameB c = (!decide ((c.toNat : Int) < 33) && (!decide (126 < (c.toNat : Int)) && !((c.toNat : Int) == 47))) := by
  unfold nameB; rw [Bool.eq_iff_iff]; simp; omega
theorem validL_long {s : ByteArray} (h : s.data.toList.all nameB = true) : validL s.data.toList = decide (1 ≤ s.size ∧ s.size ≤ 64 ∧ s.toList ≠ [46] ∧ s.toList ≠ [46, 46]) := by
  have hl : s.data.toList.length = s.size := Array.length_toList
  unfold validL
  rw [h, Bool.and_true, Lib.toList_data, ← hl]
  congr 1
  apply propext
  constructor
  · rintro ⟨a, b, c⟩; exact ⟨List.length_pos_iff.2 a, b, c⟩
  · rintro ⟨a, b, c⟩; exact ⟨List.length_pos_iff.1 a, b, c⟩
theorem validL_not {s : ByteArray} (h : s.data.toList.all nameB = false) : validL s.data.toList = false := by
  unfold validL; rw [h, Bool.and_false]

set_option maxHeartbeats 1600000 in
theorem RValid_any (s : ByteArray) (hs : s.size ≤ 9223372036854775807) (w : World) :
    Calls Tryz.prog 87 #[.string s] w fun e w' => e = .returned (.bool (validL s.data.toList)) ∧ w = w' := by
  have hl : s.data.toList.length = s.size := Array.length_toList
  have HL := Lib.hid hl
  clear hl
  have HG := Lib.hid (fun h => validL_long (s := s) h)
  have HN := Lib.hid (fun h => validL_not (s := s) h)
  generalize validL s.data.toList = r at HG HN ⊢
  go_enter Tryz.func87, Tryz.ntmps87
  go_wp2
  go_loop [3] (fun vi => ∃ k : Nat, vi = .int .i64 (k : Int) ∧ k ≤ s.size ∧ Hid ((s.data.toList.take k).all nameB = true)) (fun vi => s.size - (intOf vi).toNat)
  case atStart => exact ⟨0, rfl, by omega, by simp [Hid]⟩
  case round =>
    obtain ⟨k, rfl, hk, ha⟩ := hrel
    by_cases hlt : k < s.size
    · have hc := s[k].toNat_lt
      have hn := nameB_eq s[k]
      have HA := fun h => Lib.hid (take_all s k hlt ha.out h)
      have HB := fun h => Lib.hid (HN.out (take_none s k hlt h))
      by_cases h1 : (s[k].toNat : Int) < 33
      · have HB' := HB (by rw [hn]; simp [h1])
        clear HA HB hn
        go_wp2
        go_ret
        rw [HB'.out]
        exact ⟨rfl, rfl⟩
      by_cases h2 : 126 < (s[k].toNat : Int)
      · have HB' := HB (by rw [hn]; simp [h2])
        clear HA HB hn
        go_wp2
        go_ret
        rw [HB'.out]
        exact ⟨rfl, rfl⟩
      have h3' : ((s[k].toNat : Int) == 47) = decide ((s[k].toNat : Int) = 47) := rfl
      by_cases h3 : (s[k].toNat : Int) = 47
      · have HB' := HB (by rw [hn]; simp [h3])
        have h4 : ((s[k].toNat : Int) == 47) = true := by rw [h3]; rfl
        clear HA HB hn h3 h3'
        go_wp2
        go_ret
        rw [HB'.out]
        exact ⟨rfl, rfl⟩
      · have HA' := HA (by rw [hn]; simp [h1, h2, h3])
        have h4 : ((s[k].toNat : Int) == 47) = false := by simpa using h3
        clear HA HB hn h3 h3'
        go_wp2
        exact ⟨⟨k + 1, by go_num, by omega, HA'⟩, by simp [intOf]; omega⟩
    · have hkn : k = s.size := by omega
      have ha' := ha.out
      rw [hkn, ← HL.out, List.take_length] at ha'
      have hr := HG.out ha'
      clear ha'
      by_cases h1 : 1 ≤ s.size
      · by_cases h2 : s.size ≤ 64
        · by_cases h3 : s.toList = [46]
          · have h4 : (s.toList == [46]) = true := by rw [h3]; decide
            have HA : Hid (r = false) := by rw [hr]; simp [Hid, h3]
            clear hr h3
            go_wp2
            go_ret
            rw [HA.out]
            exact ⟨rfl, rfl⟩
          · have h4 : (s.toList == [46]) = false := by simpa using h3
            have HA : Hid (r = !(s.toList == [46, 46])) := by
              rw [hr]; show _ = _; rw [Bool.eq_iff_iff]; simp [h1, h2, h3]
            clear hr h3
            go_wp2
            go_ret
            rw [HA.out]
            exact ⟨rfl, rfl⟩
        · have HA : Hid (r = false) := by rw [hr]; simp [Hid, h2]
          clear hr
          go_wp2
          go_ret
          rw [HA.out]
          exact ⟨rfl, rfl⟩
      · have HA : Hid (r = false) := by rw [hr]; simp [Hid, h1]
        clear hr
        go_wp2
        go_ret
        rw [HA.out]
        exact ⟨rfl, rfl⟩


/-! ### The same over lists of bytes -/
theorem ValidM (l : List UInt8) (hs : l.length ≤ maxLen) (w : World) :
    Calls Tryz.prog 84 #[.string (mk l)] w fun e w' => e = .returned (.bool (validL l)) ∧ w = w' := by
  have h := Valid_any (mk l) (by rw [mk_size]; unfold maxLen at hs; omega) w
  rw [mk_data] at h
  exact h
theorem RValidM (l : List UInt8) (hs : l.length ≤ maxLen) (w : World) :
    Calls Tryz.prog 87 #[.string (mk l)] w fun e w' => e = .returned (.bool (validL l)) ∧ w = w' := by
  have h := RValid_any (mk l) (by rw [mk_size]; unfold maxLen at hs; omega) w
  rw [mk_data] at h
  exact h
end Go.Proofs.YtlfdmbfbfadifaaGreatDoor

namespace Go.Proofs.YtlfdmbfbfadifaaGreatDoor
open Go.RowKit

/-- The cells of a description. -/
def cellsD (d : DD) : List Value := [.int .i64 d.ty, .int .i64 d.dv, .int .i64 d.qt, .int .i64 d.qv, .int .i64 d.qp, .int .i64 d.mo, .int .i64 d.ai, .int .i64 d.mi, .int .i64 d.ln, .string (mk d.nm), .string (mk d.ui), .string (mk d.gi), .string (mk d.mu)]
theorem cellsD_num (d : DD) {k : Nat} (hk : k < 9) : (cellsD d)[k]? = some (.int .i64 (num d k)) := by
  rcases k9 hk with rfl | rfl | rfl | rfl | rfl | rfl | rfl | rfl | rfl <;> rfl
theorem cellsD_txt (d : DD) {k : Nat} (hk : k < 4) : (cellsD d)[9 + k]? = some (.string (mk (txt d k))) := by
  rcases k4 hk with rfl | rfl | rfl | rfl <;> rfl
def cellsA (d : DD) : Array Value := (cellsD d).toArray
/-- The description as a value. -/
def dirV (d : DD) : Value := .agg (cellsA d)
theorem cellsA_size (d : DD) : (cellsA d).size = 13 := rfl
theorem cellsA_one (d : DD) : (cellsA d).all (·.oneCell') = true := by simp [cellsA, cellsD, Value.oneCell']
/-- The block b is that of the description d. -/
def BlkD (w : World) (b : Nat) (d : DD) : Prop := w.heap[b]? = some (.cells (cellsA d) 27 (0, 0))
theorem BlkD.lt {w : World} {b : Nat} {d : DD} (h : BlkD w b d) : b < w.heap.size := (Array.getElem?_eq_some_iff.1 h).1
theorem BlkD.cell {w : World} {b : Nat} {d : DD} (h : BlkD w b d) (i : Nat) : w.cell? ⟨b, i, none⟩ = (cellsD d)[i]? := by
  rw [Joins.cell_of_block h i]; simp [cellsA]
theorem BlkD.frozen {w : World} {b : Nat} {d : DD} (h : BlkD w b d) (i : Nat) : w.frozen? ⟨b, i, none⟩ = false := by
  unfold BlkD at h
  simp [World.frozen?, h]
theorem BlkD.numc {w : World} {b : Nat} {d : DD} (h : BlkD w b d) {k : Nat} (hk : k < 9) : w.cell? ⟨b, k, none⟩ = some (.int .i64 (num d k)) := (h.cell k).trans (cellsD_num d hk)
theorem BlkD.txtc {w : World} {b : Nat} {d : DD} (h : BlkD w b d) {k : Nat} (hk : k < 4) : w.cell? ⟨b, 9 + k, none⟩ = some (.string (mk (txt d k))) := (h.cell (9 + k)).trans (cellsD_txt d hk)
theorem BlkD.new (w : World) (d : DD) : BlkD (w.alloc (.cells (cellsA d) 27)) w.heap.size d := heap_alloc_new w _
theorem BlkD.alloc {w : World} {b : Nat} {d : DD} (h : BlkD w b d) (o : Obj) : BlkD (w.alloc o) b d := (Below.heap_alloc w o b h.lt).trans h
theorem BlkD.below {w w' : World} {b B : Nat} {d : DD} (h : BlkD w b d) (hB : Below B w w') (hb : b < B) : BlkD w' b d := (hB.block b hb).trans h
theorem BlkD.drew {w : World} {b : Nat} {d : DD} (h : BlkD w b d) : BlkD w.drew b d := h
theorem BlkD.drewN {w : World} {b : Nat} {d : DD} (h : BlkD w b d) (n : Nat) : BlkD (w.drewN n) b d := h

theorem cells13 {w : World} {b : Nat} {d : DD} (h : BlkD w b d) : w.cell? ⟨b, 0, none⟩ = some (.int .i64 d.ty) ∧ w.cell? ⟨b, 1, none⟩ = some (.int .i64 d.dv) ∧ w.cell? ⟨b, 2, none⟩ = some (.int .i64 d.qt) ∧ w.cell? ⟨b, 3, none⟩ = some (.int .i64 d.qv) ∧ w.cell? ⟨b, 4, none⟩ = some (.int .i64 d.qp) ∧ w.cell? ⟨b, 5, none⟩ = some (.int .i64 d.mo) ∧ w.cell? ⟨b, 6, none⟩ = some (.int .i64 d.ai) ∧ w.cell? ⟨b, 7, none⟩ = some (.int .i64 d.mi) ∧ w.cell? ⟨b, 8, none⟩ = some (.int .i64 d.ln) ∧ w.cell? ⟨b, 9, none⟩ = some (.string (mk d.nm)) ∧ w.cell? ⟨b, 10, none⟩ = some (.string (mk d.ui)) ∧ w.cell? ⟨b, 11, none⟩ = some (.string (mk d.gi)) ∧ w.cell? ⟨b, 12, none⟩ = some (.string (mk d.mu)) :=
  ⟨h.cell 0, h.cell 1, h.cell 2, h.cell 3, h.cell 4, h.cell 5, h.cell 6, h.cell 7, h.cell 8, h.cell 9, h.cell 10, h.cell 11, h.cell 12⟩

/-! ### Where the numbers and the texts lie -/
def ptr (b k : Nat) : Value := .pointer (some ⟨b, k, none⟩)
def ptrs (b k : Nat) : Nat → List Value
  | 0 => []
  | n + 1 => ptr b k :: ptrs b (k + 1) n
theorem nums_index (b : Nat) {k : Nat} (hk : k < 9) (w : World) : (Instr.index 136 (.agg (ptrs b 0 9).toArray) (.int .i64 (k : Int))).run Tryz.prog w = .ok (.pointer (some ⟨b, k, none⟩)) w := by
  rcases k9 hk with rfl | rfl | rfl | rfl | rfl | rfl | rfl | rfl | rfl
  all_goals (show _ = _; kernel_rfl)

/-! ### The table of formats -/
def formatsL : List Value := [.int .i64 2, .int .i64 65534, .bool false, .int .i64 4, .int .i64 4294967294, .bool false, .int .i64 1, .int .i64 232, .bool true, .int .i64 4, .int .i64 2147483647, .bool false, .int .i64 8, .int .i64 1099511627776, .bool false,
  .int .i64 4, .int .i64 3892314623, .bool true, .int .i64 8, .int .i64 1099511627776, .bool false, .int .i64 8, .int .i64 1099511627776, .bool false, .int .i64 8, .int .i64 9007199254740991, .bool false]
def subjL : List Value := (List.range 16).map fun i => .string (mk (subjN i))
/-- The two tables lie in memory. -/
def G (W : World) : Prop := (1 < W.heap.size ∧ W.rangeAt 1 0 formatsL) ∧ (0 < W.heap.size ∧ W.rangeAt 0 0 subjL)
theorem G.below {W w : World} (g : G W) (h : Below W.heap.size W w) : G w :=
  ⟨⟨Nat.lt_of_lt_of_le g.1.1 h.size, fun j v hj => (h.cell (p := ⟨_, _, none⟩) g.1.1).trans (g.1.2 j v hj)⟩, ⟨Nat.lt_of_lt_of_le g.2.1 h.size, fun j v hj => (h.cell (p := ⟨_, _, none⟩) g.2.1).trans (g.2.2 j v hj)⟩⟩
theorem G.fmt {W : World} (g : G W) {k : Nat} (hk : k < 9) : W.cell? ⟨1, k * 3, none⟩ = some (.int .i64 (fW k : Int)) ∧ W.cell? ⟨1, k * 3 + 1, none⟩ = some (.int .i64 (fG k : Int)) ∧ W.cell? ⟨1, k * 3 + 2, none⟩ = some (.bool (fS k)) := by
  have h := g.1.2
  have h0 := fun j v hj => (congrArg (fun i => W.cell? ⟨1, i, none⟩) (Nat.zero_add j)).symm.trans (h j v hj)
  rcases k9 hk with rfl | rfl | rfl | rfl | rfl | rfl | rfl | rfl | rfl
  all_goals exact ⟨h0 _ _ rfl, h0 _ _ rfl, h0 _ _ rfl⟩
theorem G.subj {W : World} (g : G W) {k : Nat} (hk : k < 16) : W.cell? ⟨0, k, none⟩ = some (.string (mk (subjN k))) := by
  have h := g.2.2 k (.string (mk (subjN k))) (by simp [subjL, List.getElem?_map, List.getElem?_range hk])
  rwa [Nat.zero_add] at h

theorem below_drew {B : Nat} {a w : World} (h : Below B a w) : Below B a w.drew := ⟨h.os, h.tape, h.output, h.size, h.block⟩
theorem below_drewN {B : Nat} {a w : World} (h : Below B a w) (n : Nat) : Below B a (w.drewN n) := ⟨h.os, h.tape, h.output, h.size, h.block⟩

/-! ### Lists of texts and of qids in memory -/
/-- The slice v holds the strings L, in a block that lies below the world's size. -/
def SRow (w : World) (v : Value) (L : List (List UInt8)) : Prop :=
  ∃ p cap, v = .slice p L.length cap ∧ L.length ≤ cap ∧ cap ≤ maxLen ∧ (L ≠ [] → ∃ b o, p = some ⟨b, o, none⟩ ∧ b < w.heap.size ∧ ∀ j (hj : j < L.length), w.cell? ⟨b, o + j, none⟩ = some (sv L[j]))
theorem SRow.below {w w' : World} {v : Value} {L : List (List UInt8)} (h : SRow w v L) (hB : Below w.heap.size w w') : SRow w' v L := by
  obtain ⟨p, cap, rfl, hc, hm, h⟩ := h
  refine ⟨p, cap, rfl, hc, hm, fun hL => ?_⟩
  obtain ⟨b, o, rfl, hb, hcell⟩ := h hL
  exact ⟨b, o, rfl, Nat.lt_of_lt_of_le hb hB.size, fun j hj => by rw [hB.cell (p := ⟨b, o + j, none⟩) hb]; exact hcell j hj⟩
theorem SRow.nil_ (w : World) : SRow w (.slice none 0 0) [] := ⟨none, 0, rfl, Nat.le_refl _, Nat.zero_le _, fun h => absurd rfl h⟩
def atQ (L : List QQ) (k : Nat) : QQ := L.getD k noQ
/-- The slice v holds the qids L. -/
def QRow (w : World) (v : Value) (L : List QQ) : Prop :=
  ∃ p cap, v = .slice p L.length cap ∧ L.length ≤ cap ∧ cap ≤ maxLen ∧ (L ≠ [] → ∃ b o, p = some ⟨b, o, none⟩ ∧ b < w.heap.size ∧ ∀ k, k < L.length →
    w.cell? ⟨b, o + k * 3, none⟩ = some (.int .i64 (atQ L k).t) ∧ w.cell? ⟨b, o + k * 3 + 1, none⟩ = some (.int .i64 (atQ L k).v) ∧ w.cell? ⟨b, o + k * 3 + 2, none⟩ = some (.int .i64 (atQ L k).p))
theorem QRow.below {w w' : World} {v : Value} {L : List QQ} (h : QRow w v L) (hB : Below w.heap.size w w') : QRow w' v L := by
  obtain ⟨p, cap, rfl, hc, hm, h⟩ := h
  refine ⟨p, cap, rfl, hc, hm, fun hL => ?_⟩
  obtain ⟨b, o, rfl, hb, hcell⟩ := h hL
  refine ⟨b, o, rfl, Nat.lt_of_lt_of_le hb hB.size, fun k hk => ?_⟩
  obtain ⟨c0, c1, c2⟩ := hcell k hk
  exact ⟨(hB.cell (p := ⟨b, o + k * 3, none⟩) hb).trans c0, (hB.cell (p := ⟨b, o + k * 3 + 1, none⟩) hb).trans c1, (hB.cell (p := ⟨b, o + k * 3 + 2, none⟩) hb).trans c2⟩
theorem QRow.nil_ (w : World) : QRow w (.slice none 0 0) [] := ⟨none, 0, rfl, Nat.le_refl _, Nat.zero_le _, fun h => absurd rfl h⟩
/-- What a round reads of text k. -/
theorem SRow.at_ {w wr : World} {v : Value} {L : List (List UInt8)} (h : SRow w v L) (hB : Below w.heap.size w wr) {k : Nat} (hk : k < L.length) :
    ∃ b o cap, v = .slice (some ⟨b, o, none⟩) L.length cap ∧ b < w.heap.size ∧ (L.length : Int) ≤ (cap : Int) ∧ wr.cell? ⟨b, o + k, none⟩ = some (.string (mk L[k])) := by
  obtain ⟨p, cap, rfl, hc, hm, h⟩ := h
  obtain ⟨b, o, rfl, hb, hcell⟩ := h (by rintro rfl; simp at hk)
  exact ⟨b, o, cap, rfl, hb, by omega, (hB.cell (p := ⟨b, o + k, none⟩) hb).trans (hcell k hk)⟩
/-- What a round reads of qid k. -/
theorem QRow.at_ {w wr : World} {v : Value} {L : List QQ} (h : QRow w v L) (hB : Below w.heap.size w wr) {k : Nat} (hk : k < L.length) :
    ∃ b o cap q, atQ L k = q ∧ v = .slice (some ⟨b, o, none⟩) L.length cap ∧ b < w.heap.size ∧ (L.length : Int) ≤ (cap : Int) ∧ wr.cell? ⟨b, o + k * 3, none⟩ = some (.int .i64 q.t) ∧ wr.cell? ⟨b, o + k * 3 + 1, none⟩ = some (.int .i64 q.v) ∧ wr.cell? ⟨b, o + k * 3 + 2, none⟩ = some (.int .i64 q.p) := by
  obtain ⟨p, cap, rfl, hc, hm, h⟩ := h
  obtain ⟨b, o, rfl, hb, hcell⟩ := h (by rintro rfl; simp at hk)
  obtain ⟨c0, c1, c2⟩ := hcell k hk
  exact ⟨b, o, cap, _, rfl, rfl, hb, by omega, (hB.cell (p := ⟨b, o + k * 3, none⟩) hb).trans c0, (hB.cell (p := ⟨b, o + k * 3 + 1, none⟩) hb).trans c1, (hB.cell (p := ⟨b, o + k * 3 + 2, none⟩) hb).trans c2⟩

/-! ### Messages in memory -/
def cellsM (m : MM) : List Value := [.int .i64 m.kd, .int .i64 m.tg, .int .i64 m.fi, .int .i64 m.nf, .int .i64 m.af, .int .i64 m.ot, .int .i64 m.ms, .string (mk m.ve), .string (mk m.us), .string (mk m.ac), m.nv, m.qv, .int .i64 m.qd.t, .int .i64 m.qd.v, .int .i64 m.qd.p,
  .int .i64 m.io, .int .i64 m.mo, .int .i64 m.pe, .string (mk m.na), .int .i64 m.os, .int .i64 m.co, .string (mk m.da), .int .i64 m.st.ty, .int .i64 m.st.dv, .int .i64 m.st.qt, .int .i64 m.st.qv, .int .i64 m.st.qp, .int .i64 m.st.mo, .int .i64 m.st.ai, .int .i64 m.st.mi, .int .i64 m.st.ln,
  .string (mk m.st.nm), .string (mk m.st.ui), .string (mk m.st.gi), .string (mk m.st.mu), .int .i64 m.er, .int .i64 m.lz, .int .i64 m.te, .string (mk m.se)]
def cellsB (m : MM) : Array Value := (cellsM m).toArray
/-- The message as a value. -/
def msgV (m : MM) : Value := .agg (cellsB m)
/-- The block b is that of the message m. -/
def BlkM (w : World) (b : Nat) (m : MM) : Prop := w.heap[b]? = some (.cells (cellsB m) 30 (0, 0))
theorem BlkM.lt {w : World} {b : Nat} {m : MM} (h : BlkM w b m) : b < w.heap.size := (Array.getElem?_eq_some_iff.1 h).1
theorem BlkM.cell {w : World} {b : Nat} {m : MM} (h : BlkM w b m) (i : Nat) : w.cell? ⟨b, i, none⟩ = (cellsM m)[i]? := by
  rw [Joins.cell_of_block h i]; simp [cellsB]
theorem BlkM.frozen {w : World} {b : Nat} {m : MM} (h : BlkM w b m) (i : Nat) : w.frozen? ⟨b, i, none⟩ = false := by
  unfold BlkM at h
  simp [World.frozen?, h]
theorem BlkM.new (w : World) (m : MM) : BlkM (w.alloc (.cells (cellsB m) 30)) w.heap.size m := heap_alloc_new w _
theorem BlkM.alloc {w : World} {b : Nat} {m : MM} (h : BlkM w b m) (o : Obj) : BlkM (w.alloc o) b m := (Below.heap_alloc w o b h.lt).trans h
theorem BlkM.below {w w' : World} {b B : Nat} {m : MM} (h : BlkM w b m) (hB : Below B w w') (hb : b < B) : BlkM w' b m := (hB.block b hb).trans h
theorem BlkM.drew {w : World} {b : Nat} {m : MM} (h : BlkM w b m) : BlkM w.drew b m := h
theorem BlkM.drewN {w : World} {b : Nat} {m : MM} (h : BlkM w b m) (n : Nat) : BlkM (w.drewN n) b m := h
theorem BlkM.stat {w : World} {b : Nat} {m : MM} (h : BlkM w b m) : w.rangeAt b 22 (cellsD m.st) := fun j v hv => by
  rw [h.cell (22 + j), ← hv]
  have hj : j < 13 := (List.getElem?_eq_some_iff.1 hv).1
  have hc : j = 0 ∨ j = 1 ∨ j = 2 ∨ j = 3 ∨ j = 4 ∨ j = 5 ∨ j = 6 ∨ j = 7 ∨ j = 8 ∨ j = 9 ∨ j = 10 ∨ j = 11 ∨ j = 12 := by omega
  rcases hc with rfl | rfl | rfl | rfl | rfl | rfl | rfl | rfl | rfl | rfl | rfl | rfl | rfl <;> rfl
def inD (d : DD) : Prop := ∀ k, k < 9 → inI (num d k)
def bigD (d : DD) : Prop := ∀ k, k < 4 → (txt d k).length ≤ maxLen
/-- Its numbers are in range, its texts no longer than memory. -/
def inM (m : MM) : Prop := inI m.qd.t ∧ inD m.st ∧ bigD m.st ∧ (∀ k, k < m.ql.length → inI (atQ m.ql k).t) ∧ (∀ l ∈ m.nl, l.length ≤ maxLen) ∧
  m.ve.length ≤ maxLen ∧ m.us.length ≤ maxLen ∧ m.ac.length ≤ maxLen ∧ m.na.length ≤ maxLen ∧ m.da.length ≤ maxLen ∧ m.se.length ≤ maxLen
/-- Its lists lie in memory. -/
def RowM (w : World) (m : MM) : Prop := SRow w m.nv m.nl ∧ QRow w m.qv m.ql
theorem RowM.below {w w' : World} {m : MM} (h : RowM w m) (hB : Below w.heap.size w w') : RowM w' m := ⟨h.1.below hB, h.2.below hB⟩
end Go.Proofs.YtlfdmbfbfadifaaGreatDoor
