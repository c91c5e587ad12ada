/-
  Walks: the program's Text and Parse; the reference's Parse.
-/
import Derived.Test.YtogjkkijejgggaaDoorMi
import Derived.Deep.MidRow
namespace Go.Proofs.YtogjkkijejgggaaDoor
open Go.RowKit

def marksL : List Value := [.int .i64 0, .int .u8 100, .int .i64 2147483648, .int .i64 0, .int .u8 97, .int .i64 1073741824, .int .i64 1, .int .u8 108, .int .i64 536870912,
  .int .i64 2, .int .u8 114, .int .i64 256, .int .i64 3, .int .u8 119, .int .i64 128, .int .i64 4, .int .u8 120, .int .i64 64, .int .i64 5, .int .u8 114, .int .i64 32, .int .i64 6, .int .u8 119, .int .i64 16,
  .int .i64 7, .int .u8 120, .int .i64 8, .int .i64 8, .int .u8 114, .int .i64 4, .int .i64 9, .int .u8 119, .int .i64 2, .int .i64 10, .int .u8 120, .int .i64 1]
/-- The table of marks lies in memory. -/
def G (W : World) : Prop := 0 < W.heap.size ∧ W.rangeAt 0 0 marksL
theorem G.below {W w : World} (g : G W) (h : Below W.heap.size W w) : G w :=
  ⟨Nat.lt_of_lt_of_le g.1 h.size, fun j v hj => (h.cell (p := ⟨_, _, none⟩) g.1).trans (g.2 j v hj)⟩
theorem G.at_ {W : World} (g : G W) : 0 < W.heap.size := g.1
theorem marks_info : (Tryd.prog.info? 44).map (·.size) = some marksL.length := by kernel_rfl
theorem marks_index (k : Nat) (hk : k < 12) (w : World) : (Instr.index 44 (.agg marksL.toArray) (.int .i64 (k : Int))).run Tryd.prog w = .ok (.agg #[.int .i64 (plc k : Int), .int .u8 ((ltr k).toNat : Int), .int .i64 (bt k)]) w := by
  have h : k = 0 ∨ k = 1 ∨ k = 2 ∨ k = 3 ∨ k = 4 ∨ k = 5 ∨ k = 6 ∨ k = 7 ∨ k = 8 ∨ k = 9 ∨ k = 10 ∨ k = 11 := by omega
  rcases h with rfl | rfl | rfl | rfl | rfl | rfl | rfl | rfl | rfl | rfl | rfl | rfl
  all_goals (show _ = _; kernel_rfl)
/-- The block of a text of bytes. -/
def Blk (w : World) (B : Nat) (L : List UInt8) : Prop := w.heap[B]? = some (.cells (L.map fun c => Value.int .u8 (c.toNat : Int)).toArray 5 (11, 12))

theorem Blk.alloc {w : World} {B : Nat} {L : List UInt8} (h : Blk w B L) (o : Obj) : Blk (w.alloc o) B L :=
  (Below.heap_alloc w o B (Array.getElem?_eq_some_iff.1 h).1).trans h
theorem Blk.set {w : World} {B : Nat} {L : List UInt8} (h : Blk w B L) (i : Nat) (c : UInt8) : Blk (w.setCell ⟨B, i, none⟩ (.int .u8 (c.toNat : Int))) B (L.set i c) := by
  have := Joins.block_setCell (i := i) h (.int .u8 (c.toNat : Int))
  unfold Blk
  rw [this]
  simp
theorem Blk.cell {w : World} {B : Nat} {L : List UInt8} (h : Blk w B L) (i : Nat) (hi : i < L.length) : w.cell? ⟨B, i, none⟩ = some (.int .u8 (L[i].toNat : Int)) := by
  rw [Joins.cell_of_block h i]; simp [hi]
theorem Blk.frozen {w : World} {B : Nat} {L : List UInt8} (h : Blk w B L) (i : Nat) (hi : i < 11) : w.frozen? ⟨B, i, none⟩ = false := by
  unfold Blk at h
  simp [World.frozen?, h]; omega
theorem Blk.lt {w : World} {B : Nat} {L : List UInt8} (h : Blk w B L) : B < w.heap.size := (Array.getElem?_eq_some_iff.1 h).1
theorem plc_lt (k : Nat) : plc k < 11 := by
  unfold plc
  match k with
  | 0 | 1 | 2 | 3 | 4 | 5 | 6 | 7 | 8 | 9 | 10 | 11 => decide
  | n + 12 => simp
theorem textK_yes {m : Int} {k : Nat} (h : bitB m (bt k) = true) : textK m (k + 1) = (textK m k).set (plc k) (ltr k) := by
  show (if bitB m (bt k) then _ else _) = _; rw [if_pos h]
theorem textK_no {m : Int} {k : Nat} (h : bitB m (bt k) = false) : textK m (k + 1) = textK m k := by
  show (if bitB m (bt k) then _ else _) = _; rw [h]; rfl

set_option maxHeartbeats 3200000 in
theorem Text_any (m : Int) (hm : inI m) (w : World) (g : G w) :
    Calls Tryd.prog 12 #[.int .i64 m] w fun e w' => e = .returned (.string (mk (textI m))) ∧ Below w.heap.size w w' := by
  have V := isValid_any m hm w
  have hr : textI m = if vldB m then textM m else [] := rfl
  generalize textI m = t at hr ⊢
  cases hv : vldB m
  · rw [hv] at V hr
    obtain rfl : t = [] := by simpa using hr
    replace V := Lib.hid V
    clear hr hv
    go_enter Tryd.func12, Tryd.ntmps12
    go_wp2_with fail
    refine V.out.mono ?_
    rintro e w1 ⟨rfl, rfl⟩
    go_wp2
    go_ret
    exact ⟨rfl, Below.refl _ _⟩
  · rw [hv] at V hr
    obtain rfl : t = textM m := by simpa using hr
    replace V := Lib.hid V
    have HE := Lib.hid (textK_end hv)
    have h0 : 0 ≤ m := by unfold vldB at hv; simp only [decide_eq_true_eq] at hv; omega
    obtain ⟨hm1, hm2⟩ := hm
    clear hr hv
    have kc := Joins.run_convert_bytes_const_at (P := Tryd.prog) w 46 5 #[.int .u8 45, .int .u8 45, .int .u8 45, .int .u8 45, .int .u8 45, .int .u8 45, .int .u8 45, .int .u8 45, .int .u8 45, .int .u8 45, .int .u8 45] 11 11 w.heap.size rfl Tryd.underlying46 Tryd.underlying5
    have hB1 := (Below.refl w.heap.size w).alloc (Nat.le_refl _) (.cells #[.int .u8 45, .int .u8 45, .int .u8 45, .int .u8 45, .int .u8 45, .int .u8 45, .int .u8 45, .int .u8 45, .int .u8 45, .int .u8 45, .int .u8 45] 5 (11, 12))
    have HG := Lib.hid (g.below hB1)
    have HB := Lib.hid hB1
    have HK : Hid (Blk (w.alloc (.cells #[.int .u8 45, .int .u8 45, .int .u8 45, .int .u8 45, .int .u8 45, .int .u8 45, .int .u8 45, .int .u8 45, .int .u8 45, .int .u8 45, .int .u8 45] 5 (11, 12))) w.heap.size (textK m 0)) := heap_alloc_new w _
    clear hB1
    go_enter Tryd.func12, Tryd.ntmps12
    go_wp2_with fail
    refine V.out.mono ?_
    rintro e w1 ⟨rfl, rfl⟩
    go_wp2_with (refine wpList_load_mid rfl 44 (.global 0) rfl 0 0 rfl marksL _ HG.out.2 Tryd.underlying44 rfl marks_info ?_)
    go_loopw [12] (fun vk wr => ∃ k : Nat, vk = .int .i64 (k : Int) ∧ k ≤ 12 ∧ Hid (Below w.heap.size w wr) ∧ Hid (Blk wr w.heap.size (textK m k))) (fun vk _ => 12 - (intOf vk).toNat)
    case atStart => exact ⟨0, rfl, by omega, HB.out, HK.out⟩
    case round =>
      obtain ⟨k, rfl, hk, hB, hK⟩ := hrel
      have hlt0 := hK.out.lt
      by_cases hlt : k < 12
      · have hix := marks_index k hlt
        have hp := plc_lt k
        have hand := and_bt h0 hm2 hlt
        have hc := hK.out.cell (plc k) (by rw [textK_len]; exact hp)
        have hf := hK.out.frozen (plc k) hp
        have hy := Lib.hid (@textK_yes m k)
        have hn := Lib.hid (@textK_no m k)
        generalize (textK m k)[plc k]'(by rw [textK_len]; exact hp) = c0 at hc
        have hB' := Lib.hid (hB.out.alloc hB.out.size)
        have hK' := Lib.hid hK.out.alloc
        cases hb : bitB m (bt k)
        · rw [hb] at hand
          have hand' : (bits .and .i64 m (bt k) == 0) = true := by simpa [bne] using hand
          replace hn := Lib.hid (hn.out hb)
          clear hb hc hf hy
          go_wp2
          exact ⟨⟨k + 1, by go_num, by omega, hB'.out _, by rw [Hid, hn.out]; exact hK'.out _⟩, by simp [intOf]; omega⟩
        · rw [hb] at hand
          have hand' : (bits .and .i64 m (bt k) == 0) = false := by simpa [bne] using hand
          replace hy := Lib.hid (hy.out hb)
          clear hb hn
          go_wp2
          exact ⟨⟨k + 1, by go_num, by omega, (hB.out.setCell (p := ⟨w.heap.size, plc k, none⟩) (Nat.le_refl _) _).alloc (by simp; omega) _, by rw [Hid, hy.out]; exact (hK.out.set _ _).alloc _⟩, by simp [intOf]; omega⟩
      · obtain rfl : k = 12 := by omega
        have hcv := run_convert_bytes_back (P := Tryd.prog) wr 46 9 5 ⟨w.heap.size, 0, none⟩ 11 (textK m 12) Tryd.underlying46 Tryd.underlying5 Tryd.underlying9 (fun j hj => by rw [add_at, Nat.zero_add]; exact hK.out.cell j hj)
        rw [textK_len] at hcv
        go_wp2
        go_ret
        exact ⟨ret_str (congrArg mk HE.out), hB.out⟩
end Go.Proofs.YtogjkkijejgggaaDoor
