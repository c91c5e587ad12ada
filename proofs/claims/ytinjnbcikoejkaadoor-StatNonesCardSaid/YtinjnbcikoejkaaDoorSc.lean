/-
  Descriptions in memory: where their numbers and texts lie; the table of formats; the small tests of numbers.
-/
import Derived.Test.YtinjnbcikoejkaaDoorSb
import Derived.StillTailTactics
import Derived.Deep.MidRow
import Derived.Lib.SmallJoins
import Derived.IntWalk
namespace Go.Proofs.YtinjnbcikoejkaaDoor
open Go.RowKit

/-- The cells of a description. -/
def cellsD (d : DD) : List Value := [.int .i64 d.ty, .int .i64 d.dv, .int .i64 d.qt, .int .i64 d.qv, .int .i64 d.qp, .int .i64 d.mo, .int .i64 d.ai, .int .i64 d.mi, .int .i64 d.ln, .string (mk d.nm), .string (mk d.ui), .string (mk d.gi), .string (mk d.mu)]
theorem cellsD_num (d : DD) {k : Nat} (hk : k < 9) : (cellsD d)[k]? = some (.int .i64 (num d k)) := by
  rcases k9 hk with rfl | rfl | rfl | rfl | rfl | rfl | rfl | rfl | rfl <;> rfl
theorem cellsD_txt (d : DD) {k : Nat} (hk : k < 4) : (cellsD d)[9 + k]? = some (.string (mk (txt d k))) := by
  rcases k4 hk with rfl | rfl | rfl | rfl <;> rfl
def cellsA (d : DD) : Array Value := (cellsD d).toArray
/-- The description as a value. -/
def dirV (d : DD) : Value := .agg (cellsA d)
theorem cellsA_size (d : DD) : (cellsA d).size = 13 := rfl
theorem cellsA_one (d : DD) : (cellsA d).all (·.oneCell') = true := by simp [cellsA, cellsD, Value.oneCell']
/-- The block b is that of the description d. -/
def BlkD (w : World) (b : Nat) (d : DD) : Prop := w.heap[b]? = some (.cells (cellsA d) 25 (0, 0))
theorem BlkD.lt {w : World} {b : Nat} {d : DD} (h : BlkD w b d) : b < w.heap.size := (Array.getElem?_eq_some_iff.1 h).1
theorem BlkD.cell {w : World} {b : Nat} {d : DD} (h : BlkD w b d) (i : Nat) : w.cell? ⟨b, i, none⟩ = (cellsD d)[i]? := by
  rw [Joins.cell_of_block h i]; simp [cellsA]
theorem BlkD.frozen {w : World} {b : Nat} {d : DD} (h : BlkD w b d) (i : Nat) : w.frozen? ⟨b, i, none⟩ = false := by
  unfold BlkD at h
  simp [World.frozen?, h]
theorem BlkD.numc {w : World} {b : Nat} {d : DD} (h : BlkD w b d) {k : Nat} (hk : k < 9) : w.cell? ⟨b, k, none⟩ = some (.int .i64 (num d k)) := (h.cell k).trans (cellsD_num d hk)
theorem BlkD.txtc {w : World} {b : Nat} {d : DD} (h : BlkD w b d) {k : Nat} (hk : k < 4) : w.cell? ⟨b, 9 + k, none⟩ = some (.string (mk (txt d k))) := (h.cell (9 + k)).trans (cellsD_txt d hk)
theorem BlkD.new (w : World) (d : DD) : BlkD (w.alloc (.cells (cellsA d) 25)) w.heap.size d := heap_alloc_new w _
theorem BlkD.alloc {w : World} {b : Nat} {d : DD} (h : BlkD w b d) (o : Obj) : BlkD (w.alloc o) b d := (Below.heap_alloc w o b h.lt).trans h
theorem BlkD.below {w w' : World} {b B : Nat} {d : DD} (h : BlkD w b d) (hB : Below B w w') (hb : b < B) : BlkD w' b d := (hB.block b hb).trans h
theorem BlkD.drew {w : World} {b : Nat} {d : DD} (h : BlkD w b d) : BlkD w.drew b d := h
theorem BlkD.drewN {w : World} {b : Nat} {d : DD} (h : BlkD w b d) (n : Nat) : BlkD (w.drewN n) b d := h

theorem cells13 {w : World} {b : Nat} {d : DD} (h : BlkD w b d) : w.cell? ⟨b, 0, none⟩ = some (.int .i64 d.ty) ∧ w.cell? ⟨b, 1, none⟩ = some (.int .i64 d.dv) ∧ w.cell? ⟨b, 2, none⟩ = some (.int .i64 d.qt) ∧ w.cell? ⟨b, 3, none⟩ = some (.int .i64 d.qv) ∧ w.cell? ⟨b, 4, none⟩ = some (.int .i64 d.qp) ∧ w.cell? ⟨b, 5, none⟩ = some (.int .i64 d.mo) ∧ w.cell? ⟨b, 6, none⟩ = some (.int .i64 d.ai) ∧ w.cell? ⟨b, 7, none⟩ = some (.int .i64 d.mi) ∧ w.cell? ⟨b, 8, none⟩ = some (.int .i64 d.ln) ∧ w.cell? ⟨b, 9, none⟩ = some (.string (mk d.nm)) ∧ w.cell? ⟨b, 10, none⟩ = some (.string (mk d.ui)) ∧ w.cell? ⟨b, 11, none⟩ = some (.string (mk d.gi)) ∧ w.cell? ⟨b, 12, none⟩ = some (.string (mk d.mu)) :=
  ⟨h.cell 0, h.cell 1, h.cell 2, h.cell 3, h.cell 4, h.cell 5, h.cell 6, h.cell 7, h.cell 8, h.cell 9, h.cell 10, h.cell 11, h.cell 12⟩

/-! ### Where the numbers and the texts lie -/
def ptr (b k : Nat) : Value := .pointer (some ⟨b, k, none⟩)
def ptrs (b k : Nat) : Nat → List Value
  | 0 => []
  | n + 1 => ptr b k :: ptrs b (k + 1) n
theorem nums_index (b : Nat) {k : Nat} (hk : k < 9) (w : World) : (Instr.index 44 (.agg (ptrs b 0 9).toArray) (.int .i64 (k : Int))).run Tryd.prog w = .ok (.pointer (some ⟨b, k, none⟩)) w := by
  rcases k9 hk with rfl | rfl | rfl | rfl | rfl | rfl | rfl | rfl | rfl
  all_goals (show _ = _; kernel_rfl)
theorem txts_index (b : Nat) {k : Nat} (hk : k < 4) (w : World) : (Instr.index 61 (.agg (ptrs b 9 4).toArray) (.int .i64 (k : Int))).run Tryd.prog w = .ok (.pointer (some ⟨b, 9 + k, none⟩)) w := by
  rcases k4 hk with rfl | rfl | rfl | rfl
  all_goals (show _ = _; kernel_rfl)

/-! ### The table of formats -/
def formatsL : List Value := [.int .i64 2, .int .i64 65534, .bool false, .int .i64 4, .int .i64 4294967294, .bool false, .int .i64 1, .int .i64 232, .bool true, .int .i64 4, .int .i64 2147483647, .bool false, .int .i64 8, .int .i64 1099511627776, .bool false,
  .int .i64 4, .int .i64 3892314623, .bool true, .int .i64 8, .int .i64 1099511627776, .bool false, .int .i64 8, .int .i64 1099511627776, .bool false, .int .i64 8, .int .i64 9007199254740991, .bool false]
/-- The table of formats lies in memory. -/
def G (W : World) : Prop := 0 < W.heap.size ∧ W.rangeAt 0 0 formatsL
theorem G.below {W w : World} (g : G W) (h : Below W.heap.size W w) : G w :=
  ⟨Nat.lt_of_lt_of_le g.1 h.size, fun j v hj => (h.cell (p := ⟨_, _, none⟩) g.1).trans (g.2 j v hj)⟩
theorem G.fmt {W : World} (g : G W) {k : Nat} (hk : k < 9) : W.cell? ⟨0, k * 3, none⟩ = some (.int .i64 (fW k : Int)) ∧ W.cell? ⟨0, k * 3 + 1, none⟩ = some (.int .i64 (fG k : Int)) ∧ W.cell? ⟨0, k * 3 + 2, none⟩ = some (.bool (fS k)) := by
  have h := g.2
  have h0 := fun j v hj => (congrArg (fun i => W.cell? ⟨0, i, none⟩) (Nat.zero_add j)).symm.trans (h j v hj)
  rcases k9 hk with rfl | rfl | rfl | rfl | rfl | rfl | rfl | rfl | rfl
  all_goals exact ⟨h0 _ _ rfl, h0 _ _ rfl, h0 _ _ rfl⟩

theorem below_drew {B : Nat} {a w : World} (h : Below B a w) : Below B a w.drew := ⟨h.os, h.tape, h.output, h.size, h.block⟩
theorem below_drewN {B : Nat} {a w : World} (h : Below B a w) (n : Nat) : Below B a (w.drewN n) := ⟨h.os, h.tape, h.output, h.size, h.block⟩
end Go.Proofs.YtinjnbcikoejkaaDoor
