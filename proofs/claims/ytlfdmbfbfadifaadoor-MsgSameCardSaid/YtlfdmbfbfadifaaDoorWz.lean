/-
  A message's cell is written.
-/
import Derived.Test.YtlfdmbfbfadifaaDoorWt
namespace Go.Proofs.YtlfdmbfbfadifaaDoor
open Go.RowKit

theorem BlkM.set {w : World} {b : Nat} {m m' : MM} (h : BlkM w b m) (k : Nat) (v : Value) (he : (cellsB m).setIfInBounds k v = cellsB m') : BlkM (w.setCell ⟨b, k, none⟩ v) b m' := by
  have := heap_setCell_same w b k (cellsB m) 35 v h
  rw [he] at this
  exact this
theorem BlkM.apart {w : World} {b : Nat} {m : MM} (h : BlkM w b m) {a : Addr} (ha : b ≠ a.block) (v : Value) : BlkM (w.setCell a v) b m := (heap_setCell_other w a b v ha).trans h
end Go.Proofs.YtlfdmbfbfadifaaDoor
