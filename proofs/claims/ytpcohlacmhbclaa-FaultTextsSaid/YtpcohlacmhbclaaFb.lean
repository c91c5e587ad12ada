/-
  Strings as lists of bytes; the rows of the table as cells; the functions that build the table: package fault's and the reference's.
-/
import Derived.Test.YtpcohlacmhbclaaShelf
import Derived.Test.YtpcohlacmhbclaaRows
import Derived.Test.YtpcohlacmhbclaaFa
import Derived.WalkKit
import Derived.WalkSmall
import Derived.Lib.Hide
import Derived.LoopTactic
namespace Go.Proofs.Ytpcohlacmhbclaa
open Go.RowKit

def mk (l : List UInt8) : ByteArray := ⟨l.toArray⟩
theorem mk_toList (l : List UInt8) : (mk l).toList = l := by rw [Lib.toList_data]; simp [mk]
theorem mk_data (l : List UInt8) : (mk l).data.toList = l := by simp [mk]
theorem mk_of (s : ByteArray) : mk s.data.toList = s := by apply ByteArray.ext; simp [mk]
theorem mk_size (l : List UInt8) : (mk l).size = l.length := by simp [mk, ByteArray.size]
theorem mk_inj {a b : List UInt8} (h : mk a = mk b) : a = b := by rw [← mk_data a, ← mk_data b, h]
theorem add_at (b o j : Nat) : (⟨b, o, none⟩ : Addr).add j = ⟨b, o + j, none⟩ := by
  unfold Addr.add
  split
  · rename_i h; subst h; rfl
  · rfl
def sv (x : List UInt8) : Value := .string (mk x)
theorem mk_app (a b : List UInt8) : mk a ++ mk b = mk (a ++ b) := by
  apply ByteArray.ext
  simp [mk, ByteArray.data_append]

/-- The cells of the rows of the codes a + 1, .., a + n. -/
def rowCells (a n : Nat) : List Value := (List.range n).flatMap fun j => [.int .i64 ((a + j : Nat) + 1 : Int), sv (textsL.getD (a + j + 1) [])]
theorem rowCells_len (a n : Nat) : (rowCells a n).length = 2 * n := by
  unfold rowCells
  induction n with
  | zero => rfl
  | succ n ih => rw [List.range_succ, List.flatMap_append, List.length_append, ih]; simp; omega
theorem rowCells_succ (a n : Nat) : rowCells a (n + 1) = rowCells a n ++ [.int .i64 ((a + n : Nat) + 1 : Int), sv (textsL.getD (a + n + 1) [])] := by
  unfold rowCells
  rw [List.range_succ, List.flatMap_append]
  simp
theorem rowCells_app (a n m : Nat) : rowCells a n ++ rowCells (a + n) m = rowCells a (n + m) := by
  induction m with
  | zero => simp [rowCells]
  | succ m ih => rw [rowCells_succ, ← List.append_assoc, ih, ← Nat.add_assoc, rowCells_succ, Nat.add_assoc a n m]
theorem rowCells_at (a n j : Nat) (hj : j < n) : (rowCells a n)[2 * j]? = some (.int .i64 ((a + j : Nat) + 1 : Int)) ∧ (rowCells a n)[2 * j + 1]? = some (sv (textsL.getD (a + j + 1) [])) := by
  induction n with
  | zero => omega
  | succ n ih =>
    rw [rowCells_succ]
    by_cases h : j < n
    · have := rowCells_len a n
      rw [List.getElem?_append_left (by omega), List.getElem?_append_left (by omega)]
      exact ih h
    · obtain rfl : j = n := by omega
      have hl := rowCells_len a j
      rw [List.getElem?_append_right (by omega), List.getElem?_append_right (by omega), hl, show 2 * j - 2 * j = 0 by omega, show 2 * j + 1 - 2 * j = 1 by omega]
      exact ⟨rfl, rfl⟩

set_option maxRecDepth 100000 in
set_option maxHeartbeats 1600000 in
theorem texts_any (w : World) : Calls Try.prog 17 #[] w fun e w' => e = .returned (.slice (some ⟨w.heap.size, 0, none⟩) 60 60) ∧ w' = w.alloc (.cells (textsL.map sv).toArray 9) := by
  go_enter Try.func17, Try.ntmps17
  go_wp2
  go_ret
  exact ⟨rfl, rfl⟩
set_option maxRecDepth 100000 in
set_option maxHeartbeats 6400000 in
theorem file_any (w : World) : Calls Try.prog 20 #[] w fun e w' => e = .returned (.slice (some ⟨w.heap.size, 0, none⟩) 33 33) ∧ w' = w.alloc (.cells (rowCells 0 33).toArray 36) := by
  go_enter Try.func20, Try.ntmps20
  go_wp2
  go_ret
  exact ⟨rfl, rfl⟩
set_option maxRecDepth 100000 in
set_option maxHeartbeats 6400000 in
theorem service_any (w : World) : Calls Try.prog 21 #[] w fun e w' => e = .returned (.slice (some ⟨w.heap.size, 0, none⟩) 26 26) ∧ w' = w.alloc (.cells (rowCells 33 26).toArray 36) := by
  go_enter Try.func21, Try.ntmps21
  go_wp2
  go_ret
  exact ⟨rfl, rfl⟩
end Go.Proofs.Ytpcohlacmhbclaa
