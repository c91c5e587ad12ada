/-
  Walks: numbersOf; isNumber; the reference's in, sum.
-/
import Derived.Test.YtlfdmbfbfadifaaDoorWc
import Derived.Deep.WholeRow
namespace Go.Proofs.YtlfdmbfbfadifaaDoor
open Go.RowKit

theorem setRow_new (w : World) (c c' : Array Value) (t : TypeId) : (w.alloc (.cells c t)).drew.setRow w.heap.size c' = (w.alloc (.cells c' t)).drew :=
  congrArg World.drew (World.setRow_alloc_new w c c' t)
theorem below_alloc (w : World) (o : Obj) : Below w.heap.size w (w.alloc o).drew := below_drew ((Below.refl _ w).alloc (Nat.le_refl _) o)

set_option maxRecDepth 100000 in
set_option maxHeartbeats 1600000 in
theorem numbersOf_any (b : Nat) (w : World) :
    Calls Tryd.prog 81 #[.pointer (some ⟨b, 0, none⟩)] w fun e w' => e = .returned (.agg (ptrs b 0 9).toArray) ∧ Below w.heap.size w w' := by
  go_enter Tryd.func81, Tryd.ntmps81
  go_wp2
  go_still_tail 31, (by kernel_rfl)
  change wpList _ _ _ _ _ (w.alloc (.cells #[.pointer none, .pointer none, .pointer none, .pointer none, .pointer none, .pointer none, .pointer none, .pointer none, .pointer none] 107)).drew
  refine wpList_store_row rfl 107 _ _ rfl w.heap.size (ptrs b 0 9).toArray rfl rfl 107 _ (heap_alloc_new w _) (by kernel_rfl) rfl (by kernel_rfl) ?_
  rw [setRow_new]
  go_wp2
  refine bodyPost_ret (results_cell_row rfl _ _ w.heap.size 107 (ptrs b 0 9).toArray (0, 0) _ rfl (heap_alloc_new w _) Tryd.underlying107 rfl (by kernel_rfl)) rfl ?_
  exact ⟨rfl, below_alloc w _⟩

/-! ### The tests of numbers -/
/-- A row of the table of formats. -/
def fmtV (k : Nat) : Value := .agg #[.int .i64 (fW k : Int), .int .i64 (fG k : Int), .bool (fS k)]

theorem inB_keep (g : Nat) : inB (-1) g = true := rfl
theorem sumB_keep (g : Nat) : sumB (-1) g = true := rfl
theorem inB_low {n : Int} {g : Nat} (hk : n ≠ -1) (h : n < 0) : inB n g = false := by unfold inB; simp; omega
theorem inB_at {n : Int} {g : Nat} (h : 0 ≤ n) : inB n g = decide (n ≤ (g : Int)) := by
  unfold inB; rw [Bool.eq_iff_iff]; simp; omega
theorem sumB_low {n : Int} {g : Nat} (hk : n ≠ -1) (h : n < 0) : sumB n g = false := by unfold sumB; simp; omega

set_option maxHeartbeats 800000 in
theorem in_any (n : Int) (g : Nat) (hn : inI n) (w : World) :
    Calls Tryd.prog 89 #[.int .i64 n, .int .i64 (g : Int)] w fun e w' => e = .returned (.bool (inB n g)) ∧ w = w' := by
  by_cases hk : n = -1
  · subst hk
    rw [inB_keep]
    go_enter Tryd.func89, Tryd.ntmps89
    go_wp2
    go_ret
    exact ⟨rfl, rfl⟩
  · have hk' : (n == -1) = false := by simpa using hk
    by_cases h0 : n < 0
    · have HR := Lib.hid (inB_low (g := g) hk h0)
      clear hk
      go_enter Tryd.func89, Tryd.ntmps89
      go_wp2
      go_ret
      rw [HR.out]
      exact ⟨rfl, rfl⟩
    · have HR := Lib.hid (inB_at (g := g) (by omega : 0 ≤ n))
      clear hk
      go_enter Tryd.func89, Tryd.ntmps89
      go_wp2
      go_ret
      rw [HR.out]
      exact ⟨rfl, rfl⟩
set_option maxHeartbeats 800000 in
theorem sum_any (n : Int) (g : Nat) (hn : inI n) (hg : g < 9223372036854775808) (w : World) :
    Calls Tryd.prog 88 #[.int .i64 n, .int .i64 (g : Int)] w fun e w' => e = .returned (.bool (sumB n g)) ∧ w = w' := by
  by_cases hk : n = -1
  · subst hk
    rw [sumB_keep]
    go_enter Tryd.func88, Tryd.ntmps88
    go_wp2
    go_ret
    exact ⟨rfl, rfl⟩
  · have hk' : (n == -1) = false := by simpa using hk
    by_cases h0 : n < 0
    · have HR := Lib.hid (sumB_low (g := g) hk h0)
      clear hk
      go_enter Tryd.func88, Tryd.ntmps88
      go_wp2
      go_ret
      rw [HR.out]
      exact ⟨rfl, rfl⟩
    · have HR := Lib.hid (sum_and hn hg hk (by omega : 0 ≤ n))
      clear hk
      go_enter Tryd.func88, Tryd.ntmps88
      go_wp2
      go_ret
      rw [HR.out]
      exact ⟨rfl, rfl⟩
set_option maxHeartbeats 800000 in
theorem isNumber_any (n : Int) (k : Nat) (hk9 : k < 9) (hn : inI n) (w : World) :
    Calls Tryd.prog 82 #[.int .i64 n, fmtV k] w fun e w' => e = .returned (.bool (okN k n)) ∧ Below w.heap.size w w' := by
  have hg := fG_lt hk9
  have hB : ∀ o, Below w.heap.size w (w.alloc o) := fun o => (Below.refl _ w).alloc (Nat.le_refl _) o
  have HB := Lib.hid hB
  have ho : okN k n = if fS k then sumB n (fG k) else inB n (fG k) := rfl
  unfold fmtV
  generalize okN k n = res at ho ⊢
  generalize fW k = fw
  generalize fG k = fg at hg ho ⊢
  generalize fS k = fs at ho ⊢
  clear hB hk9
  by_cases hk : n = -1
  · have HR : Hid (res = true) := by rw [Hid, ho, hk]; cases fs <;> rfl
    subst hk
    clear ho
    go_enter Tryd.func82, Tryd.ntmps82
    go_wp2
    go_ret
    rw [HR.out]
    exact ⟨rfl, HB.out _⟩
  · have hk' : (n == -1) = false := by simpa using hk
    cases fs
    · have HR : Hid (res = inB n fg) := ho
      by_cases h0 : n < 0
      · have HI := Lib.hid (inB_low (g := fg) hk h0)
        clear hk ho
        go_enter Tryd.func82, Tryd.ntmps82
        go_wp2
        go_ret
        rw [HR.out, HI.out]
        exact ⟨rfl, HB.out _⟩
      · have HI := Lib.hid (inB_at (g := fg) (by omega : 0 ≤ n))
        clear hk ho
        go_enter Tryd.func82, Tryd.ntmps82
        go_wp2
        go_ret
        rw [HR.out, HI.out]
        exact ⟨rfl, HB.out _⟩
    · have HR : Hid (res = sumB n fg) := ho
      have HI := Lib.hid (sum_andNot hn (by omega : fg < 9223372036854775808) hk)
      clear hk ho
      go_enter Tryd.func82, Tryd.ntmps82
      go_wp2
      go_ret
      rw [HR.out, HI.out]
      exact ⟨rfl, HB.out _⟩
end Go.Proofs.YtlfdmbfbfadifaaDoor
