/-
  Lists of texts and of qids compared (package slices); arrays compared; the numbers and the texts of a message.
-/
import Derived.Test.YtlfdmbfbfadifaaDoorWr
namespace Go.Proofs.YtlfdmbfbfadifaaDoor
open Go.RowKit

/-- Two arrays of one-cell elements. -/
theorem run_equalIn_arr {P : Program} (w : World) (d : Nat) (t e : TypeId) (n : Nat) (ht : P.underlying t = some (.array n e)) (hsz : ∀ w, (sizeOf e).run P w = .ok 1 w)
    (xs ys : Array Value) (f : Nat → Bool) (h : ∀ i, i < n → ∃ a b, (part e xs (i * 1)).run P w = .ok a w ∧ (part e ys (i * 1)).run P w = .ok b w ∧ (Op.equalIn d e a b).run P w = .ok (f i) w) :
    (Op.equalIn (d + 1) t (.agg xs) (.agg ys)).run P w = .ok ((List.range n).all f) w := by
  rw [List.range_eq_range', Op.equalIn]
  simp only [Sem.run_bind, run_underlying ht, Result.andThen_ok, hsz, Std.Legacy.Range.forIn_eq_forIn_range', Std.Legacy.Range.size, Nat.sub_zero, Nat.add_sub_cancel, Nat.div_one]
  have hl : ∀ i ∈ List.range' 0 n 1, i < n := fun i hi => by simpa using (List.mem_range'_1.1 hi).2
  generalize List.range' 0 n 1 = l at hl ⊢
  induction l with
  | nil => simp
  | cons i l ih =>
    have hi : i < n := hl i (by simp)
    obtain ⟨a, b, px, py, pe⟩ := h i hi
    simp only [List.forIn_cons, Sem.run_bind, px, py, pe, Result.andThen_ok, List.all_cons]
    cases hb : f i
    · simp
    · simp only [Bool.not_true, Bool.false_eq_true, if_false, Sem.run_pure, Result.andThen_ok, Bool.true_and]
      exact ih fun j hj => hl j (by simp [hj])
theorem part_arr (t : TypeId) (h : (isAgg t).run Tryd.prog = fun w => .ok false w) (xs : Array Value) (i : Nat) (v : Value) (hv : xs[i]? = some v) (w : World) : (part t xs (i * 1)).run Tryd.prog w = .ok v w := by
  have h' : (isAgg t).run Tryd.prog w = .ok false w := congrFun h w
  simp [part, Sem.run_bind, h', hv]

def numsA (m : MM) : Array Value := #[.int .i64 m.kd, .int .i64 m.tg, .int .i64 m.fi, .int .i64 m.nf, .int .i64 m.af, .int .i64 m.ot, .int .i64 m.ms, .int .i64 m.io, .int .i64 m.mo, .int .i64 m.pe, .int .i64 m.os, .int .i64 m.co, .int .i64 m.er, .int .i64 m.lz, .int .i64 m.te]
def txtsA (m : MM) : Array Value := #[.string (mk m.ve), .string (mk m.us), .string (mk m.ac), .string (mk m.na), .string (mk m.da), .string (mk m.se)]
def numAt (m : MM) : Nat → Int
  | 0 => m.kd
  | 1 => m.tg
  | 2 => m.fi
  | 3 => m.nf
  | 4 => m.af
  | 5 => m.ot
  | 6 => m.ms
  | 7 => m.io
  | 8 => m.mo
  | 9 => m.pe
  | 10 => m.os
  | 11 => m.co
  | 12 => m.er
  | 13 => m.lz
  | _ => m.te
def txtAt (m : MM) : Nat → List UInt8
  | 0 => m.ve
  | 1 => m.us
  | 2 => m.ac
  | 3 => m.na
  | 4 => m.da
  | _ => m.se
def eqNums (a b : MM) : Bool := a.kd == b.kd && (a.tg == b.tg && (a.fi == b.fi && (a.nf == b.nf && (a.af == b.af && (a.ot == b.ot && (a.ms == b.ms && (a.io == b.io && (a.mo == b.mo && (a.pe == b.pe && (a.os == b.os && (a.co == b.co && (a.er == b.er && (a.lz == b.lz && (a.te == b.te))))))))))))))
theorem k15 {j : Nat} (hj : j < 15) : j = 0 ∨ j = 1 ∨ j = 2 ∨ j = 3 ∨ j = 4 ∨ j = 5 ∨ j = 6 ∨ j = 7 ∨ j = 8 ∨ j = 9 ∨ j = 10 ∨ j = 11 ∨ j = 12 ∨ j = 13 ∨ j = 14 := by omega
theorem k6 {j : Nat} (hj : j < 6) : j = 0 ∨ j = 1 ∨ j = 2 ∨ j = 3 ∨ j = 4 ∨ j = 5 := by omega
theorem numsA_at (m : MM) {i : Nat} (hi : i < 15) : (numsA m)[i]? = some (.int .i64 (numAt m i)) := by
  rcases k15 hi with rfl | rfl | rfl | rfl | rfl | rfl | rfl | rfl | rfl | rfl | rfl | rfl | rfl | rfl | rfl <;> rfl
theorem txtsA_at (m : MM) {i : Nat} (hi : i < 6) : (txtsA m)[i]? = some (.string (mk (txtAt m i))) := by
  rcases k6 hi with rfl | rfl | rfl | rfl | rfl | rfl <;> rfl
theorem isAgg_int : (isAgg 3).run Tryd.prog = fun w => .ok false w := by funext w; show _ = _; kernel_rfl
theorem isAgg_str : (isAgg 9).run Tryd.prog = fun w => .ok false w := by funext w; show _ = _; kernel_rfl
theorem sizeOf_int (w : World) : (sizeOf 3).run Tryd.prog w = .ok 1 w := by show _ = _; kernel_rfl
theorem sizeOf_str (w : World) : (sizeOf 9).run Tryd.prog w = .ok 1 w := by show _ = _; kernel_rfl
theorem eql_nums (a b : MM) (w : World) : (binOp .eql 65 (.agg (numsA a)) (.agg (numsA b))).run Tryd.prog w = .ok (.bool (eqNums a b)) w := by
  rw [run_eql_struct, run_equalIn_arr w 9999 65 3 15 Tryd.underlying65 sizeOf_int (numsA a) (numsA b) (fun i => numAt a i == numAt b i) (fun i hi => ⟨_, _, part_arr _ isAgg_int _ _ _ (numsA_at a hi) w, part_arr _ isAgg_int _ _ _ (numsA_at b hi) w, eq_int _ _ 9998 w⟩)]
  have : (List.range 15).all (fun i => numAt a i == numAt b i) = eqNums a b := by
    simp only [List.range_succ, List.range_zero, List.nil_append, List.all_append, List.all_cons, List.all_nil, Bool.and_true, numAt, eqNums, Bool.and_assoc]
  rw [this]; rfl
theorem eql_txts (a b : MM) (w : World) : (binOp .eql 67 (.agg (txtsA a)) (.agg (txtsA b))).run Tryd.prog w = .ok (.bool (txtsB a b)) w := by
  rw [run_eql_struct, run_equalIn_arr w 9999 67 9 6 Tryd.underlying67 sizeOf_str (txtsA a) (txtsA b) (fun i => txtAt a i == txtAt b i) (fun i hi => ⟨_, _, part_arr _ isAgg_str _ _ _ (txtsA_at a hi) w, part_arr _ isAgg_str _ _ _ (txtsA_at b hi) w, eq_str _ _ 9998 w⟩)]
  have : (List.range 6).all (fun i => txtAt a i == txtAt b i) = txtsB a b := by
    simp only [List.range_succ, List.range_zero, List.nil_append, List.all_append, List.all_cons, List.all_nil, Bool.and_true, txtAt, txtsB, Bool.and_assoc]
  rw [this]; rfl
theorem guard_nums (op : BinOp) (x y : Operand) (a b : MM) (w : World) : (eqGuard op 65 x y (.agg (numsA a)) (.agg (numsA b))).run Tryd.prog w = .ok () w := run_eqGuard_agg w op _ x y _ _ (by kernel_rfl)
theorem guard_txts (op : BinOp) (x y : Operand) (a b : MM) (w : World) : (eqGuard op 67 x y (.agg (txtsA a)) (.agg (txtsA b))).run Tryd.prog w = .ok () w := run_eqGuard_agg w op _ x y _ _ (by kernel_rfl)

set_option maxRecDepth 100000 in
set_option maxHeartbeats 3200000 in
theorem numbersOf8_any (m : MM) (b : Nat) (w : World) (hK : BlkM w b m) :
    Calls Tryd.prog 48 #[.pointer (some ⟨b, 0, none⟩)] w fun e w' => e = .returned (.agg (numsA m)) ∧ Below w.heap.size w w' := by
  have x0 : ∀ o, (w.alloc o).cell? ⟨b, 0, none⟩ = (cellsM m)[0]? := fun o => (hK.alloc o).cell 0
  have x1 : ∀ o, (w.alloc o).cell? ⟨b, 1, none⟩ = (cellsM m)[1]? := fun o => (hK.alloc o).cell 1
  have x2 : ∀ o, (w.alloc o).cell? ⟨b, 2, none⟩ = (cellsM m)[2]? := fun o => (hK.alloc o).cell 2
  have x3 : ∀ o, (w.alloc o).cell? ⟨b, 3, none⟩ = (cellsM m)[3]? := fun o => (hK.alloc o).cell 3
  have x4 : ∀ o, (w.alloc o).cell? ⟨b, 4, none⟩ = (cellsM m)[4]? := fun o => (hK.alloc o).cell 4
  have x5 : ∀ o, (w.alloc o).cell? ⟨b, 5, none⟩ = (cellsM m)[5]? := fun o => (hK.alloc o).cell 5
  have x6 : ∀ o, (w.alloc o).cell? ⟨b, 6, none⟩ = (cellsM m)[6]? := fun o => (hK.alloc o).cell 6
  have x15 : ∀ o, (w.alloc o).cell? ⟨b, 15, none⟩ = (cellsM m)[15]? := fun o => (hK.alloc o).cell 15
  have x16 : ∀ o, (w.alloc o).cell? ⟨b, 16, none⟩ = (cellsM m)[16]? := fun o => (hK.alloc o).cell 16
  have x17 : ∀ o, (w.alloc o).cell? ⟨b, 17, none⟩ = (cellsM m)[17]? := fun o => (hK.alloc o).cell 17
  have x19 : ∀ o, (w.alloc o).cell? ⟨b, 19, none⟩ = (cellsM m)[19]? := fun o => (hK.alloc o).cell 19
  have x20 : ∀ o, (w.alloc o).cell? ⟨b, 20, none⟩ = (cellsM m)[20]? := fun o => (hK.alloc o).cell 20
  have x35 : ∀ o, (w.alloc o).cell? ⟨b, 35, none⟩ = (cellsM m)[35]? := fun o => (hK.alloc o).cell 35
  have x36 : ∀ o, (w.alloc o).cell? ⟨b, 36, none⟩ = (cellsM m)[36]? := fun o => (hK.alloc o).cell 36
  have x37 : ∀ o, (w.alloc o).cell? ⟨b, 37, none⟩ = (cellsM m)[37]? := fun o => (hK.alloc o).cell 37
  simp only [cellsM, List.getElem?_cons_zero, List.getElem?_cons_succ] at x0 x1 x2 x3 x4 x5 x6 x15 x16 x17 x19 x20 x35 x36 x37
  have hne : w.heap.size ≠ b := Nat.ne_of_gt hK.lt
  have hlt : b < w.heap.size := hK.lt
  clear hK
  go_enter Tryd.func48, Tryd.ntmps48
  go_wp2
  obtain ⟨W, hW⟩ : ∃ W, w.alloc (.cells #[.int .i64 0, .int .i64 0, .int .i64 0, .int .i64 0, .int .i64 0, .int .i64 0, .int .i64 0, .int .i64 0, .int .i64 0, .int .i64 0, .int .i64 0, .int .i64 0, .int .i64 0, .int .i64 0, .int .i64 0] 65) = W := ⟨_, rfl⟩
  have y0 := x0 (.cells #[.int .i64 0, .int .i64 0, .int .i64 0, .int .i64 0, .int .i64 0, .int .i64 0, .int .i64 0, .int .i64 0, .int .i64 0, .int .i64 0, .int .i64 0, .int .i64 0, .int .i64 0, .int .i64 0, .int .i64 0] 65)
  have y1 := x1 (.cells #[.int .i64 0, .int .i64 0, .int .i64 0, .int .i64 0, .int .i64 0, .int .i64 0, .int .i64 0, .int .i64 0, .int .i64 0, .int .i64 0, .int .i64 0, .int .i64 0, .int .i64 0, .int .i64 0, .int .i64 0] 65)
  have y2 := x2 (.cells #[.int .i64 0, .int .i64 0, .int .i64 0, .int .i64 0, .int .i64 0, .int .i64 0, .int .i64 0, .int .i64 0, .int .i64 0, .int .i64 0, .int .i64 0, .int .i64 0, .int .i64 0, .int .i64 0, .int .i64 0] 65)
  have y3 := x3 (.cells #[.int .i64 0, .int .i64 0, .int .i64 0, .int .i64 0, .int .i64 0, .int .i64 0, .int .i64 0, .int .i64 0, .int .i64 0, .int .i64 0, .int .i64 0, .int .i64 0, .int .i64 0, .int .i64 0, .int .i64 0] 65)
  have y4 := x4 (.cells #[.int .i64 0, .int .i64 0, .int .i64 0, .int .i64 0, .int .i64 0, .int .i64 0, .int .i64 0, .int .i64 0, .int .i64 0, .int .i64 0, .int .i64 0, .int .i64 0, .int .i64 0, .int .i64 0, .int .i64 0] 65)
  have y5 := x5 (.cells #[.int .i64 0, .int .i64 0, .int .i64 0, .int .i64 0, .int .i64 0, .int .i64 0, .int .i64 0, .int .i64 0, .int .i64 0, .int .i64 0, .int .i64 0, .int .i64 0, .int .i64 0, .int .i64 0, .int .i64 0] 65)
  have y6 := x6 (.cells #[.int .i64 0, .int .i64 0, .int .i64 0, .int .i64 0, .int .i64 0, .int .i64 0, .int .i64 0, .int .i64 0, .int .i64 0, .int .i64 0, .int .i64 0, .int .i64 0, .int .i64 0, .int .i64 0, .int .i64 0] 65)
  have y15 := x15 (.cells #[.int .i64 0, .int .i64 0, .int .i64 0, .int .i64 0, .int .i64 0, .int .i64 0, .int .i64 0, .int .i64 0, .int .i64 0, .int .i64 0, .int .i64 0, .int .i64 0, .int .i64 0, .int .i64 0, .int .i64 0] 65)
  have y16 := x16 (.cells #[.int .i64 0, .int .i64 0, .int .i64 0, .int .i64 0, .int .i64 0, .int .i64 0, .int .i64 0, .int .i64 0, .int .i64 0, .int .i64 0, .int .i64 0, .int .i64 0, .int .i64 0, .int .i64 0, .int .i64 0] 65)
  have y17 := x17 (.cells #[.int .i64 0, .int .i64 0, .int .i64 0, .int .i64 0, .int .i64 0, .int .i64 0, .int .i64 0, .int .i64 0, .int .i64 0, .int .i64 0, .int .i64 0, .int .i64 0, .int .i64 0, .int .i64 0, .int .i64 0] 65)
  have y19 := x19 (.cells #[.int .i64 0, .int .i64 0, .int .i64 0, .int .i64 0, .int .i64 0, .int .i64 0, .int .i64 0, .int .i64 0, .int .i64 0, .int .i64 0, .int .i64 0, .int .i64 0, .int .i64 0, .int .i64 0, .int .i64 0] 65)
  have y20 := x20 (.cells #[.int .i64 0, .int .i64 0, .int .i64 0, .int .i64 0, .int .i64 0, .int .i64 0, .int .i64 0, .int .i64 0, .int .i64 0, .int .i64 0, .int .i64 0, .int .i64 0, .int .i64 0, .int .i64 0, .int .i64 0] 65)
  have y35 := x35 (.cells #[.int .i64 0, .int .i64 0, .int .i64 0, .int .i64 0, .int .i64 0, .int .i64 0, .int .i64 0, .int .i64 0, .int .i64 0, .int .i64 0, .int .i64 0, .int .i64 0, .int .i64 0, .int .i64 0, .int .i64 0] 65)
  have y36 := x36 (.cells #[.int .i64 0, .int .i64 0, .int .i64 0, .int .i64 0, .int .i64 0, .int .i64 0, .int .i64 0, .int .i64 0, .int .i64 0, .int .i64 0, .int .i64 0, .int .i64 0, .int .i64 0, .int .i64 0, .int .i64 0] 65)
  have y37 := x37 (.cells #[.int .i64 0, .int .i64 0, .int .i64 0, .int .i64 0, .int .i64 0, .int .i64 0, .int .i64 0, .int .i64 0, .int .i64 0, .int .i64 0, .int .i64 0, .int .i64 0, .int .i64 0, .int .i64 0, .int .i64 0] 65)
  rw [hW] at y0 y1 y2 y3 y4 y5 y6 y15 y16 y17 y19 y20 y35 y36 y37 ⊢
  clear x0 x1 x2 x3 x4 x5 x6 x15 x16 x17 x19 x20 x35 x36 x37
  go_still_tail 61, (by kernel_rfl)
  change wpList _ _ _ _ _ W.drew
  subst hW
  refine wpList_store_row rfl 65 _ _ rfl w.heap.size (numsA m) rfl rfl 65 _ (heap_alloc_new w _) (by kernel_rfl) rfl (by simp [numsA, Value.oneCell']) ?_
  rw [setRow_new]
  go_wp2
  refine bodyPost_ret (results_cell_row rfl _ _ w.heap.size 65 (numsA m) (0, 0) _ rfl (heap_alloc_new w _) Tryd.underlying65 rfl (by kernel_rfl)) rfl ?_
  exact ⟨rfl, below_alloc w _⟩

set_option maxRecDepth 100000 in
set_option maxHeartbeats 3200000 in
theorem textsOf8_any (m : MM) (b : Nat) (w : World) (hK : BlkM w b m) :
    Calls Tryd.prog 49 #[.pointer (some ⟨b, 0, none⟩)] w fun e w' => e = .returned (.agg (txtsA m)) ∧ Below w.heap.size w w' := by
  have x7 : ∀ o, (w.alloc o).cell? ⟨b, 7, none⟩ = (cellsM m)[7]? := fun o => (hK.alloc o).cell 7
  have x8 : ∀ o, (w.alloc o).cell? ⟨b, 8, none⟩ = (cellsM m)[8]? := fun o => (hK.alloc o).cell 8
  have x9 : ∀ o, (w.alloc o).cell? ⟨b, 9, none⟩ = (cellsM m)[9]? := fun o => (hK.alloc o).cell 9
  have x18 : ∀ o, (w.alloc o).cell? ⟨b, 18, none⟩ = (cellsM m)[18]? := fun o => (hK.alloc o).cell 18
  have x21 : ∀ o, (w.alloc o).cell? ⟨b, 21, none⟩ = (cellsM m)[21]? := fun o => (hK.alloc o).cell 21
  have x38 : ∀ o, (w.alloc o).cell? ⟨b, 38, none⟩ = (cellsM m)[38]? := fun o => (hK.alloc o).cell 38
  simp only [cellsM, List.getElem?_cons_zero, List.getElem?_cons_succ] at x7 x8 x9 x18 x21 x38
  have hne : w.heap.size ≠ b := Nat.ne_of_gt hK.lt
  have hlt : b < w.heap.size := hK.lt
  clear hK
  go_enter Tryd.func49, Tryd.ntmps49
  go_wp2
  obtain ⟨W, hW⟩ : ∃ W, w.alloc (.cells #[.string ⟨#[]⟩, .string ⟨#[]⟩, .string ⟨#[]⟩, .string ⟨#[]⟩, .string ⟨#[]⟩, .string ⟨#[]⟩] 67) = W := ⟨_, rfl⟩
  have y7 := x7 (.cells #[.string ⟨#[]⟩, .string ⟨#[]⟩, .string ⟨#[]⟩, .string ⟨#[]⟩, .string ⟨#[]⟩, .string ⟨#[]⟩] 67)
  have y8 := x8 (.cells #[.string ⟨#[]⟩, .string ⟨#[]⟩, .string ⟨#[]⟩, .string ⟨#[]⟩, .string ⟨#[]⟩, .string ⟨#[]⟩] 67)
  have y9 := x9 (.cells #[.string ⟨#[]⟩, .string ⟨#[]⟩, .string ⟨#[]⟩, .string ⟨#[]⟩, .string ⟨#[]⟩, .string ⟨#[]⟩] 67)
  have y18 := x18 (.cells #[.string ⟨#[]⟩, .string ⟨#[]⟩, .string ⟨#[]⟩, .string ⟨#[]⟩, .string ⟨#[]⟩, .string ⟨#[]⟩] 67)
  have y21 := x21 (.cells #[.string ⟨#[]⟩, .string ⟨#[]⟩, .string ⟨#[]⟩, .string ⟨#[]⟩, .string ⟨#[]⟩, .string ⟨#[]⟩] 67)
  have y38 := x38 (.cells #[.string ⟨#[]⟩, .string ⟨#[]⟩, .string ⟨#[]⟩, .string ⟨#[]⟩, .string ⟨#[]⟩, .string ⟨#[]⟩] 67)
  rw [hW] at y7 y8 y9 y18 y21 y38 ⊢
  clear x7 x8 x9 x18 x21 x38
  go_still_tail 25, (by kernel_rfl)
  change wpList _ _ _ _ _ W.drew
  subst hW
  refine wpList_store_row rfl 67 _ _ rfl w.heap.size (txtsA m) rfl rfl 67 _ (heap_alloc_new w _) (by kernel_rfl) rfl (by simp [txtsA, Value.oneCell']) ?_
  rw [setRow_new]
  go_wp2
  refine bodyPost_ret (results_cell_row rfl _ _ w.heap.size 67 (txtsA m) (0, 0) _ rfl (heap_alloc_new w _) Tryd.underlying67 rfl (by kernel_rfl)) rfl ?_
  exact ⟨rfl, below_alloc w _⟩

/-! ### Lists -/
theorem ltA_step {A B : List (List UInt8)} {k : Nat} (hl : A.length = B.length) (h : ∀ j, (hj : j < A.length) → j < k → A[j] = B[j]'(by omega)) (hk : k < A.length) (he : A[k] = B[k]'(by omega)) : ∀ j, (hj : j < A.length) → j < k + 1 → A[j] = B[j]'(by omega) := fun j hj hjk => by
  by_cases e : j = k
  · subst e; exact he
  · exact h j hj (by omega)
theorem ltA_end {A B : List (List UInt8)} (hl : A.length = B.length) (h : ∀ j, (hj : j < A.length) → j < A.length → A[j] = B[j]'(by omega)) : decide (A = B) = true := by
  rw [decide_eq_true_eq]
  exact List.ext_getElem hl fun j h1 _ => h j h1 h1
theorem ltA_no {A B : List (List UInt8)} (hl : A.length = B.length) {k : Nat} (hk : k < A.length) (he : A[k] ≠ B[k]'(by omega)) : decide (A = B) = false := by
  rw [decide_eq_false_iff_not]; rintro rfl; exact he rfl
theorem ltA_len {A B : List (List UInt8)} (hl : A.length ≠ B.length) : decide (A = B) = false := by
  rw [decide_eq_false_iff_not]; rintro rfl; exact hl rfl
set_option maxRecDepth 100000 in
set_option maxHeartbeats 3200000 in
theorem EqualS_any (v1 v2 : Value) (A B : List (List UInt8)) (w : World) (h1 : SRow w v1 A) (h2 : SRow w v2 B) :
    Calls Tryd.prog 50 #[v1, v2] w fun e w' => e = .returned (.bool (decide (A = B))) ∧ Below w.heap.size w w' := by
  have H1 := Lib.hid h1
  have H2 := Lib.hid h2
  obtain ⟨p1, c1, rfl, l1, m1, -⟩ := h1
  obtain ⟨p2, c2, rfl, l2, m2, -⟩ := h2
  unfold maxLen at m1 m2
  by_cases hl : A.length = B.length
  · have HE := Lib.hid (fun h => ltA_end hl h)
    have HN := Lib.hid (fun k hk he => ltA_no hl (k := k) hk he)
    have HS := Lib.hid (fun k h hk he => ltA_step (k := k) hl h hk he)
    generalize decide (A = B) = res at *
    have hln : ((A.length : Int) != (B.length : Int)) = false := by rw [hl]; simp
    go_enter Tryd.func50, Tryd.ntmps50
    go_wp2
    go_loopw [13] (fun vk wr => ∃ k : Nat, vk = .int .i64 (k : Int) ∧ k ≤ A.length ∧ Hid (Below w.heap.size w wr) ∧ Hid (∀ j, (hj : j < A.length) → j < k → A[j] = B[j]'(by omega))) (fun vk _ => A.length - (intOf vk).toNat)
    case atStart => exact ⟨0, rfl, by omega, Below.refl _ _, fun j hj _ => by omega⟩
    case round =>
      obtain ⟨k, rfl, hk, HB, ha⟩ := hrel
      by_cases hlt : k < A.length
      · have hlt2 : k < B.length := by omega
        obtain ⟨b, o, cap, hv, hb, hcl, x0⟩ := H1.out.at_ HB.out hlt
        obtain ⟨b', o', cap', hv', hb', hcl', y0⟩ := H2.out.at_ HB.out hlt2
        obtain ⟨rfl, rfl⟩ : p1 = some ⟨b, o, none⟩ ∧ c1 = cap := by injection hv with a1 a2 a3; exact ⟨a1, a3⟩
        obtain ⟨rfl, rfl⟩ : p2 = some ⟨b', o', none⟩ ∧ c2 = cap' := by injection hv' with a1 a2 a3; exact ⟨a1, a3⟩
        clear hv hv' hb hb'
        have k0 : (0 : Int) ≤ (k : Int) := by omega
        have k1 : (k : Int) < (A.length : Int) := by omega
        have k2 : (k : Int) < (B.length : Int) := by omega
        by_cases he : A[k] = B[k]
        · have HA := Lib.hid (HS.out k ha.out hlt he)
          have hq : ((mk A[k]).toList == (mk B[k]).toList) = true := by rw [he]; simp
          clear he
          generalize mk A[k] = s at *
          generalize mk B[k] = t at *
          go_wp2
          go_quiet (fail)
          go_wp2
          exact ⟨⟨k + 1, by go_num, by omega, below_drewN HB.out _, HA⟩, by simp [intOf]; omega⟩
        · have HR := Lib.hid (HN.out k hlt he)
          have hq : ((mk A[k]).toList == (mk B[k]).toList) = false := by rw [mk_toList, mk_toList]; simpa using he
          clear he
          generalize mk A[k] = s at *
          generalize mk B[k] = t at *
          go_wp2
          go_quiet (fail)
          go_wp2
          go_ret
          rw [HR.out]
          exact ⟨rfl, below_drewN HB.out _⟩
      · obtain rfl : k = A.length := by omega
        have HR := Lib.hid (HE.out ha.out)
        clear ha
        go_wp2
        go_ret
        rw [HR.out]
        exact ⟨rfl, HB.out⟩
  · have HR := Lib.hid (ltA_len hl)
    have hln : ((A.length : Int) != (B.length : Int)) = true := by simp; omega
    clear hl
    go_enter Tryd.func50, Tryd.ntmps50
    go_wp2
    go_ret
    rw [HR.out]
    exact ⟨rfl, Below.refl _ _⟩
theorem eqQs_step {A B : List QQ} {k : Nat} (h : ∀ j, j < k → eqQ (atQ A j) (atQ B j) = true) (he : eqQ (atQ A k) (atQ B k) = true) : ∀ j, j < k + 1 → eqQ (atQ A j) (atQ B j) = true := fun j hj => by
  by_cases e : j = k
  · subst e; exact he
  · exact h j (by omega)
theorem eqQs_end {A B : List QQ} (hl : A.length = B.length) (h : ∀ j, j < A.length → eqQ (atQ A j) (atQ B j) = true) : eqQs A B = true := by
  unfold eqQs
  rw [decide_eq_true hl, Bool.true_and, List.all_eq_true]
  intro j hj
  exact h j (List.mem_range.1 hj)
theorem eqQs_no {A B : List QQ} {k : Nat} (hk : k < A.length) (he : eqQ (atQ A k) (atQ B k) = false) : eqQs A B = false := by
  unfold eqQs
  rw [Bool.and_eq_false_iff]
  right
  rw [List.all_eq_false]
  exact ⟨k, List.mem_range.2 hk, by rw [show eqQ (A.getD k noQ) (B.getD k noQ) = false from he]; decide⟩
theorem eqQs_len {A B : List QQ} (hl : A.length ≠ B.length) : eqQs A B = false := by
  unfold eqQs; rw [decide_eq_false hl]; rfl
set_option maxRecDepth 100000 in
set_option maxHeartbeats 3200000 in
theorem EqualQ_any (v1 v2 : Value) (A B : List QQ) (w : World) (h1 : QRow w v1 A) (h2 : QRow w v2 B) :
    Calls Tryd.prog 51 #[v1, v2] w fun e w' => e = .returned (.bool (eqQs A B)) ∧ Below w.heap.size w w' := by
  have H1 := Lib.hid h1
  have H2 := Lib.hid h2
  obtain ⟨p1, c1, rfl, l1, m1, -⟩ := h1
  obtain ⟨p2, c2, rfl, l2, m2, -⟩ := h2
  unfold maxLen at m1 m2
  by_cases hl : A.length = B.length
  · have HE := Lib.hid (fun h => eqQs_end hl h)
    have HN := Lib.hid (fun k hk he => eqQs_no (A := A) (B := B) (k := k) hk he)
    have HS := Lib.hid (fun k h he => eqQs_step (A := A) (B := B) (k := k) h he)
    generalize eqQs A B = res at *
    have hln : ((A.length : Int) != (B.length : Int)) = false := by rw [hl]; simp
    go_enter Tryd.func51, Tryd.ntmps51
    go_wp2
    go_loopw [13] (fun vk wr => ∃ k : Nat, vk = .int .i64 (k : Int) ∧ k ≤ A.length ∧ Hid (Below w.heap.size w wr) ∧ Hid (∀ j, j < k → eqQ (atQ A j) (atQ B j) = true)) (fun vk _ => A.length - (intOf vk).toNat)
    case atStart => exact ⟨0, rfl, by omega, Below.refl _ _, fun j hj => by omega⟩
    case round =>
      obtain ⟨k, rfl, hk, HB, ha⟩ := hrel
      by_cases hlt : k < A.length
      · have hlt2 : k < B.length := by omega
        obtain ⟨b, o, cap, qa, ha1, hv, hb, hcl, x0, x1, x2⟩ := H1.out.at_ HB.out hlt
        obtain ⟨b', o', cap', qb, hb1, hv', hb', hcl', y0, y1, y2⟩ := H2.out.at_ HB.out hlt2
        obtain ⟨rfl, rfl⟩ : p1 = some ⟨b, o, none⟩ ∧ c1 = cap := by injection hv with a1 a2 a3; exact ⟨a1, a3⟩
        obtain ⟨rfl, rfl⟩ : p2 = some ⟨b', o', none⟩ ∧ c2 = cap' := by injection hv' with a1 a2 a3; exact ⟨a1, a3⟩
        clear hv hv' hb hb'
        have k0 : (0 : Int) ≤ (k : Int) := by omega
        have k1 : (k : Int) < (A.length : Int) := by omega
        have k2 : (k : Int) < (B.length : Int) := by omega
        have HA := Lib.hid (fun h => HS.out k ha.out h)
        have HR := Lib.hid (fun h => HN.out k hlt h)
        rw [ha1, hb1] at HA HR
        have hE : ∀ W, (binOp .neq 30 (.agg #[.int .i64 qa.t, .int .i64 qa.v, .int .i64 qa.p]) (.agg #[.int .i64 qb.t, .int .i64 qb.v, .int .i64 qb.p])).run Tryd.prog W = .ok (.bool (!(eqQ qa qb))) W := neq_qid qa qb
        have hG : ∀ x y W, (eqGuard .neq 30 x y (.agg #[.int .i64 qa.t, .int .i64 qa.v, .int .i64 qa.p]) (.agg #[.int .i64 qb.t, .int .i64 qb.v, .int .i64 qb.p])).run Tryd.prog W = .ok () W := fun x y => guard_qid .neq x y qa qb
        generalize eqQ qa qb = z at *
        clear ha1 hb1
        cases z
        · replace HR := Lib.hid (HR.out rfl)
          clear HA
          go_wp2
          go_quiet (fail)
          go_wp2
          go_ret
          rw [HR.out]
          exact ⟨rfl, below_drewN HB.out _⟩
        · replace HA := Lib.hid (HA.out rfl)
          clear HR
          go_wp2
          go_quiet (fail)
          go_wp2
          exact ⟨⟨k + 1, by go_num, by omega, below_drewN HB.out _, HA⟩, by simp [intOf]; omega⟩
      · obtain rfl : k = A.length := by omega
        have HR := Lib.hid (HE.out ha.out)
        clear ha
        go_wp2
        go_ret
        rw [HR.out]
        exact ⟨rfl, HB.out⟩
  · have HR := Lib.hid (eqQs_len hl)
    have hln : ((A.length : Int) != (B.length : Int)) = true := by simp; omega
    clear hl
    go_enter Tryd.func51, Tryd.ntmps51
    go_wp2
    go_ret
    rw [HR.out]
    exact ⟨rfl, Below.refl _ _⟩
end Go.Proofs.YtlfdmbfbfadifaaDoor
