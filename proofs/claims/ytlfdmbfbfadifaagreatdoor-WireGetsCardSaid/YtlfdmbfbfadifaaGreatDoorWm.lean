/-
  Walks of the reference: whether a field is zero.
-/
import Derived.Test.YtlfdmbfbfadifaaGreatDoorWk
namespace Go.Proofs.YtlfdmbfbfadifaaGreatDoor
open Go.RowKit

theorem len_zero (n : Nat) : ((n : Int) == 0) = (n == 0) := by rw [Bool.eq_iff_iff]; simp
theorem isNo_eq (q : QQ) : eqQ q noQ = isNo q := rfl
/-- The tests of a qid and of a description, in the walk's spelling. -/
theorem eql_no (q : QQ) (w : World) : (binOp .eql 25 (.agg #[.int .i64 q.t, .int .i64 q.v, .int .i64 q.p]) (.agg #[.int .i64 0, .int .i64 0, .int .i64 0])).run Tryz.prog w = .ok (.bool (isNo q)) w := eql_qid q noQ w
theorem guard_no (op : BinOp) (x y : Operand) (q : QQ) (w : World) : (eqGuard op 25 x y (.agg #[.int .i64 q.t, .int .i64 q.v, .int .i64 q.p]) (.agg #[.int .i64 0, .int .i64 0, .int .i64 0])).run Tryz.prog w = .ok () w := guard_qid op x y q noQ w
theorem eql_noD (d : DD) (w : World) : (binOp .eql 27 (.agg (cellsD d).toArray) (.agg #[.int .i64 0, .int .i64 0, .int .i64 0, .int .i64 0, .int .i64 0, .int .i64 0, .int .i64 0, .int .i64 0, .int .i64 0, .string ⟨#[]⟩, .string ⟨#[]⟩, .string ⟨#[]⟩, .string ⟨#[]⟩])).run Tryz.prog w = .ok (.bool (eqDD d noD)) w := eql_dir d noD w
theorem guard_noD (op : BinOp) (x y : Operand) (d : DD) (w : World) : (eqGuard op 27 x y (.agg (cellsD d).toArray) (.agg #[.int .i64 0, .int .i64 0, .int .i64 0, .int .i64 0, .int .i64 0, .int .i64 0, .int .i64 0, .int .i64 0, .int .i64 0, .string ⟨#[]⟩, .string ⟨#[]⟩, .string ⟨#[]⟩, .string ⟨#[]⟩])).run Tryz.prog w = .ok () w := guard_dir op x y d noD w
theorem info_dirL (d : DD) : (Tryz.prog.info? 27).map (·.size) = some (cellsD d).length := by kernel_rfl

set_option maxRecDepth 100000 in
set_option maxHeartbeats 1600000 in
theorem Zero_0 (m : MM) (w : World) :
    Calls Tryz.prog 43 #[msgV m, .int .u8 102] w fun e w' => e = .returned (.bool (zeroB m 0)) ∧ Below w.heap.size w w' := by
  have HB0 := Lib.hid (fun ca => (Below.refl _ w).alloc (Nat.le_refl _) (.cells ca 30))
  unfold msgV
  have x : (cellsB m)[2]? = some (.int .i64 m.fi) := rfl
  have HR : Hid (zeroB m 0 = (m.fi == 0)) := rfl
  generalize cellsB m = ca at *
  generalize zeroB m 0 = r at *
  generalize m.fi = n at *
  go_enter Tryz.func43, Tryz.ntmps43
  go_wp2
  go_ret
  rw [HR.out]
  exact ⟨rfl, HB0.out _⟩

set_option maxRecDepth 100000 in
set_option maxHeartbeats 1600000 in
theorem Zero_1 (m : MM) (w : World) :
    Calls Tryz.prog 43 #[msgV m, .int .u8 110] w fun e w' => e = .returned (.bool (zeroB m 1)) ∧ Below w.heap.size w w' := by
  have HB0 := Lib.hid (fun ca => (Below.refl _ w).alloc (Nat.le_refl _) (.cells ca 30))
  unfold msgV
  have x : (cellsB m)[3]? = some (.int .i64 m.nf) := rfl
  have HR : Hid (zeroB m 1 = (m.nf == 0)) := rfl
  generalize cellsB m = ca at *
  generalize zeroB m 1 = r at *
  generalize m.nf = n at *
  go_enter Tryz.func43, Tryz.ntmps43
  go_wp2
  go_ret
  rw [HR.out]
  exact ⟨rfl, HB0.out _⟩

set_option maxRecDepth 100000 in
set_option maxHeartbeats 1600000 in
theorem Zero_2 (m : MM) (w : World) :
    Calls Tryz.prog 43 #[msgV m, .int .u8 97] w fun e w' => e = .returned (.bool (zeroB m 2)) ∧ Below w.heap.size w w' := by
  have HB0 := Lib.hid (fun ca => (Below.refl _ w).alloc (Nat.le_refl _) (.cells ca 30))
  unfold msgV
  have x : (cellsB m)[4]? = some (.int .i64 m.af) := rfl
  have HR : Hid (zeroB m 2 = (m.af == 0)) := rfl
  generalize cellsB m = ca at *
  generalize zeroB m 2 = r at *
  generalize m.af = n at *
  go_enter Tryz.func43, Tryz.ntmps43
  go_wp2
  go_ret
  rw [HR.out]
  exact ⟨rfl, HB0.out _⟩

set_option maxRecDepth 100000 in
set_option maxHeartbeats 1600000 in
theorem Zero_3 (m : MM) (w : World) :
    Calls Tryz.prog 43 #[msgV m, .int .u8 111] w fun e w' => e = .returned (.bool (zeroB m 3)) ∧ Below w.heap.size w w' := by
  have HB0 := Lib.hid (fun ca => (Below.refl _ w).alloc (Nat.le_refl _) (.cells ca 30))
  unfold msgV
  have x : (cellsB m)[5]? = some (.int .i64 m.ot) := rfl
  have HR : Hid (zeroB m 3 = (m.ot == 0)) := rfl
  generalize cellsB m = ca at *
  generalize zeroB m 3 = r at *
  generalize m.ot = n at *
  go_enter Tryz.func43, Tryz.ntmps43
  go_wp2
  go_ret
  rw [HR.out]
  exact ⟨rfl, HB0.out _⟩

set_option maxRecDepth 100000 in
set_option maxHeartbeats 1600000 in
theorem Zero_4 (m : MM) (w : World) :
    Calls Tryz.prog 43 #[msgV m, .int .u8 122] w fun e w' => e = .returned (.bool (zeroB m 4)) ∧ Below w.heap.size w w' := by
  have HB0 := Lib.hid (fun ca => (Below.refl _ w).alloc (Nat.le_refl _) (.cells ca 30))
  unfold msgV
  have x : (cellsB m)[6]? = some (.int .i64 m.ms) := rfl
  have HR : Hid (zeroB m 4 = (m.ms == 0)) := rfl
  generalize cellsB m = ca at *
  generalize zeroB m 4 = r at *
  generalize m.ms = n at *
  go_enter Tryz.func43, Tryz.ntmps43
  go_wp2
  go_ret
  rw [HR.out]
  exact ⟨rfl, HB0.out _⟩

set_option maxRecDepth 100000 in
set_option maxHeartbeats 1600000 in
theorem Zero_5 (m : MM) (w : World) :
    Calls Tryz.prog 43 #[msgV m, .int .u8 118] w fun e w' => e = .returned (.bool (zeroB m 5)) ∧ Below w.heap.size w w' := by
  have HB0 := Lib.hid (fun ca => (Below.refl _ w).alloc (Nat.le_refl _) (.cells ca 30))
  unfold msgV
  have x : (cellsB m)[7]? = some (.string (mk m.ve)) := rfl
  have HR : zeroB m 5 = ((mk m.ve).toList == []) := by rw [mk_toList]; rfl
  replace HR := Lib.hid HR
  generalize cellsB m = ca at *
  generalize zeroB m 5 = r at *
  generalize mk m.ve = n at *
  go_enter Tryz.func43, Tryz.ntmps43
  go_wp2
  go_ret
  rw [HR.out]
  exact ⟨retb (by simp), HB0.out _⟩

set_option maxRecDepth 100000 in
set_option maxHeartbeats 1600000 in
theorem Zero_6 (m : MM) (w : World) :
    Calls Tryz.prog 43 #[msgV m, .int .u8 117] w fun e w' => e = .returned (.bool (zeroB m 6)) ∧ Below w.heap.size w w' := by
  have HB0 := Lib.hid (fun ca => (Below.refl _ w).alloc (Nat.le_refl _) (.cells ca 30))
  unfold msgV
  have x : (cellsB m)[8]? = some (.string (mk m.us)) := rfl
  have HR : zeroB m 6 = ((mk m.us).toList == []) := by rw [mk_toList]; rfl
  replace HR := Lib.hid HR
  generalize cellsB m = ca at *
  generalize zeroB m 6 = r at *
  generalize mk m.us = n at *
  go_enter Tryz.func43, Tryz.ntmps43
  go_wp2
  go_ret
  rw [HR.out]
  exact ⟨retb (by simp), HB0.out _⟩

set_option maxRecDepth 100000 in
set_option maxHeartbeats 1600000 in
theorem Zero_7 (m : MM) (w : World) :
    Calls Tryz.prog 43 #[msgV m, .int .u8 116] w fun e w' => e = .returned (.bool (zeroB m 7)) ∧ Below w.heap.size w w' := by
  have HB0 := Lib.hid (fun ca => (Below.refl _ w).alloc (Nat.le_refl _) (.cells ca 30))
  unfold msgV
  have x : (cellsB m)[9]? = some (.string (mk m.ac)) := rfl
  have HR : zeroB m 7 = ((mk m.ac).toList == []) := by rw [mk_toList]; rfl
  replace HR := Lib.hid HR
  generalize cellsB m = ca at *
  generalize zeroB m 7 = r at *
  generalize mk m.ac = n at *
  go_enter Tryz.func43, Tryz.ntmps43
  go_wp2
  go_ret
  rw [HR.out]
  exact ⟨retb (by simp), HB0.out _⟩

set_option maxRecDepth 100000 in
set_option maxHeartbeats 1600000 in
theorem Zero_8 (m : MM) (w : World) (hr : RowM w m) :
    Calls Tryz.prog 43 #[msgV m, .int .u8 78] w fun e w' => e = .returned (.bool (zeroB m 8)) ∧ Below w.heap.size w w' := by
  have HB0 := Lib.hid (fun ca => (Below.refl _ w).alloc (Nat.le_refl _) (.cells ca 30))
  unfold msgV
  obtain ⟨hn, hq⟩ := hr
  obtain ⟨ps, cap, hv, hc, hcm, -⟩ := hn
  have x : (cellsB m)[10]? = some m.nv := rfl
  rw [hv] at x
  have HR : Hid (zeroB m 8 = (m.nl.length == 0)) := rfl
  unfold maxLen at hcm
  clear hv hq
  generalize cellsB m = ca at *
  generalize zeroB m 8 = r at *
  generalize m.nl.length = n at *
  go_enter Tryz.func43, Tryz.ntmps43
  go_wp2
  go_ret
  rw [HR.out, ← len_zero]
  exact ⟨rfl, HB0.out _⟩

set_option maxRecDepth 100000 in
set_option maxHeartbeats 1600000 in
theorem Zero_9 (m : MM) (w : World) (hr : RowM w m) :
    Calls Tryz.prog 43 #[msgV m, .int .u8 81] w fun e w' => e = .returned (.bool (zeroB m 9)) ∧ Below w.heap.size w w' := by
  have HB0 := Lib.hid (fun ca => (Below.refl _ w).alloc (Nat.le_refl _) (.cells ca 30))
  unfold msgV
  obtain ⟨hn, hq⟩ := hr
  obtain ⟨ps, cap, hv, hc, hcm, -⟩ := hq
  have x : (cellsB m)[11]? = some m.qv := rfl
  rw [hv] at x
  have HR : Hid (zeroB m 9 = (m.ql.length == 0)) := rfl
  unfold maxLen at hcm
  clear hv hn
  generalize cellsB m = ca at *
  generalize zeroB m 9 = r at *
  generalize m.ql.length = n at *
  go_enter Tryz.func43, Tryz.ntmps43
  go_wp2
  go_ret
  rw [HR.out, ← len_zero]
  exact ⟨rfl, HB0.out _⟩

set_option maxRecDepth 100000 in
set_option maxHeartbeats 1600000 in
theorem Zero_10 (m : MM) (w : World) :
    Calls Tryz.prog 43 #[msgV m, .int .u8 113] w fun e w' => e = .returned (.bool (zeroB m 10)) ∧ Below w.heap.size w w' := by
  have HB0 := Lib.hid (fun ca => (Below.refl _ w).alloc (Nat.le_refl _) (.cells ca 30))
  unfold msgV
  have x0 : (cellsB m)[12]? = some (.int .i64 m.qd.t) := rfl
  have x1 : (cellsB m)[13]? = some (.int .i64 m.qd.v) := rfl
  have x2 : (cellsB m)[14]? = some (.int .i64 m.qd.p) := rfl
  have hE := eql_no m.qd
  have hG := fun x y => guard_no .eql x y m.qd
  have HR : Hid (zeroB m 10 = isNo m.qd) := rfl
  generalize cellsB m = ca at *
  generalize zeroB m 10 = r at *
  generalize isNo m.qd = z at *
  generalize m.qd.t = n0 at *
  generalize m.qd.v = n1 at *
  generalize m.qd.p = n2 at *
  go_enter Tryz.func43, Tryz.ntmps43
  go_wp2
  go_ret
  rw [HR.out]
  exact ⟨rfl, HB0.out _⟩

set_option maxRecDepth 100000 in
set_option maxHeartbeats 1600000 in
theorem Zero_11 (m : MM) (w : World) :
    Calls Tryz.prog 43 #[msgV m, .int .u8 105] w fun e w' => e = .returned (.bool (zeroB m 11)) ∧ Below w.heap.size w w' := by
  have HB0 := Lib.hid (fun ca => (Below.refl _ w).alloc (Nat.le_refl _) (.cells ca 30))
  unfold msgV
  have x : (cellsB m)[15]? = some (.int .i64 m.io) := rfl
  have HR : Hid (zeroB m 11 = (m.io == 0)) := rfl
  generalize cellsB m = ca at *
  generalize zeroB m 11 = r at *
  generalize m.io = n at *
  go_enter Tryz.func43, Tryz.ntmps43
  go_wp2
  go_ret
  rw [HR.out]
  exact ⟨rfl, HB0.out _⟩

set_option maxRecDepth 100000 in
set_option maxHeartbeats 1600000 in
theorem Zero_12 (m : MM) (w : World) :
    Calls Tryz.prog 43 #[msgV m, .int .u8 109] w fun e w' => e = .returned (.bool (zeroB m 12)) ∧ Below w.heap.size w w' := by
  have HB0 := Lib.hid (fun ca => (Below.refl _ w).alloc (Nat.le_refl _) (.cells ca 30))
  unfold msgV
  have x : (cellsB m)[16]? = some (.int .i64 m.mo) := rfl
  have HR : Hid (zeroB m 12 = (m.mo == 0)) := rfl
  generalize cellsB m = ca at *
  generalize zeroB m 12 = r at *
  generalize m.mo = n at *
  go_enter Tryz.func43, Tryz.ntmps43
  go_wp2
  go_ret
  rw [HR.out]
  exact ⟨rfl, HB0.out _⟩

set_option maxRecDepth 100000 in
set_option maxHeartbeats 1600000 in
theorem Zero_13 (m : MM) (w : World) :
    Calls Tryz.prog 43 #[msgV m, .int .u8 112] w fun e w' => e = .returned (.bool (zeroB m 13)) ∧ Below w.heap.size w w' := by
  have HB0 := Lib.hid (fun ca => (Below.refl _ w).alloc (Nat.le_refl _) (.cells ca 30))
  unfold msgV
  have x : (cellsB m)[17]? = some (.int .i64 m.pe) := rfl
  have HR : Hid (zeroB m 13 = (m.pe == 0)) := rfl
  generalize cellsB m = ca at *
  generalize zeroB m 13 = r at *
  generalize m.pe = n at *
  go_enter Tryz.func43, Tryz.ntmps43
  go_wp2
  go_ret
  rw [HR.out]
  exact ⟨rfl, HB0.out _⟩

set_option maxRecDepth 100000 in
set_option maxHeartbeats 1600000 in
theorem Zero_14 (m : MM) (w : World) :
    Calls Tryz.prog 43 #[msgV m, .int .u8 101] w fun e w' => e = .returned (.bool (zeroB m 14)) ∧ Below w.heap.size w w' := by
  have HB0 := Lib.hid (fun ca => (Below.refl _ w).alloc (Nat.le_refl _) (.cells ca 30))
  unfold msgV
  have x : (cellsB m)[18]? = some (.string (mk m.na)) := rfl
  have HR : zeroB m 14 = ((mk m.na).toList == []) := by rw [mk_toList]; rfl
  replace HR := Lib.hid HR
  generalize cellsB m = ca at *
  generalize zeroB m 14 = r at *
  generalize mk m.na = n at *
  go_enter Tryz.func43, Tryz.ntmps43
  go_wp2
  go_ret
  rw [HR.out]
  exact ⟨retb (by simp), HB0.out _⟩

set_option maxRecDepth 100000 in
set_option maxHeartbeats 1600000 in
theorem Zero_15 (m : MM) (w : World) :
    Calls Tryz.prog 68 #[msgV m, .int .u8 79] w fun e w' => e = .returned (.bool (zeroB m 15)) ∧ Below w.heap.size w w' := by
  have HB0 := Lib.hid (fun ca => (Below.refl _ w).alloc (Nat.le_refl _) (.cells ca 30))
  unfold msgV
  have x : (cellsB m)[19]? = some (.int .i64 m.os) := rfl
  have HR : Hid (zeroB m 15 = (m.os == 0)) := rfl
  generalize cellsB m = ca at *
  generalize zeroB m 15 = r at *
  generalize m.os = n at *
  go_enter Tryz.func68, Tryz.ntmps68
  go_wp2
  go_ret
  rw [HR.out]
  exact ⟨rfl, HB0.out _⟩

set_option maxRecDepth 100000 in
set_option maxHeartbeats 1600000 in
theorem Zero_16 (m : MM) (w : World) :
    Calls Tryz.prog 68 #[msgV m, .int .u8 99] w fun e w' => e = .returned (.bool (zeroB m 16)) ∧ Below w.heap.size w w' := by
  have HB0 := Lib.hid (fun ca => (Below.refl _ w).alloc (Nat.le_refl _) (.cells ca 30))
  unfold msgV
  have x : (cellsB m)[20]? = some (.int .i64 m.co) := rfl
  have HR : Hid (zeroB m 16 = (m.co == 0)) := rfl
  generalize cellsB m = ca at *
  generalize zeroB m 16 = r at *
  generalize m.co = n at *
  go_enter Tryz.func68, Tryz.ntmps68
  go_wp2
  go_ret
  rw [HR.out]
  exact ⟨rfl, HB0.out _⟩

set_option maxRecDepth 100000 in
set_option maxHeartbeats 1600000 in
theorem Zero_17 (m : MM) (w : World) :
    Calls Tryz.prog 68 #[msgV m, .int .u8 100] w fun e w' => e = .returned (.bool (zeroB m 17)) ∧ Below w.heap.size w w' := by
  have HB0 := Lib.hid (fun ca => (Below.refl _ w).alloc (Nat.le_refl _) (.cells ca 30))
  unfold msgV
  have x : (cellsB m)[21]? = some (.string (mk m.da)) := rfl
  have HR : zeroB m 17 = ((mk m.da).toList == []) := by rw [mk_toList]; rfl
  replace HR := Lib.hid HR
  generalize cellsB m = ca at *
  generalize zeroB m 17 = r at *
  generalize mk m.da = n at *
  go_enter Tryz.func68, Tryz.ntmps68
  go_wp2
  go_ret
  rw [HR.out]
  exact ⟨retb (by simp), HB0.out _⟩

set_option maxRecDepth 100000 in
set_option maxHeartbeats 1600000 in
theorem Zero_18 (m : MM) (w : World) :
    Calls Tryz.prog 68 #[msgV m, .int .u8 115] w fun e w' => e = .returned (.bool (zeroB m 18)) ∧ Below w.heap.size w w' := by
  have HB0 := Lib.hid (fun ca => (Below.refl _ w).alloc (Nat.le_refl _) (.cells ca 30))
  have hK := Lib.hid (BlkM.new w m).stat
  have hE := eql_noD m.st
  have hG := fun x y => guard_noD .eql x y m.st
  have hI := Lib.hid (info_dirL m.st)
  unfold msgV
  generalize cellsB m = ca at *
  have HR : Hid (zeroB m 18 = eqDD m.st noD) := rfl
  generalize zeroB m 18 = r at *
  generalize eqDD m.st noD = z at *
  generalize cellsD m.st = cd at *
  go_enter Tryz.func68, Tryz.ntmps68
  go_wp2_with (refine wpList_load_mid rfl 27 _ rfl w.heap.size 22 rfl cd _ hK.out Tryz.underlying27 rfl hI.out ?_)
  go_ret
  rw [HR.out]
  exact ⟨rfl, HB0.out _⟩

set_option maxRecDepth 100000 in
set_option maxHeartbeats 1600000 in
theorem Zero_19 (m : MM) (w : World) :
    Calls Tryz.prog 68 #[msgV m, .int .u8 69] w fun e w' => e = .returned (.bool (zeroB m 19)) ∧ Below w.heap.size w w' := by
  have HB0 := Lib.hid (fun ca => (Below.refl _ w).alloc (Nat.le_refl _) (.cells ca 30))
  unfold msgV
  have x : (cellsB m)[35]? = some (.int .i64 m.er) := rfl
  have HR : Hid (zeroB m 19 = (m.er == 0)) := rfl
  generalize cellsB m = ca at *
  generalize zeroB m 19 = r at *
  generalize m.er = n at *
  go_enter Tryz.func68, Tryz.ntmps68
  go_wp2
  go_ret
  rw [HR.out]
  exact ⟨rfl, HB0.out _⟩

set_option maxRecDepth 100000 in
set_option maxHeartbeats 1600000 in
theorem Zero_20 (m : MM) (w : World) :
    Calls Tryz.prog 68 #[msgV m, .int .u8 108] w fun e w' => e = .returned (.bool (zeroB m 20)) ∧ Below w.heap.size w w' := by
  have HB0 := Lib.hid (fun ca => (Below.refl _ w).alloc (Nat.le_refl _) (.cells ca 30))
  unfold msgV
  have x : (cellsB m)[36]? = some (.int .i64 m.lz) := rfl
  have HR : Hid (zeroB m 20 = (m.lz == 0)) := rfl
  generalize cellsB m = ca at *
  generalize zeroB m 20 = r at *
  generalize m.lz = n at *
  go_enter Tryz.func68, Tryz.ntmps68
  go_wp2
  go_ret
  rw [HR.out]
  exact ⟨rfl, HB0.out _⟩

set_option maxRecDepth 100000 in
set_option maxHeartbeats 1600000 in
theorem Zero_21 (m : MM) (w : World) :
    Calls Tryz.prog 68 #[msgV m, .int .u8 84] w fun e w' => e = .returned (.bool (zeroB m 21)) ∧ Below w.heap.size w w' := by
  have HB0 := Lib.hid (fun ca => (Below.refl _ w).alloc (Nat.le_refl _) (.cells ca 30))
  unfold msgV
  have x : (cellsB m)[37]? = some (.int .i64 m.te) := rfl
  have HR : Hid (zeroB m 21 = (m.te == 0)) := rfl
  generalize cellsB m = ca at *
  generalize zeroB m 21 = r at *
  generalize m.te = n at *
  go_enter Tryz.func68, Tryz.ntmps68
  go_wp2
  go_ret
  rw [HR.out]
  exact ⟨rfl, HB0.out _⟩

set_option maxRecDepth 100000 in
set_option maxHeartbeats 1600000 in
theorem Zero_22 (m : MM) (w : World) :
    Calls Tryz.prog 68 #[msgV m, .int .u8 83] w fun e w' => e = .returned (.bool (zeroB m 22)) ∧ Below w.heap.size w w' := by
  have HB0 := Lib.hid (fun ca => (Below.refl _ w).alloc (Nat.le_refl _) (.cells ca 30))
  unfold msgV
  have x : (cellsB m)[38]? = some (.string (mk m.se)) := rfl
  have HR : zeroB m 22 = ((mk m.se).toList == []) := by rw [mk_toList]; rfl
  replace HR := Lib.hid HR
  generalize cellsB m = ca at *
  generalize zeroB m 22 = r at *
  generalize mk m.se = n at *
  go_enter Tryz.func68, Tryz.ntmps68
  go_wp2
  go_ret
  rw [HR.out]
  exact ⟨retb (by simp), HB0.out _⟩

set_option maxRecDepth 100000 in
set_option maxHeartbeats 1600000 in
theorem Zero_late (m : MM) (f : Nat) (c : Int) (hc : c = 79 ∨ c = 99 ∨ c = 100 ∨ c = 115 ∨ c = 69 ∨ c = 108 ∨ c = 84 ∨ c = 83) (h : ∀ W, Calls Tryz.prog 68 #[msgV m, .int .u8 c] W fun e w' => e = .returned (.bool (zeroB m f)) ∧ Below W.heap.size W w') (w : World) :
    Calls Tryz.prog 43 #[msgV m, .int .u8 c] w fun e w' => e = .returned (.bool (zeroB m f)) ∧ Below w.heap.size w w' := by
  have HB0 := Lib.hid ((Below.refl _ w).alloc (Nat.le_refl _) (.cells (cellsB m) 30))
  have HK := Lib.hid (BlkM.new w m)
  unfold msgV at h ⊢
  replace h := Lib.hid h
  rcases hc with rfl | rfl | rfl | rfl | rfl | rfl | rfl | rfl
  all_goals
    go_enter Tryz.func43, Tryz.ntmps43
    go_wp2_with (refine wpList_load_row rfl 30 _ rfl w.heap.size rfl 30 (cellsB m) (0, 0) _ HK.out Tryz.underlying30 rfl (by kernel_rfl) ?_)
    refine (h.out _).mono ?_
    rintro e w1 ⟨rfl, hB1⟩
    have HB1 := Lib.hid (HB0.out.trans (hB1.mono HB0.out.size))
    clear hB1
    go_wp2
    go_ret
    exact ⟨rfl, HB1.out⟩
theorem Zero_any (m : MM) (f : Nat) (hf : f < 23) (w : World) (hr : RowM w m) :
    Calls Tryz.prog 43 #[msgV m, .int .u8 ((letN f).toNat : Int)] w fun e w' => e = .returned (.bool (zeroB m f)) ∧ Below w.heap.size w w' := by
  rcases k23 hf with rfl | rfl | rfl | rfl | rfl | rfl | rfl | rfl | rfl | rfl | rfl | rfl | rfl | rfl | rfl | rfl | rfl | rfl | rfl | rfl | rfl | rfl | rfl
  · exact Zero_0 m w
  · exact Zero_1 m w
  · exact Zero_2 m w
  · exact Zero_3 m w
  · exact Zero_4 m w
  · exact Zero_5 m w
  · exact Zero_6 m w
  · exact Zero_7 m w
  · exact Zero_8 m w hr
  · exact Zero_9 m w hr
  · exact Zero_10 m w
  · exact Zero_11 m w
  · exact Zero_12 m w
  · exact Zero_13 m w
  · exact Zero_14 m w
  · exact Zero_late m 15 79 (by decide) (fun W => Zero_15 m W) w
  · exact Zero_late m 16 99 (by decide) (fun W => Zero_16 m W) w
  · exact Zero_late m 17 100 (by decide) (fun W => Zero_17 m W) w
  · exact Zero_late m 18 115 (by decide) (fun W => Zero_18 m W) w
  · exact Zero_late m 19 69 (by decide) (fun W => Zero_19 m W) w
  · exact Zero_late m 20 108 (by decide) (fun W => Zero_20 m W) w
  · exact Zero_late m 21 84 (by decide) (fun W => Zero_21 m W) w
  · exact Zero_late m 22 83 (by decide) (fun W => Zero_22 m W) w
end Go.Proofs.YtlfdmbfbfadifaaGreatDoor
