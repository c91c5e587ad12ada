/-
  Walks of package msg: Same.
-/
import Derived.Test.YtlfdmbfbfadifaaDoorWs
import Derived.BigFrame
namespace Go.Proofs.YtlfdmbfbfadifaaDoor
open Go.RowKit

/-- A whole struct out of the middle of a block, where the operation has a guard that says yes. -/
theorem wpList_gload_mid {P : Program} {ops : Array Oper} {rest : List Oper} {op : Oper} {a : Act} {w : World} {Q : Exit → Act → World → Prop} (hw : Region.wanted op (yielded ops a.tmps) = true) (ty : TypeId) (x : Operand) (ho : op.op = .load ty x)
    (b o : Nat) (hx : a.eval x = .pointer (some ⟨b, o, none⟩)) (cs : List Value) (d : TypeDesc) (hc : w.rangeAt b o cs) (hu : P.underlying ty = some d) (hd : d.isRow = true) (hi : (P.info? ty).map (·.size) = some cs.length)
    (h : wpList P ops Q rest (a.put op.dst (.agg cs.toArray)) w) : wpList P ops Q (op :: rest) a w :=
  BigFrame.wpList_want hw fun _ hK => wp_load_mid ty x ho b o hx cs d hc hu hd hi (hK _ _ h)
theorem eqNums_eq (a b : MM) : eqNums a b = (numsB a b && tailB3 a b) := by unfold eqNums numsB tailB3; simp only [Bool.and_assoc]
theorem sameM_eq (a b : MM) : sameM a b = (eqNums a b && (txtsB a b && (eqQ a.qd b.qd && (eqDD a.st b.st && (decide (a.nl = b.nl) && eqQs a.ql b.ql))))) := by
  unfold sameM
  rw [eqNums_eq]
  generalize decide (a.nl = b.nl) = x1
  generalize eqQs a.ql b.ql = x2
  generalize numsB a b = x3
  generalize txtsB a b = x4
  generalize eqQ a.qd b.qd = x5
  generalize eqDD a.st b.st = x6
  generalize tailB3 a b = x7
  ac_rfl

set_option maxRecDepth 100000 in
set_option maxHeartbeats 12800000 in
theorem Same_any (a b : MM) (w : World) (ha : RowM w a) (hb : RowM w b) :
    Calls Tryd.prog 30 #[msgV a, msgV b] w fun e w' => e = .returned (.bool (sameM a b)) ∧ Below w.heap.size w w' := by
  obtain ⟨W, hW, hB, hKa, hKb⟩ := two_msgs w a b
  have hNa := Lib.hid (fun W h => numbersOf8_any a w.heap.size W h)
  have hNb := Lib.hid (fun W h => numbersOf8_any b (w.heap.size + 1) W h)
  have hTa := Lib.hid (fun W h => textsOf8_any a w.heap.size W h)
  have hTb := Lib.hid (fun W h => textsOf8_any b (w.heap.size + 1) W h)
  have hS := Lib.hid (fun W h1 h2 => EqualS_any a.nv b.nv a.nl b.nl W h1 h2)
  have hQ := Lib.hid (fun W h1 h2 => EqualQ_any a.qv b.qv a.ql b.ql W h1 h2)
  have e1 := eql_nums a b
  have g1 := fun x y => guard_nums .eql x y a b
  have e2 := eql_txts a b
  have g2 := fun x y => guard_txts .eql x y a b
  have e3 : ∀ W, (binOp .eql 30 (.agg #[.int .i64 a.qd.t, .int .i64 a.qd.v, .int .i64 a.qd.p]) (.agg #[.int .i64 b.qd.t, .int .i64 b.qd.v, .int .i64 b.qd.p])).run Tryd.prog W = .ok (.bool (eqQ a.qd b.qd)) W := eql_qid a.qd b.qd
  have g3 : ∀ x y W, (eqGuard .eql 30 x y (.agg #[.int .i64 a.qd.t, .int .i64 a.qd.v, .int .i64 a.qd.p]) (.agg #[.int .i64 b.qd.t, .int .i64 b.qd.v, .int .i64 b.qd.p])).run Tryd.prog W = .ok () W := fun x y => guard_qid .eql x y a.qd b.qd
  have e4 : ∀ W, (binOp .eql 32 (.agg (cellsD a.st).toArray) (.agg (cellsD b.st).toArray)).run Tryd.prog W = .ok (.bool (eqDD a.st b.st)) W := eql_dir a.st b.st
  have g4 : ∀ x y W, (eqGuard .eql 32 x y (.agg (cellsD a.st).toArray) (.agg (cellsD b.st).toArray)).run Tryd.prog W = .ok () W := fun x y => guard_dir .eql x y a.st b.st
  have hca : Hid (∀ W, BlkM W w.heap.size a → W.cell? ⟨w.heap.size, 10, none⟩ = some a.nv ∧ W.cell? ⟨w.heap.size, 11, none⟩ = some a.qv ∧ W.cell? ⟨w.heap.size, 12, none⟩ = some (.int .i64 a.qd.t) ∧ W.cell? ⟨w.heap.size, 13, none⟩ = some (.int .i64 a.qd.v) ∧ W.cell? ⟨w.heap.size, 14, none⟩ = some (.int .i64 a.qd.p)) :=
    fun W h => ⟨h.cell 10, h.cell 11, h.cell 12, h.cell 13, h.cell 14⟩
  have hcb : Hid (∀ W, BlkM W (w.heap.size + 1) b → W.cell? ⟨w.heap.size + 1, 10, none⟩ = some b.nv ∧ W.cell? ⟨w.heap.size + 1, 11, none⟩ = some b.qv ∧ W.cell? ⟨w.heap.size + 1, 12, none⟩ = some (.int .i64 b.qd.t) ∧ W.cell? ⟨w.heap.size + 1, 13, none⟩ = some (.int .i64 b.qd.v) ∧ W.cell? ⟨w.heap.size + 1, 14, none⟩ = some (.int .i64 b.qd.p)) :=
    fun W h => ⟨h.cell 10, h.cell 11, h.cell 12, h.cell 13, h.cell 14⟩
  have hra : Hid (∀ W, BlkM W w.heap.size a → W.rangeAt w.heap.size 22 (cellsD a.st)) := fun W h => h.stat
  have hrb : Hid (∀ W, BlkM W (w.heap.size + 1) b → W.rangeAt (w.heap.size + 1) 22 (cellsD b.st)) := fun W h => h.stat
  have hia := Lib.hid (info_dirL a.st)
  have hib := Lib.hid (info_dirL b.st)
  have HR := sameM_eq a b
  have hKeep : Hid (∀ W1 W2, (Below w.heap.size w W1 ∧ BlkM W1 w.heap.size a ∧ BlkM W1 (w.heap.size + 1) b) → Below W1.heap.size W1 W2 → (Below w.heap.size w W2 ∧ BlkM W2 w.heap.size a ∧ BlkM W2 (w.heap.size + 1) b)) := fun W1 W2 h hb =>
    ⟨h.1.trans (hb.mono h.1.size), h.2.1.below hb h.2.1.lt, h.2.2.below hb h.2.2.lt⟩
  have hSt : Hid (Below w.heap.size w W ∧ BlkM W w.heap.size a ∧ BlkM W (w.heap.size + 1) b) := ⟨hB, hKa, hKb⟩
  replace ha := Lib.hid ha
  replace hb := Lib.hid hb
  clear hB hKa hKb
  unfold msgV
  generalize sameM a b = res at *
  generalize eqNums a b = y1 at *
  generalize txtsB a b = y2 at *
  generalize eqQ a.qd b.qd = y3 at *
  generalize eqDD a.st b.st = y4 at *
  generalize decide (a.nl = b.nl) = y5 at *
  generalize eqQs a.ql b.ql = y6 at *
  generalize cellsD a.st = da at *
  generalize cellsD b.st = db at *
  generalize numsA a = na at *
  generalize numsA b = nb at *
  generalize txtsA a = ta at *
  generalize txtsA b = tb at *
  replace HR := Lib.hid HR
  replace hW := Lib.hid hW
  go_enter Tryd.func30, Tryd.ntmps30
  go_wp2_with fail
  simp only [hW.out]
  refine (hNa.out _ hSt.out.2.1).mono ?_
  rintro e W1 ⟨rfl, hB1⟩
  have hS1 := Lib.hid (hKeep.out _ _ hSt.out hB1)
  clear hB1
  go_wp2_with fail
  refine (hNb.out _ hS1.out.2.2).mono ?_
  rintro e W2 ⟨rfl, hB2⟩
  have hS2 := Lib.hid (hKeep.out _ _ hS1.out hB2)
  clear hB2
  cases y1
  · go_wp2
    go_ret
    rw [HR.out]
    exact ⟨rfl, hS2.out.1⟩
  go_wp2_with fail
  refine (hTa.out _ hS2.out.2.1).mono ?_
  rintro e W3 ⟨rfl, hB3⟩
  have hS3 := Lib.hid (hKeep.out _ _ hS2.out hB3)
  clear hB3
  go_wp2_with fail
  refine (hTb.out _ hS3.out.2.2).mono ?_
  rintro e W4 ⟨rfl, hB4⟩
  have hS4 := Lib.hid (hKeep.out _ _ hS3.out hB4)
  clear hB4 hS1 hS2 hS3 hNa hNb hTa hTb
  obtain ⟨xa10, xa11, xa12, xa13, xa14⟩ := hca.out _ hS4.out.2.1
  obtain ⟨xb10, xb11, xb12, xb13, xb14⟩ := hcb.out _ hS4.out.2.2
  have ra := Lib.hid (hra.out _ hS4.out.2.1)
  have rb := Lib.hid (hrb.out _ hS4.out.2.2)
  replace hS := Lib.hid (hS.out W4 (ha.out.1.below hS4.out.1) (hb.out.1.below hS4.out.1))
  cases y2
  · go_wp2
    go_ret
    rw [HR.out]
    exact ⟨rfl, hS4.out.1⟩
  cases y3
  · go_wp2
    go_ret
    rw [HR.out]
    exact ⟨rfl, hS4.out.1⟩
  cases y4
  · go_wp2_with (first
      | (refine wpList_gload_mid rfl 32 _ rfl w.heap.size 22 rfl da _ ra.out Tryd.underlying32 rfl hia.out ?_)
      | (refine wpList_gload_mid rfl 32 _ rfl (w.heap.size + 1) 22 rfl db _ rb.out Tryd.underlying32 rfl hib.out ?_))
    go_ret
    rw [HR.out]
    exact ⟨rfl, hS4.out.1⟩
  go_wp2_with (first
    | (refine wpList_gload_mid rfl 32 _ rfl w.heap.size 22 rfl da _ ra.out Tryd.underlying32 rfl hia.out ?_)
    | (refine wpList_gload_mid rfl 32 _ rfl (w.heap.size + 1) 22 rfl db _ rb.out Tryd.underlying32 rfl hib.out ?_))
  refine hS.out.mono ?_
  rintro e W5 ⟨rfl, hB5⟩
  have hS5 := Lib.hid (hKeep.out _ _ hS4.out hB5)
  clear hB5 xa10 xa11 xa12 xa13 xa14 xb10 xb11 xb12 xb13 xb14 ra rb e1 e2 e3 e4 g1 g2 g3 g4
  cases y5
  · go_wp2
    go_ret
    rw [HR.out]
    exact ⟨rfl, hS5.out.1⟩
  obtain ⟨xa10, xa11, xa12, xa13, xa14⟩ := hca.out _ hS5.out.2.1
  obtain ⟨xb10, xb11, xb12, xb13, xb14⟩ := hcb.out _ hS5.out.2.2
  clear xa10 xa12 xa13 xa14 xb10 xb12 xb13 xb14
  replace hQ := Lib.hid (hQ.out W5 (ha.out.2.below hS5.out.1) (hb.out.2.below hS5.out.1))
  go_wp2_with fail
  refine hQ.out.mono ?_
  rintro e W6 ⟨rfl, hB6⟩
  have hS6 := Lib.hid (hKeep.out _ _ hS5.out hB6)
  clear hB6
  go_wp2
  go_ret
  rw [HR.out]
  exact ⟨rfl, hS6.out.1⟩
end Go.Proofs.YtlfdmbfbfadifaaDoor
