/-
  Structs compared: descriptions, qids.
-/
import Derived.Test.YtlfdmbfbfadifaaDoorWf
import Derived.Test.YtlfdmbfbfadifaaDoorWk
import Derived.Laws.StructEq
import Derived.BigQuiet
namespace Go.Proofs.YtlfdmbfbfadifaaDoor
open Go.RowKit

theorem eqF_cons {P : Program} {n : Nat} {f : Field} {fs : List Field} {xs ys : Array Value} {a b : Value} {r s : Bool} {w : World} (hn : (f.name == "_") = false) (ha : (part f.type xs f.offset).run P w = .ok a w)
    (hb : (part f.type ys f.offset).run P w = .ok b w) (he : (Op.equalIn n f.type a b).run P w = .ok r w) (hs : (Op.eqFields n xs ys fs).run P w = .ok s w) : (Op.eqFields n xs ys (f :: fs)).run P w = .ok (r && s) w := by
  have hn' : f.name ≠ "_" := by simpa using hn
  simp only [Op.eqFields, Sem.run_bind, Sem.run_ite, ha, hb, he, Result.andThen_ok]
  cases r
  · simp [hn']
  · simpa [hn'] using hs
theorem part_int (d : DD) (w : World) {k : Nat} {v : Int} (h : (cellsA d)[k]? = some (.int .i64 v)) : (part 3 (cellsA d) k).run Tryd.prog w = .ok (.int .i64 v) w := by
  have := (show (isAgg 3).run Tryd.prog w = .ok false w by kernel_rfl)
  simp [part, Sem.run_bind, this, h]
theorem part_str (d : DD) (w : World) {k : Nat} {v : List UInt8} (h : (cellsA d)[k]? = some (.string (mk v))) : (part 9 (cellsA d) k).run Tryd.prog w = .ok (.string (mk v)) w := by
  have := (show (isAgg 9).run Tryd.prog w = .ok false w by kernel_rfl)
  simp [part, Sem.run_bind, this, h]
theorem part_qid (d : DD) (w : World) : (part 30 (cellsA d) 2).run Tryd.prog w = .ok (.agg #[.int .i64 d.qt, .int .i64 d.qv, .int .i64 d.qp]) w := by
  show _ = _
  kernel_rfl
theorem eq_int (a b : Int) (n : Nat) (w : World) : (Op.equalIn (n + 1) 3 (.int .i64 a) (.int .i64 b)).run Tryd.prog w = .ok (a == b) w := run_equalIn_int w n _ _ _ _ _ Tryd.underlying3
theorem eq_str (a b : List UInt8) (n : Nat) (w : World) : (Op.equalIn (n + 1) 9 (.string (mk a)) (.string (mk b))).run Tryd.prog w = .ok (a == b) w := by
  rw [run_equalIn_string w n _ _ _ Tryd.underlying9, mk_toList, mk_toList]
theorem eqF_nil {P : Program} {n : Nat} {xs ys : Array Value} {w : World} : (Op.eqFields n xs ys []).run P w = .ok true w := by simp [Op.eqFields]
theorem part_q (a b c : Int) (w : World) {k : Nat} {v : Int} (h : (#[.int .i64 a, .int .i64 b, .int .i64 c] : Array Value)[k]? = some (.int .i64 v)) : (part 3 #[.int .i64 a, .int .i64 b, .int .i64 c] k).run Tryd.prog w = .ok (.int .i64 v) w := by
  have := (show (isAgg 3).run Tryd.prog w = .ok false w by kernel_rfl)
  simp [part, Sem.run_bind, this, h]
theorem equal_qid (a b c a' b' c' : Int) (n : Nat) (w : World) : (Op.equalIn (n + 2) 30 (.agg #[.int .i64 a, .int .i64 b, .int .i64 c]) (.agg #[.int .i64 a', .int .i64 b', .int .i64 c'])).run Tryd.prog w = .ok (eqQ ⟨a, b, c⟩ ⟨a', b', c'⟩) w := by
  rw [run_equalIn_agg w _ _ _ _ (by kernel_rfl) (by kernel_rfl)]
  unfold Program.fieldsOf
  rw [Tryd.underlying30]
  refine Eq.trans (eqF_cons rfl (part_q _ _ _ _ rfl) (part_q _ _ _ _ rfl) (eq_int _ _ _ _) (eqF_cons rfl (part_q _ _ _ _ rfl) (part_q _ _ _ _ rfl) (eq_int _ _ _ _) (eqF_cons rfl (part_q _ _ _ _ rfl) (part_q _ _ _ _ rfl) (eq_int _ _ _ _) eqF_nil))) ?_
  unfold eqQ
  simp only [Bool.and_true]

theorem equal_dir (d e : DD) (n : Nat) (w : World) : (Op.equalIn (n + 3) 32 (.agg (cellsA d)) (.agg (cellsA e))).run Tryd.prog w = .ok (eqDD d e) w := by
  rw [run_equalIn_agg w _ _ _ _ (by kernel_rfl) (by kernel_rfl)]
  unfold Program.fieldsOf
  rw [Tryd.underlying32]
  dsimp only
  refine Eq.trans (eqF_cons rfl (part_int d w rfl) (part_int e w rfl) (eq_int _ _ (n + 1) w) (eqF_cons rfl (part_int d w rfl) (part_int e w rfl) (eq_int _ _ (n + 1) w) (eqF_cons rfl (part_qid d w) (part_qid e w) (equal_qid _ _ _ _ _ _ n w) (eqF_cons rfl (part_int d w rfl) (part_int e w rfl) (eq_int _ _ (n + 1) w) (eqF_cons rfl (part_int d w rfl) (part_int e w rfl) (eq_int _ _ (n + 1) w) (eqF_cons rfl (part_int d w rfl) (part_int e w rfl) (eq_int _ _ (n + 1) w) (eqF_cons rfl (part_int d w rfl) (part_int e w rfl) (eq_int _ _ (n + 1) w) (eqF_cons rfl (part_str d w rfl) (part_str e w rfl) (eq_str _ _ (n + 1) w) (eqF_cons rfl (part_str d w rfl) (part_str e w rfl) (eq_str _ _ (n + 1) w) (eqF_cons rfl (part_str d w rfl) (part_str e w rfl) (eq_str _ _ (n + 1) w) (eqF_cons rfl (part_str d w rfl) (part_str e w rfl) (eq_str _ _ (n + 1) w) (eqF_nil)))))))))))) ?_
  unfold eqDD eqQ
  simp only [Bool.and_true]
theorem eql_dir (d e : DD) (w : World) : (binOp .eql 32 (.agg (cellsA d)) (.agg (cellsA e))).run Tryd.prog w = .ok (.bool (eqDD d e)) w := by
  rw [run_eql_struct, equal_dir d e 9997 w]; rfl
theorem neq_dir (d e : DD) (w : World) : (binOp .neq 32 (.agg (cellsA d)) (.agg (cellsA e))).run Tryd.prog w = .ok (.bool (!(eqDD d e))) w := by
  rw [run_neq_struct, equal_dir d e 9997 w]; rfl
theorem guard_dir (op : BinOp) (x y : Operand) (d e : DD) (w : World) : (eqGuard op 32 x y (.agg (cellsA d)) (.agg (cellsA e))).run Tryd.prog w = .ok () w :=
  run_eqGuard_agg w op _ x y _ _ (by kernel_rfl)


theorem eql_qid (a b : QQ) (w : World) : (binOp .eql 30 (qidV a) (qidV b)).run Tryd.prog w = .ok (.bool (eqQ a b)) w := by
  unfold qidV
  rw [run_eql_struct, equal_qid _ _ _ _ _ _ 9998 w]; rfl
theorem neq_qid (a b : QQ) (w : World) : (binOp .neq 30 (qidV a) (qidV b)).run Tryd.prog w = .ok (.bool (!(eqQ a b))) w := by
  unfold qidV
  rw [run_neq_struct, equal_qid _ _ _ _ _ _ 9998 w]; rfl
theorem guard_qid (op : BinOp) (x y : Operand) (a b : QQ) (w : World) : (eqGuard op 30 x y (qidV a) (qidV b)).run Tryd.prog w = .ok () w :=
  run_eqGuard_agg w op _ x y _ _ (by kernel_rfl)
end Go.Proofs.YtlfdmbfbfadifaaDoor
