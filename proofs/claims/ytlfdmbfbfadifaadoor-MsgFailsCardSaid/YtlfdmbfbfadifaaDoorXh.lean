/-
  Walks of the reference: Same of an error with itself.
-/
import Derived.Test.YtlfdmbfbfadifaaDoorWt
namespace Go.Proofs.YtlfdmbfbfadifaaDoor
open Go.RowKit

set_option maxRecDepth 100000 in
set_option maxHeartbeats 12800000 in
theorem RSame_fail (t e : Int) (w : World) :
    Calls Tryd.prog 28 #[msgV (failM t e), msgV (failM t e)] w fun e' w' => e' = .returned (.bool true) ∧ Below w.heap.size w w' := by
  obtain ⟨W, hW, hB, hKa, hKb⟩ := two_msgs w (failM t e) (failM t e)
  subst hW
  have ra := Lib.hid hKa.stat
  have rb := Lib.hid hKb.stat
  have hi := Lib.hid (info_dirL noD)
  have x0 : (cellsB (failM t e))[0]? = some (.int .i64 107) := rfl
  have x1 : (cellsB (failM t e))[1]? = some (.int .i64 t) := rfl
  have x2 : (cellsB (failM t e))[2]? = some (.int .i64 0) := rfl
  have x3 : (cellsB (failM t e))[3]? = some (.int .i64 0) := rfl
  have x4 : (cellsB (failM t e))[4]? = some (.int .i64 0) := rfl
  have x5 : (cellsB (failM t e))[5]? = some (.int .i64 0) := rfl
  have x6 : (cellsB (failM t e))[6]? = some (.int .i64 0) := rfl
  have x7 : (cellsB (failM t e))[7]? = some (.string (mk [])) := rfl
  have x8 : (cellsB (failM t e))[8]? = some (.string (mk [])) := rfl
  have x9 : (cellsB (failM t e))[9]? = some (.string (mk [])) := rfl
  have x10 : (cellsB (failM t e))[10]? = some (.slice none 0 0) := rfl
  have x11 : (cellsB (failM t e))[11]? = some (.slice none 0 0) := rfl
  have x12 : (cellsB (failM t e))[12]? = some (.int .i64 0) := rfl
  have x13 : (cellsB (failM t e))[13]? = some (.int .i64 0) := rfl
  have x14 : (cellsB (failM t e))[14]? = some (.int .i64 0) := rfl
  have x15 : (cellsB (failM t e))[15]? = some (.int .i64 0) := rfl
  have x16 : (cellsB (failM t e))[16]? = some (.int .i64 0) := rfl
  have x17 : (cellsB (failM t e))[17]? = some (.int .i64 0) := rfl
  have x18 : (cellsB (failM t e))[18]? = some (.string (mk [])) := rfl
  have x19 : (cellsB (failM t e))[19]? = some (.int .i64 0) := rfl
  have x20 : (cellsB (failM t e))[20]? = some (.int .i64 0) := rfl
  have x21 : (cellsB (failM t e))[21]? = some (.string (mk [])) := rfl
  have x35 : (cellsB (failM t e))[35]? = some (.int .i64 e) := rfl
  have x36 : (cellsB (failM t e))[36]? = some (.int .i64 0) := rfl
  have x37 : (cellsB (failM t e))[37]? = some (.int .i64 0) := rfl
  have x38 : (cellsB (failM t e))[38]? = some (.string (mk [])) := rfl
  have hst : (failM t e).st = noD := rfl
  rw [hst] at ra rb
  have e3 : ∀ W, (binOp .eql 30 (.agg #[.int .i64 0, .int .i64 0, .int .i64 0]) (.agg #[.int .i64 0, .int .i64 0, .int .i64 0])).run Tryd.prog W = .ok (.bool true) W := fun W => eql_qid noQ noQ W
  have g3 : ∀ x y W, (eqGuard .eql 30 x y (.agg #[.int .i64 0, .int .i64 0, .int .i64 0]) (.agg #[.int .i64 0, .int .i64 0, .int .i64 0])).run Tryd.prog W = .ok () W := fun x y => guard_qid .eql x y noQ noQ
  have e4 : ∀ W, (binOp .eql 32 (.agg (cellsD noD).toArray) (.agg (cellsD noD).toArray)).run Tryd.prog W = .ok (.bool (eqDD noD noD)) W := eql_dir noD noD
  have g4 : ∀ x y W, (eqGuard .eql 32 x y (.agg (cellsD noD).toArray) (.agg (cellsD noD).toArray)).run Tryd.prog W = .ok () W := fun x y => guard_dir .eql x y noD noD
  rw [eqDD_self] at e4
  replace hB := Lib.hid hB
  unfold msgV
  clear hKa hKb hst
  generalize cellsB (failM t e) = ca at *
  generalize cellsD noD = cd at *
  generalize mk [] = s at *
  have q1 : (t == t) = true := by simp
  have q2 : (e == e) = true := by simp
  have q3 : (s.toList == s.toList) = true := by simp
  go_enter Tryd.func28, Tryd.ntmps28
  go_wp2
  go_loop [28] (fun vi => vi = .int .i64 0) (fun _ => 0)
  case atStart => rfl
  case round =>
    obtain rfl := hrel
    go_wp2
    go_loop [46] (fun vi => vi = .int .i64 0) (fun _ => 0)
    case atStart => rfl
    case round =>
      obtain rfl := hrel
      go_wp2_with (first
        | (refine wpList_gload_mid rfl 32 _ rfl w.heap.size 22 rfl cd _ ra.out Tryd.underlying32 rfl hi.out ?_)
        | (refine wpList_gload_mid rfl 32 _ rfl (w.heap.size + 1) 22 rfl cd _ rb.out Tryd.underlying32 rfl hi.out ?_))
      go_ret
      exact ⟨rfl, hB.out⟩
end Go.Proofs.YtlfdmbfbfadifaaDoor
