/-
  A chain of comparisons joined by 'and' in a plain region, the frame a letter: one lemma a comparison.
-/
import Derived.Test.YtlfdmbfbfadifaaDoorWt
import Derived.Deep.CutRange
namespace Go.Proofs.YtlfdmbfbfadifaaDoor
open Go.RowKit

/-- What a frame still holds: all slots below s but d. -/
structure Kept (s d : Nat) (a a' : Act) : Prop where
  size : a'.tmps.size = a.tmps.size
  slot : ∀ j, j < s → j ≠ d → a'.tmps[j]? = a.tmps[j]?
  defers : a'.defers = a.defers
theorem yld {ops : Array Oper} {tmps : Array Value} {j g : Nat} {r : Bool} (hj : (ops[j]?).bind (·.dst) = some g) (hg : tmps[g]? = some (.bool r)) : yielded ops tmps j = some r := by
  unfold yielded; rw [hj]; simp [hg]
theorem ev_tmp {a : Act} {t : Nat} {v : Value} (h : a.tmps[t]? = some v) : a.eval (.tmp t) = v := by
  simp [Act.eval, Array.getD_eq_getD_getElem?, h]
theorem put_at {a : Act} {d : Nat} {v : Value} (h : d < a.tmps.size) : (a.put (some d) v).tmps[d]? = some v := by
  show (a.tmps.setIfInBounds d v)[d]? = some v
  simp [h]
theorem put_ne {a : Act} {d j : Nat} {v : Value} (h : d ≠ j) : (a.put (some d) v).tmps[j]? = a.tmps[j]? := by
  show (a.tmps.setIfInBounds d v)[j]? = _
  simp [h]
theorem put_size {a : Act} {d : Nat} {v : Value} : (a.put (some d) v).tmps.size = a.tmps.size := by
  show (a.tmps.setIfInBounds d v).size = _
  simp
theorem put_defers {a : Act} {d : Nat} {v : Value} : (a.put (some d) v).defers = a.defers := rfl

section
variable {P : Program} {ops : Array Oper} {Q : Exit → Act → World → Prop} {w : World} {rest : List Oper}
theorem lsY {a : Act} {o : Oper} {d : Nat} (v : Value) (hd : o.dst = some d) (hw : Region.wanted o (yielded ops a.tmps) = true) (he : (execOp a.eval o).run P w = .ok (.value v) w)
    (h : wpList P ops Q rest (a.put (some d) v) w) : wpList P ops Q (o :: rest) a w :=
  wpList_step fun K hK => by
    rw [if_pos hw]
    unfold Oper.wp
    rw [he, ← hd] at *
    exact hK _ _ h
theorem lsN {a : Act} {o : Oper} {d : Nat} (hd : o.dst = some d) (hw : Region.wanted o (yielded ops a.tmps) = false) (h : wpList P ops Q rest (a.put (some d) undef) w) : wpList P ops Q (o :: rest) a w :=
  wpList_step fun K hK => by
    rw [if_neg (by rw [hw]; decide), hd]
    exact hK _ _ h
theorem want_yes {o : Oper} {tmps : Array Value} {j : Nat} (hg : o.guard = some (j, true)) (hy : yielded ops tmps j = some true) : Region.wanted o (yielded ops tmps) = true := by
  unfold Region.wanted; rw [hg]; simp [hy]
theorem want_no {o : Oper} {tmps : Array Value} {j : Nat} (hg : o.guard = some (j, true)) (hy : yielded ops tmps j = some false) : Region.wanted o (yielded ops tmps) = false := by
  unfold Region.wanted; rw [hg]; simp [hy]
theorem want_none {o : Oper} {tmps : Array Value} (hg : o.guard = none) : Region.wanted o (yielded ops tmps) = true := by
  unfold Region.wanted; rw [hg]
theorem xF {ρ : Operand → Value} {o : Oper} {T : TypeId} {x : Operand} {f : Nat} {p u : Value} (ho : o.op = .fieldAddr T x f) (hx : ρ x = u) (h : (Instr.fieldAt T u f).run P w = .ok p w) : (execOp ρ o).run P w = .ok (.value p) w := by
  unfold execOp; simp only [ho, hx, h, Sem.run_bind, Sem.run_pure, Result.andThen_ok]
theorem xL {ρ : Operand → Value} {o : Oper} {T : TypeId} {x : Operand} {p u : Value} (ho : o.op = .load T x) (hx : ρ x = u) (h : (Instr.loadAt T u).run P w = .ok p w) : (execOp ρ o).run P w = .ok (.value p) w := by
  unfold execOp; simp only [ho, hx, h, Sem.run_bind, Sem.run_pure, Result.andThen_ok]
theorem xE {ρ : Operand → Value} {o : Oper} {T U : TypeId} {x y : Operand} {u v : Value} {e : Bool} (ho : o.op = .binOp .eql T x y U) (hx : ρ x = u) (hy : ρ y = v) (hg : (eqGuard .eql T x y u v).run P w = .ok () w) (h : (binOp .eql T u v).run P w = .ok (.bool e) w) : (execOp ρ o).run P w = .ok (.value (.bool e)) w := by
  unfold execOp; simp only [ho, hx, hy, hg, h, Sem.run_bind, Sem.run_pure, Result.andThen_ok]
theorem xP {ρ : Operand → Value} {o : Oper} {x y z : Operand} {r : Bool} (ho : o.op = .pick x y z) (hx : ρ x = .bool r) : (execOp ρ o).run P w = .ok (.value (if r then ρ y else ρ z)) w := by
  unfold execOp; simp only [ho, hx, asBool, Sem.run_bind, Sem.run_pure, Result.andThen_ok]
theorem xM {ρ : Operand → Value} {o : Oper} {x : Operand} {u : Value} (ho : o.op = .move x ∨ o.op = .assign x) (hx : ρ x = u) : (execOp ρ o).run P w = .ok (.value u) w := by
  unfold execOp; rcases ho with ho | ho <;> simp only [ho, hx, Sem.run_pure]
/-- The first comparison. -/
theorem cmp_head {o1 o2 o3 o4 o5 o6 : Oper} {a : Act} {s t1 t2 f : Nat} {T ty U : TypeId} {u1 u2 p1 p2 x1 x2 : Value} {e : Bool}
    (hn : s + 6 ≤ a.tmps.size) (_h1 : t1 < s) (h2 : t2 < s) (q1 : a.tmps[t1]? = some u1) (q2 : a.tmps[t2]? = some u2)
    (a1 : o1.op = .fieldAddr T (.tmp t1) f) (b1 : o1.dst = some s) (c1 : o1.guard = none)
    (a2 : o2.op = .load ty (.tmp s)) (b2 : o2.dst = some (s + 1)) (c2 : o2.guard = none)
    (a3 : o3.op = .fieldAddr T (.tmp t2) f) (b3 : o3.dst = some (s + 2)) (c3 : o3.guard = none)
    (a4 : o4.op = .load ty (.tmp (s + 2))) (b4 : o4.dst = some (s + 3)) (c4 : o4.guard = none)
    (a5 : o5.op = .binOp .eql ty (.tmp (s + 1)) (.tmp (s + 3)) U) (b5 : o5.dst = some (s + 4)) (c5 : o5.guard = none)
    (a6 : o6.op = .move (.tmp (s + 4)) ∨ o6.op = .assign (.tmp (s + 4))) (b6 : o6.dst = some (s + 5)) (c6 : o6.guard = none)
    (e1 : (Instr.fieldAt T u1 f).run P w = .ok p1 w) (e2 : (Instr.loadAt ty p1).run P w = .ok x1 w) (e3 : (Instr.fieldAt T u2 f).run P w = .ok p2 w) (e4 : (Instr.loadAt ty p2).run P w = .ok x2 w)
    (eg : ∀ x y, (eqGuard .eql ty x y x1 x2).run P w = .ok () w) (e5 : (binOp .eql ty x1 x2).run P w = .ok (.bool e) w)
    (h : ∀ a', Kept s (s + 5) a a' → a'.tmps[s + 5]? = some (.bool e) → wpList P ops Q rest a' w) : wpList P ops Q (o1 :: o2 :: o3 :: o4 :: o5 :: o6 :: rest) a w := by
  refine lsY p1 b1 (want_none c1) (xF a1 (ev_tmp q1) e1) ?_
  refine lsY x1 b2 (want_none c2) (xL a2 (ev_tmp (put_at (by omega))) e2) ?_
  refine lsY p2 b3 (want_none c3) (xF a3 (ev_tmp ((put_ne (by omega)).trans ((put_ne (by omega)).trans q2))) e3) ?_
  refine lsY x2 b4 (want_none c4) (xL a4 (ev_tmp (put_at (by simp only [put_size]; omega))) e4) ?_
  refine lsY (.bool e) b5 (want_none c5) (xE a5 (ev_tmp ((put_ne (by omega)).trans ((put_ne (by omega)).trans (put_at (by simp only [put_size]; omega))))) (ev_tmp (put_at (by simp only [put_size]; omega))) (eg _ _) e5) ?_
  refine lsY (.bool e) b6 (want_none c6) (xM a6 (ev_tmp (put_at (by simp only [put_size]; omega)))) ?_
  refine h _ ⟨by simp only [put_size], fun j hj _ => ?_, by simp only [put_defers]⟩ (put_at (by simp only [put_size]; omega))
  rw [put_ne (by omega), put_ne (by omega), put_ne (by omega), put_ne (by omega), put_ne (by omega), put_ne (by omega)]
/-- One more comparison, where all before said yes. -/
theorem cmp_more {o1 o2 o3 o4 o5 o6 o7 : Oper} {a : Act} {s t1 t2 f g j d : Nat} {T ty U : TypeId} {u1 u2 p1 p2 x1 x2 : Value} {r e : Bool}
    (hn : s + 6 ≤ a.tmps.size) (hd : d < a.tmps.size) (_h1 : t1 < s) (h2 : t2 < s) (h3 : g < s) (q1 : a.tmps[t1]? = some u1) (q2 : a.tmps[t2]? = some u2)
    (hj : (ops[j]?).bind (·.dst) = some g) (hg : a.tmps[g]? = some (.bool r))
    (a1 : o1.op = .fieldAddr T (.tmp t1) f) (b1 : o1.dst = some s) (c1 : o1.guard = some (j, true))
    (a2 : o2.op = .load ty (.tmp s)) (b2 : o2.dst = some (s + 1)) (c2 : o2.guard = some (j, true))
    (a3 : o3.op = .fieldAddr T (.tmp t2) f) (b3 : o3.dst = some (s + 2)) (c3 : o3.guard = some (j, true))
    (a4 : o4.op = .load ty (.tmp (s + 2))) (b4 : o4.dst = some (s + 3)) (c4 : o4.guard = some (j, true))
    (a5 : o5.op = .binOp .eql ty (.tmp (s + 1)) (.tmp (s + 3)) U) (b5 : o5.dst = some (s + 4)) (c5 : o5.guard = some (j, true))
    (a6 : o6.op = .pick (.tmp g) (.tmp (s + 4)) (.const (.bool false))) (b6 : o6.dst = some (s + 5)) (c6 : o6.guard = none)
    (a7 : o7.op = .move (.tmp (s + 5)) ∨ o7.op = .assign (.tmp (s + 5))) (b7 : o7.dst = some d) (c7 : o7.guard = none)
    (e1 : (Instr.fieldAt T u1 f).run P w = .ok p1 w) (e2 : (Instr.loadAt ty p1).run P w = .ok x1 w) (e3 : (Instr.fieldAt T u2 f).run P w = .ok p2 w) (e4 : (Instr.loadAt ty p2).run P w = .ok x2 w)
    (eg : ∀ x y, (eqGuard .eql ty x y x1 x2).run P w = .ok () w) (e5 : (binOp .eql ty x1 x2).run P w = .ok (.bool e) w)
    (h : ∀ a', Kept s d a a' → a'.tmps[d]? = some (.bool (r && e)) → wpList P ops Q rest a' w) : wpList P ops Q (o1 :: o2 :: o3 :: o4 :: o5 :: o6 :: o7 :: rest) a w := by
  have g1 : ∀ v, (a.put (some s) v).tmps[g]? = some (.bool r) := fun v => (put_ne (by omega)).trans hg
  have g2 : ∀ v v2, ((a.put (some s) v).put (some (s + 1)) v2).tmps[g]? = some (.bool r) := fun v v2 => (put_ne (by omega)).trans (g1 v)
  have g3 : ∀ v v2 v3, (((a.put (some s) v).put (some (s + 1)) v2).put (some (s + 2)) v3).tmps[g]? = some (.bool r) := fun v v2 v3 => (put_ne (by omega)).trans (g2 v v2)
  have g4 : ∀ v v2 v3 v4, ((((a.put (some s) v).put (some (s + 1)) v2).put (some (s + 2)) v3).put (some (s + 3)) v4).tmps[g]? = some (.bool r) := fun v v2 v3 v4 => (put_ne (by omega)).trans (g3 v v2 v3)
  have g5 : ∀ v v2 v3 v4 v5, (((((a.put (some s) v).put (some (s + 1)) v2).put (some (s + 2)) v3).put (some (s + 3)) v4).put (some (s + 4)) v5).tmps[g]? = some (.bool r) := fun v v2 v3 v4 v5 => (put_ne (by omega)).trans (g4 v v2 v3 v4)
  cases r with
  | false =>
    refine lsN b1 (want_no c1 (yld hj hg)) ?_
    refine lsN b2 (want_no c2 (yld hj (g1 _))) ?_
    refine lsN b3 (want_no c3 (yld hj (g2 _ _))) ?_
    refine lsN b4 (want_no c4 (yld hj (g3 _ _ _))) ?_
    refine lsN b5 (want_no c5 (yld hj (g4 _ _ _ _))) ?_
    refine lsY (.bool false) b6 (want_none c6) (xP a6 (ev_tmp (g5 _ _ _ _ _))) ?_
    refine lsY (.bool false) b7 (want_none c7) (xM a7 (ev_tmp (put_at (by simp only [put_size]; omega)))) ?_
    refine h _ ⟨by simp only [put_size], fun j hj hd => ?_, by simp only [put_defers]⟩ (put_at (by simp only [put_size]; omega))
    rw [put_ne (by omega), put_ne (by omega), put_ne (by omega), put_ne (by omega), put_ne (by omega), put_ne (by omega), put_ne (by omega)]
  | true =>
    refine lsY p1 b1 (want_yes c1 (yld hj hg)) (xF a1 (ev_tmp q1) e1) ?_
    refine lsY x1 b2 (want_yes c2 (yld hj (g1 _))) (xL a2 (ev_tmp (put_at (by omega))) e2) ?_
    refine lsY p2 b3 (want_yes c3 (yld hj (g2 _ _))) (xF a3 (ev_tmp ((put_ne (by omega)).trans ((put_ne (by omega)).trans q2))) e3) ?_
    refine lsY x2 b4 (want_yes c4 (yld hj (g3 _ _ _))) (xL a4 (ev_tmp (put_at (by simp only [put_size]; omega))) e4) ?_
    refine lsY (.bool e) b5 (want_yes c5 (yld hj (g4 _ _ _ _))) (xE a5 (ev_tmp ((put_ne (by omega)).trans ((put_ne (by omega)).trans (put_at (by simp only [put_size]; omega))))) (ev_tmp (put_at (by simp only [put_size]; omega))) (eg _ _) e5) ?_
    refine lsY (.bool e) b6 (want_none c6) ((xP a6 (ev_tmp (g5 _ _ _ _ _))).trans ?_) ?_
    · rw [if_pos rfl, ev_tmp (put_at (by simp only [put_size]; omega))]
    refine lsY (.bool e) b7 (want_none c7) (xM a7 (ev_tmp (put_at (by simp only [put_size]; omega)))) ?_
    refine h _ ⟨by simp only [put_size], fun j hj hd => ?_, by simp only [put_defers]⟩ ((put_at (by simp only [put_size]; omega)).trans (by rw [Bool.true_and]))
    rw [put_ne (by omega), put_ne (by omega), put_ne (by omega), put_ne (by omega), put_ne (by omega), put_ne (by omega), put_ne (by omega)]
/-- Two Bools of the frame joined. -/
theorem and_head {o1 o2 o3 o4 o5 : Oper} {a : Act} {s t1 t2 j : Nat} {r e : Bool} (hn : s + 5 ≤ a.tmps.size) (_h1 : t1 < s) (h2 : t2 < s) (q1 : a.tmps[t1]? = some (.bool r)) (q2 : a.tmps[t2]? = some (.bool e))
    (hj : (ops[j]?).bind (·.dst) = some (s + 1))
    (a1 : o1.op = .move (.tmp t1)) (b1 : o1.dst = some s) (c1 : o1.guard = none)
    (a2 : o2.op = .move (.tmp s)) (b2 : o2.dst = some (s + 1)) (c2 : o2.guard = none)
    (a3 : o3.op = .move (.tmp t2)) (b3 : o3.dst = some (s + 2)) (c3 : o3.guard = some (j, true))
    (a4 : o4.op = .pick (.tmp (s + 1)) (.tmp (s + 2)) (.const (.bool false))) (b4 : o4.dst = some (s + 3)) (c4 : o4.guard = none)
    (a5 : o5.op = .move (.tmp (s + 3))) (b5 : o5.dst = some (s + 4)) (c5 : o5.guard = none)
    (h : ∀ a', Kept s (s + 4) a a' → a'.tmps[s + 4]? = some (.bool (r && e)) → wpList P ops Q rest a' w) : wpList P ops Q (o1 :: o2 :: o3 :: o4 :: o5 :: rest) a w := by
  refine lsY (.bool r) b1 (want_none c1) (xM (.inl a1) (ev_tmp q1)) ?_
  refine lsY (.bool r) b2 (want_none c2) (xM (.inl a2) (ev_tmp (put_at (by omega)))) ?_
  have hg : ((a.put (some s) (.bool r)).put (some (s + 1)) (.bool r)).tmps[s + 1]? = some (.bool r) := put_at (by simp only [put_size]; omega)
  cases r with
  | false =>
    refine lsN b3 (want_no c3 (yld hj hg)) ?_
    refine lsY (.bool false) b4 (want_none c4) (xP a4 (ev_tmp ((put_ne (by omega)).trans hg))) ?_
    refine lsY (.bool false) b5 (want_none c5) (xM (.inl a5) (ev_tmp (put_at (by simp only [put_size]; omega)))) ?_
    refine h _ ⟨by simp only [put_size], fun j hj hd => ?_, by simp only [put_defers]⟩ (put_at (by simp only [put_size]; omega))
    rw [put_ne (by omega), put_ne (by omega), put_ne (by omega), put_ne (by omega), put_ne (by omega)]
  | true =>
    refine lsY (.bool e) b3 (want_yes c3 (yld hj hg)) (xM (.inl a3) (ev_tmp ((put_ne (by omega)).trans ((put_ne (by omega)).trans q2)))) ?_
    refine lsY (.bool e) b4 (want_none c4) ((xP a4 (ev_tmp ((put_ne (by omega)).trans hg))).trans ?_) ?_
    · rw [if_pos rfl, ev_tmp (put_at (by simp only [put_size]; omega))]
    refine lsY (.bool e) b5 (want_none c5) (xM (.inl a5) (ev_tmp (put_at (by simp only [put_size]; omega)))) ?_
    refine h _ ⟨by simp only [put_size], fun j hj hd => ?_, by simp only [put_defers]⟩ ((put_at (by simp only [put_size]; omega)).trans (by rw [Bool.true_and]))
    rw [put_ne (by omega), put_ne (by omega), put_ne (by omega), put_ne (by omega), put_ne (by omega)]
end
end Go.Proofs.YtlfdmbfbfadifaaDoor
