/-
  Walks: None and Changes, the program's and the reference's; two descriptions compared.
-/
import Derived.Test.YtinjnbcikoejkaaDoorSf
import Derived.Laws.StructEq
import Derived.BigQuiet
namespace Go.Proofs.YtinjnbcikoejkaaDoor
open Go.RowKit

theorem cellsA_setN (d : DD) {k : Nat} (hk : k < 9) (v : Int) : (cellsA d).setIfInBounds k (.int .i64 v) = cellsA (setN d k v) := by
  rcases k9 hk with rfl | rfl | rfl | rfl | rfl | rfl | rfl | rfl | rfl <;> rfl
theorem cellsA_setT (d : DD) {k : Nat} (hk : k < 4) (x : List UInt8) : (cellsA d).setIfInBounds (9 + k) (.string (mk x)) = cellsA (setT d k x) := by
  rcases k4 hk with rfl | rfl | rfl | rfl <;> rfl
theorem BlkD.setN {w : World} {b : Nat} {d : DD} (h : BlkD w b d) {k : Nat} (hk : k < 9) (v : Int) : BlkD (w.setCell ⟨b, k, none⟩ (.int .i64 v)) b (setN d k v) := by
  have := heap_setCell_same w b k (cellsA d) 25 (.int .i64 v) h
  rw [cellsA_setN d hk v] at this
  exact this
theorem BlkD.setT {w : World} {b : Nat} {d : DD} (h : BlkD w b d) {k : Nat} (hk : k < 4) (x : List UInt8) : BlkD (w.setCell ⟨b, 9 + k, none⟩ (.string (mk x))) b (setT d k x) := by
  have := heap_setCell_same w b (9 + k) (cellsA d) 25 (.string (mk x)) h
  rw [cellsA_setT d hk x] at this
  exact this
theorem BlkD.apart {w : World} {b : Nat} {d : DD} (h : BlkD w b d) {a : Addr} (ha : b ≠ a.block) (v : Value) : BlkD (w.setCell a v) b d := (heap_setCell_other w a b v ha).trans h
theorem BlkD.setRow {w : World} {b : Nat} {d : DD} (h : BlkD w b d) (e : DD) : BlkD (w.setRow b (cellsA e)) b e := setRow_heap w b _ _ _ _ h
theorem below_setRow {B : Nat} {a w : World} (h : Below B a w) {g : Nat} (hg : B ≤ g) (cs : Array Value) : Below B a (w.setRow g cs) :=
  ⟨h.os, h.tape, h.output, by simp [World.setRow]; exact h.size, fun k hk => by
    have := h.block k hk
    rw [← this]
    simp only [World.setRow, Array.getElem?_modify]
    rw [if_neg (by omega)]⟩

/-- Two descriptions are the same. -/
def eqB (d e : DD) : Bool := d.ty == e.ty && (d.dv == e.dv && ((d.qt == e.qt && (d.qv == e.qv && d.qp == e.qp)) && (d.mo == e.mo && (d.ai == e.ai && (d.mi == e.mi && (d.ln == e.ln &&
  (d.nm == e.nm && (d.ui == e.ui && (d.gi == e.gi && d.mu == e.mu)))))))))
theorem eqB_self (d : DD) : eqB d d = true := by simp [eqB]

theorem eqF_cons {P : Program} {n : Nat} {f : Field} {fs : List Field} {xs ys : Array Value} {a b : Value} {r s : Bool} {w : World} (hn : (f.name == "_") = false) (ha : (part f.type xs f.offset).run P w = .ok a w)
    (hb : (part f.type ys f.offset).run P w = .ok b w) (he : (Op.equalIn n f.type a b).run P w = .ok r w) (hs : (Op.eqFields n xs ys fs).run P w = .ok s w) : (Op.eqFields n xs ys (f :: fs)).run P w = .ok (r && s) w := by
  have hn' : f.name ≠ "_" := by simpa using hn
  simp only [Op.eqFields, Sem.run_bind, Sem.run_ite, ha, hb, he, Result.andThen_ok]
  cases r
  · simp [hn']
  · simpa [hn'] using hs
theorem part_int (d : DD) (w : World) {k : Nat} {v : Int} (h : (cellsA d)[k]? = some (.int .i64 v)) : (part 3 (cellsA d) k).run Tryd.prog w = .ok (.int .i64 v) w := by
  have := (show (isAgg 3).run Tryd.prog w = .ok false w by kernel_rfl)
  simp [part, Sem.run_bind, this, h]
theorem part_str (d : DD) (w : World) {k : Nat} {v : List UInt8} (h : (cellsA d)[k]? = some (.string (mk v))) : (part 9 (cellsA d) k).run Tryd.prog w = .ok (.string (mk v)) w := by
  have := (show (isAgg 9).run Tryd.prog w = .ok false w by kernel_rfl)
  simp [part, Sem.run_bind, this, h]
theorem part_qid (d : DD) (w : World) : (part 23 (cellsA d) 2).run Tryd.prog w = .ok (.agg #[.int .i64 d.qt, .int .i64 d.qv, .int .i64 d.qp]) w := by
  show _ = _
  kernel_rfl
theorem eq_int (a b : Int) (n : Nat) (w : World) : (Op.equalIn (n + 1) 3 (.int .i64 a) (.int .i64 b)).run Tryd.prog w = .ok (a == b) w := run_equalIn_int w n _ _ _ _ _ Tryd.underlying3
theorem eq_str (a b : List UInt8) (n : Nat) (w : World) : (Op.equalIn (n + 1) 9 (.string (mk a)) (.string (mk b))).run Tryd.prog w = .ok (a == b) w := by
  rw [run_equalIn_string w n _ _ _ Tryd.underlying9, mk_toList, mk_toList]
theorem eqF_nil {P : Program} {n : Nat} {xs ys : Array Value} {w : World} : (Op.eqFields n xs ys []).run P w = .ok true w := by simp [Op.eqFields]
theorem part_q (a b c : Int) (w : World) {k : Nat} {v : Int} (h : (#[.int .i64 a, .int .i64 b, .int .i64 c] : Array Value)[k]? = some (.int .i64 v)) : (part 3 #[.int .i64 a, .int .i64 b, .int .i64 c] k).run Tryd.prog w = .ok (.int .i64 v) w := by
  have := (show (isAgg 3).run Tryd.prog w = .ok false w by kernel_rfl)
  simp [part, Sem.run_bind, this, h]
theorem equal_qid (a b c a' b' c' : Int) (n : Nat) (w : World) : (Op.equalIn (n + 2) 23 (.agg #[.int .i64 a, .int .i64 b, .int .i64 c]) (.agg #[.int .i64 a', .int .i64 b', .int .i64 c'])).run Tryd.prog w = .ok (a == a' && (b == b' && (c == c' && true))) w := by
  rw [run_equalIn_agg w _ _ _ _ (by kernel_rfl) (by kernel_rfl)]
  unfold Program.fieldsOf
  rw [Tryd.underlying23]
  exact eqF_cons rfl (part_q _ _ _ _ rfl) (part_q _ _ _ _ rfl) (eq_int _ _ _ _) (eqF_cons rfl (part_q _ _ _ _ rfl) (part_q _ _ _ _ rfl) (eq_int _ _ _ _) (eqF_cons rfl (part_q _ _ _ _ rfl) (part_q _ _ _ _ rfl) (eq_int _ _ _ _) eqF_nil))

theorem equal_dir (d e : DD) (n : Nat) (w : World) : (Op.equalIn (n + 3) 25 (.agg (cellsA d)) (.agg (cellsA e))).run Tryd.prog w = .ok (eqB d e) w := by
  rw [run_equalIn_agg w _ _ _ _ (by kernel_rfl) (by kernel_rfl)]
  unfold Program.fieldsOf
  rw [Tryd.underlying25]
  dsimp only
  refine Eq.trans (eqF_cons rfl (part_int d w rfl) (part_int e w rfl) (eq_int _ _ (n + 1) w) (eqF_cons rfl (part_int d w rfl) (part_int e w rfl) (eq_int _ _ (n + 1) w) (eqF_cons rfl (part_qid d w) (part_qid e w) (equal_qid _ _ _ _ _ _ n w) (eqF_cons rfl (part_int d w rfl) (part_int e w rfl) (eq_int _ _ (n + 1) w) (eqF_cons rfl (part_int d w rfl) (part_int e w rfl) (eq_int _ _ (n + 1) w) (eqF_cons rfl (part_int d w rfl) (part_int e w rfl) (eq_int _ _ (n + 1) w) (eqF_cons rfl (part_int d w rfl) (part_int e w rfl) (eq_int _ _ (n + 1) w) (eqF_cons rfl (part_str d w rfl) (part_str e w rfl) (eq_str _ _ (n + 1) w) (eqF_cons rfl (part_str d w rfl) (part_str e w rfl) (eq_str _ _ (n + 1) w) (eqF_cons rfl (part_str d w rfl) (part_str e w rfl) (eq_str _ _ (n + 1) w) (eqF_cons rfl (part_str d w rfl) (part_str e w rfl) (eq_str _ _ (n + 1) w) (eqF_nil)))))))))))) ?_
  unfold eqB
  simp only [Bool.and_true]
theorem eql_dir (d e : DD) (w : World) : (binOp .eql 25 (.agg (cellsA d)) (.agg (cellsA e))).run Tryd.prog w = .ok (.bool (eqB d e)) w := by
  rw [run_eql_struct, equal_dir d e 9997 w]; rfl
theorem neq_dir (d e : DD) (w : World) : (binOp .neq 25 (.agg (cellsA d)) (.agg (cellsA e))).run Tryd.prog w = .ok (.bool (!(eqB d e))) w := by
  rw [run_neq_struct, equal_dir d e 9997 w]; rfl
theorem guard_dir (op : BinOp) (x y : Operand) (d e : DD) (w : World) : (eqGuard op 25 x y (.agg (cellsA d)) (.agg (cellsA e))).run Tryd.prog w = .ok () w :=
  run_eqGuard_agg w op _ x y _ _ (by kernel_rfl)

/-! ### None -/
def noneD : DD := ⟨-1, -1, -1, -1, -1, -1, -1, -1, -1, [], [], [], []⟩
/-- Its first k numbers are Keep. -/
def keepD : Nat → DD
  | 0 => noD
  | k + 1 => setN (keepD k) k (-1)

set_option maxRecDepth 100000 in
set_option maxHeartbeats 3200000 in
theorem None_any (w : World) :
    Calls Tryd.prog 21 #[] w fun e w' => e = .returned (dirV noneD) ∧ Below w.heap.size w w' := by
  have hz : Hid (∀ W : World, W.alloc (.cells #[.int .i64 0, .int .i64 0, .int .i64 0, .int .i64 0, .int .i64 0, .int .i64 0, .int .i64 0, .int .i64 0, .int .i64 0, .string ⟨#[]⟩, .string ⟨#[]⟩, .string ⟨#[]⟩, .string ⟨#[]⟩] 25) = W.alloc (.cells (cellsA noD) 25)) := fun _ => rfl
  have hB0 : Below w.heap.size w ((w.alloc (.cells (cellsA noD) 25)).alloc (.cells (cellsA noD) 25)) := ((Below.refl _ w).alloc (Nat.le_refl _) _).alloc (by simp) _
  have hK0 : BlkD ((w.alloc (.cells (cellsA noD) 25)).alloc (.cells (cellsA noD) 25)) w.heap.size noD := (BlkD.new w noD).alloc _
  have hK1 : BlkD ((w.alloc (.cells (cellsA noD) 25)).alloc (.cells (cellsA noD) 25)) (w.heap.size + 1) noD := by
    have h := BlkD.new (w.alloc (.cells (cellsA noD) 25)) noD
    rwa [show (w.alloc (.cells (cellsA noD) 25)).heap.size = w.heap.size + 1 by simp] at h
  have hsz : ((w.alloc (.cells (cellsA noD) 25)).alloc (.cells (cellsA noD) 25)).heap.size = w.heap.size + 2 := by simp
  generalize hW : (w.alloc (.cells (cellsA noD) 25)).alloc (.cells (cellsA noD) 25) = W at hB0 hK0 hK1 hsz
  replace hW := Lib.hid hW
  replace hB0 := Lib.hid hB0
  replace hK0 := Lib.hid hK0
  replace hK1 := Lib.hid hK1
  replace hsz := Lib.hid hsz
  go_enter Tryd.func21, Tryd.ntmps21
  go_wp2_with fail
  simp only [hz.out, hW.out]
  refine (numbersOf_any _ _).mono ?_
  rintro e w1 ⟨rfl, hB1⟩
  have HB1 := Lib.hid (hB0.out.trans (hB1.mono (by rw [hsz.out]; omega)))
  have HK0 := Lib.hid (hK0.out.below hB1 (by rw [hsz.out]; omega))
  have HK1 := Lib.hid (hK1.out.below hB1 (by rw [hsz.out]; omega))
  clear hB1 hz hW hB0 hK0 hK1 hsz
  go_wp2
  go_loopw [5] (fun vk wr => ∃ k : Nat, vk = .int .i64 (k : Int) ∧ k ≤ 9 ∧ Hid (Below w.heap.size w wr) ∧ Hid (BlkD wr w.heap.size noD) ∧ Hid (BlkD wr (w.heap.size + 1) (keepD k))) (fun vk _ => 9 - (intOf vk).toNat)
  case atStart => exact ⟨0, rfl, by omega, HB1.out, HK0.out, HK1.out⟩
  case round =>
    obtain ⟨k, rfl, hk, hB, hA, hC⟩ := hrel
    by_cases hlt : k < 9
    · have hix := nums_index (w.heap.size + 1) hlt
      have hc := hC.out.numc hlt
      have hf := hC.out.frozen k
      have HB2 := Lib.hid (hB.out.setCell (p := ⟨w.heap.size + 1, k, none⟩) (Nat.le_succ _) (.int .i64 (-1)))
      have HA2 := Lib.hid (hA.out.apart (a := ⟨w.heap.size + 1, k, none⟩) (by show w.heap.size ≠ w.heap.size + 1; omega) (.int .i64 (-1)))
      have HC2 := Lib.hid (hC.out.setN hlt (-1))
      generalize num (keepD k) k = x at hc
      go_wp2
      exact ⟨⟨k + 1, by go_num, by omega, HB2, HA2, HC2⟩, by simp [intOf]; omega⟩
    · obtain rfl : k = 9 := by omega
      have HX := Lib.hid (hA.out.setRow noneD)
      have hC' : BlkD wr (w.heap.size + 1) noneD := hC.out
      have HC := Lib.hid hC'
      clear hC'
      go_wp2_with (first
        | (refine wpList_load_row rfl 25 _ rfl (w.heap.size + 1) rfl 25 (cellsA noneD) (0, 0) _ HC.out Tryd.underlying25 rfl (by kernel_rfl) ?_)
        | (refine wpList_store_row rfl 25 _ _ rfl w.heap.size (cellsA noneD) rfl rfl 25 (cellsA noD) hA.out (by kernel_rfl) rfl (cellsA_one noneD) ?_))
      refine bodyPost_ret (results_cell_row rfl _ _ w.heap.size 25 (cellsA noneD) (0, 0) _ rfl HX.out Tryd.underlying25 rfl (by kernel_rfl)) rfl ?_
      exact ⟨rfl, below_setRow hB.out (Nat.le_refl _) _⟩

set_option maxRecDepth 100000 in
set_option maxHeartbeats 3200000 in
theorem RNone_any (w : World) :
    Calls Tryd.prog 22 #[] w fun e w' => e = .returned (dirV noneD) ∧ Below w.heap.size w w' := by
  have hz : Hid (∀ W : World, W.alloc (.cells #[.int .i64 0, .int .i64 0, .int .i64 0, .int .i64 0, .int .i64 0, .int .i64 0, .int .i64 0, .int .i64 0, .int .i64 0, .string ⟨#[]⟩, .string ⟨#[]⟩, .string ⟨#[]⟩, .string ⟨#[]⟩] 25) = W.alloc (.cells (cellsA noD) 25)) := fun _ => rfl
  have hB0 : Below w.heap.size w (w.alloc (.cells (cellsA noD) 25)) := (Below.refl _ w).alloc (Nat.le_refl _) _
  have hK0 := BlkD.new w noD
  generalize hW : w.alloc (.cells (cellsA noD) 25) = W at hB0 hK0
  have HX := Lib.hid (hK0.setRow noneD)
  replace hW := Lib.hid hW
  replace hB0 := Lib.hid hB0
  replace hK0 := Lib.hid hK0
  go_enter Tryd.func22, Tryd.ntmps22
  go_wp2_with (simp only [hz.out, hW.out]; refine wpList_store_row rfl 25 _ _ rfl w.heap.size (cellsA noneD) rfl rfl 25 (cellsA noD) hK0.out (by kernel_rfl) rfl (cellsA_one noneD) ?_)
  refine bodyPost_ret (results_cell_row rfl _ _ w.heap.size 25 (cellsA noneD) (0, 0) _ rfl HX.out Tryd.underlying25 rfl (by kernel_rfl)) rfl ?_
  exact ⟨rfl, below_setRow hB0.out (Nat.le_refl _) _⟩
end Go.Proofs.YtinjnbcikoejkaaDoor
