/-
  slices.Backward over a list of nodes: its iterator.
-/
import Derived.Test.YtalhkoolpnmcdaaAm
import Derived.RangeFuncNested
import Derived.RangeFuncBox
import Derived.RangeFuncCalls
import Derived.RangeFuncLeaves
import Derived.Shelf.Abstract
import Derived.Shelf.RegionOpen
import Derived.WalkKit
import Derived.OwnWalkIn
import Derived.TacticsInMore
import Derived.LoopNIn
import Derived.LoopIn
namespace Go.Proofs.Ytalhkoolpnmcdaa
open Go.RowKit
attribute [local go_sem] Oper.semAt_some

/-- A whole struct out of a range of cells, within a fence. -/
theorem wpListIn_load_mid {F : Fence} {n : Nat} {P : Program} {ops : Array Oper} {rest : List Oper} {o : Oper} {a : Act} {w : World} {Q : Exit → Act → World → Prop} (hgd : o.guard = none) (ty : TypeId) (x : Operand) (ho : o.op = .load ty x)
    (b p : Nat) (hx : a.eval x = .pointer (some ⟨b, p, none⟩)) (cs : List Value) (d : TypeDesc) (hc : w.rangeAt b p cs) (hu : P.underlying ty = some d) (hd : d.isRow = true) (hi : (P.info? ty).map (·.size) = some cs.length)
    (h : wpListIn F n P ops Q rest (a.put o.dst (.agg cs.toArray)) w) : wpListIn F n P ops Q (o :: rest) a w := by
  refine wpListIn_plain hgd fun K hK' => ?_
  unfold Oper.wpIn
  refine ⟨?_, ?_⟩
  · simp [Oper.about, ho]
  · rw [Oper.semAt_plain F _ _ (by rw [ho]; intro c hc'; cases hc')]
    unfold execOp
    simp only [ho, hx, Instr.loadAt, Instr.sureAddr, Sem.run_bind, Sem.run_pure, Result.andThen_ok, run_loadVar_mid w b p ty cs d hc hu hd hi]
    exact hK' _ _ h
/-- A whole struct into a block, within a fence. -/
theorem wpListIn_store_row {F : Fence} {n : Nat} {P : Program} {ops : Array Oper} {rest : List Oper} {o : Oper} {a : Act} {w : World} {Q : Exit → Act → World → Prop} (hgd : o.guard = none) (ty : TypeId) (x y : Operand) (ho : o.op = .store ty x y)
    (g : Nat) (cells : Array Value) (hx : a.eval x = .pointer (some ⟨g, 0, none⟩)) (hy : a.eval y = .agg cells)
    (t : TypeId) (old : Array Value) (hg : w.heap[g]? = some (.cells old t (0, 0))) (hi : (P.info? ty).map (·.size) = some cells.size) (hold : old.size = cells.size) (h1 : cells.all (·.oneCell') = true)
    (h : wpListIn F n P ops Q rest (a.put o.dst undef) (w.setRow g cells)) : wpListIn F n P ops Q (o :: rest) a w := by
  refine wpListIn_plain hgd fun K hK' => ?_
  unfold Oper.wpIn
  refine ⟨?_, ?_⟩
  · simp [Oper.about, ho]
  · rw [Oper.semAt_plain F _ _ (by rw [ho]; intro c hc'; cases hc')]
    unfold execOp
    simp only [ho, hx, hy, Instr.storeAt, Instr.sureAddr, Sem.run_bind, Sem.run_pure, Result.andThen_ok, run_storeVar_row w g t ty old cells hg hi hold h1]
    exact hK' _ _ h

theorem Backward_any (v : Value) (w : World) (hv : v.oneCell' = true) :
    Calls Try.prog 49 #[v] w fun e w' => e = .returned (.func (.func 82) #[] #[.pointer (some ⟨w.heap.size, 0, none⟩)]) ∧ w' = w.alloc (.cells #[v] 24) := by
  cases v <;> first | (simp [Value.oneCell'] at hv; done) | skip
  all_goals
    go_enter Try.func49, Try.ntmps49
    go_wp2
    go_ret
    exact ⟨rfl, rfl⟩

/-- What a round keeps: what lies below m, and the iterator's box. -/
def KpB (m Bs : Nat) (A B : World) : Prop := Below m A B ∧ B.heap[Bs]? = A.heap[Bs]?
theorem KpB.refl (m Bs : Nat) (A : World) : KpB m Bs A A := ⟨Below.refl _ _, rfl⟩
theorem KpB.trans {m Bs : Nat} {A B C : World} (h : KpB m Bs A B) (h2 : KpB m Bs B C) : KpB m Bs A C := ⟨h.1.trans h2.1, h2.2.trans h.2⟩

/-- The numbers that have been yielded when k are left. -/
def downL (n k : Nat) : List Nat := (List.range n).reverse.take (n - k)
theorem downL_start (n : Nat) : downL n n = [] := by simp [downL]
theorem downL_end (n : Nat) : downL n 0 = (List.range n).reverse := by unfold downL; exact List.take_of_length_le (by simp)
theorem downL_step {n k : Nat} (h : k + 1 ≤ n) : downL n (k + 1) ++ [k] = downL n k := by
  unfold downL
  have h1 : (List.range n).reverse[n - (k + 1)]? = some k := by
    rw [List.getElem?_reverse (by simp; omega), show (List.range n).length - 1 - (n - (k + 1)) = k by simp; omega]
    exact List.getElem?_range (by omega)
  rw [show n - k = (n - (k + 1)) + 1 by omega, List.take_add_one, h1]
  rfl
theorem downL_len {n k : Nat} (h : k + 1 ≤ n) : (downL n (k + 1)).length < n := by unfold downL; simp; omega

set_option maxRecDepth 100000 in
set_option maxHeartbeats 3200000 in
theorem back_seq (n : Nat) (hn : 1 ≤ n) (m Bs : Nat) (v : Value) (L : List ND) (w0 w : World) (hm : w0.heap.size ≤ m) (hmw : m ≤ w.heap.size) (hr : NRow w0 v L) (hB0 : Below m w0 w) (hl : L.length ≤ 1000000) (hb : Boxed w Bs 24 v) :
    SeqStopsK Fence.wide n Try.prog 82 #[.pointer (some ⟨Bs, 0, none⟩)] (fun k : Nat => #[.int .i64 (k : Int), nodeV (getN L k)]) (KpB m Bs) (fun xs => xs = (List.range L.length).reverse) (fun _ => True) L.length w := by
  intro l J Jx W hWW _ _ hY h0
  have hbW : Boxed W Bs 24 v := (hWW.block Bs hb.lt).trans hb
  have hBW : Below w0.heap.size w0 W := (hB0.mono hm).trans (hWW.mono (Nat.le_trans hm hmw))
  have HY := Lib.hid hY
  have HK := Lib.hid (KpB.refl m Bs W)
  have HJ0 := Lib.hid h0
  have HR := Lib.hid hr
  have HBW := Lib.hid hBW
  have HbW := Lib.hid hbW
  have hmW := Lib.hid hm
  clear hY h0 hB0 hWW hBW
  show CallsIn Fence.wide n Try.prog 82 #[.func (.yield l) #[] #[], .pointer (some ⟨Bs, 0, none⟩)] W fun e W' => (∃ v, e = .returned v) ∧ ((∃ xs, xs = (List.range L.length).reverse ∧ J xs W') ∨ (∃ pre : List Nat, True ∧ Jx pre W'))
  obtain ⟨q, cap, rfl, hc, hmx, _⟩ := hr
  unfold maxLen at hmx
  have hw1 : IntKind.i64.wrap ((L.length : Int) - 1) = (L.length : Int) - 1 := IntWalk.i64_in _ (by omega)
  refine callsIn_of_wp Try.func82 rfl trivial ?_ rfl
  simp only [Try.ntmps82, List.size_toArray, List.length_cons, List.length_nil, Nat.reduceAdd, Nat.reduceSub, Array.replicate_succ, Array.replicate_zero, List.push_toArray, List.append_toArray, List.nil_append, List.cons_append]
  have c0 := hbW.cell
  clear hbW hm
  gi_wp2
  gi_loopw [3] (fun p wr => ∃ k : Nat, p = .int .i64 ((k : Int) - 1) ∧ k ≤ L.length ∧ Hid (J (downL L.length k) wr) ∧ Hid (KpB m Bs W wr)) (fun p _ => (intOf p + 1).toNat)
  case atStart => exact ⟨L.length, rfl, Nat.le_refl _, by rw [Hid, downL_start]; exact HJ0.out, HK⟩
  case round =>
    obtain ⟨k, rfl, hk, HJ, HKr⟩ := hrel
    clear c0
    have c0 : wr.cell? ⟨Bs, 0, none⟩ = some (.slice q L.length cap) := (show Boxed wr Bs 24 _ from HKr.out.2.trans HbW.out).cell
    cases k with
    | zero =>
      rw [Hid, downL_end] at HJ
      have HJe := Lib.hid HJ
      clear HJ
      gi_wp2
      go_end0
      exact ⟨⟨_, rfl⟩, .inl ⟨_, rfl, HJe.out⟩⟩
    | succ k =>
      have hkl : k < L.length := hk
      obtain ⟨b, o, cap', hv, hbb, hcl, _, hrr⟩ := HR.out.form (by omega)
      obtain ⟨rfl, rfl⟩ : q = some ⟨b, o, none⟩ ∧ cap = cap' := by injection hv with h1 h2 h3; exact ⟨h1, h3⟩
      have hrg := Lib.hid (hrr wr (HBW.out.trans (HKr.out.1.mono hmW.out)) k hkl)
      have e1 : ((k + 1 : Nat) : Int) - 1 = (k : Int) := by omega
      have hw2 : IntKind.i64.wrap ((k : Int) - 1) = (k : Int) - 1 := IntWalk.i64_in _ (by omega)
      have k0 : (0 : Int) ≤ (k : Int) := by omega
      have k1 : (k : Int) < (L.length : Int) := by omega
      obtain ⟨fn, tmps, assign, body, hy, hRR⟩ := HY.out (downL L.length (k + 1)) k wr HJ.out (downL_len hk)
      have HRR := Lib.hid hRR
      simp only [nodeV, cellsA] at hy
      have HST := Lib.hid (downL_step hk)
      clear hRR hv hbb hrr hkl hw1
      simp only [e1]
      gi_wp2_with (refine wpListIn_load_mid rfl 31 _ rfl b (o + k * 11) rfl (cellsN (getN L k)) _ hrg.out Try.underlying31 rfl (by kernel_rfl) ?_)
      refine HRR.out.mono ?_
      rintro e W3 (⟨rfl, hJ3, hk3⟩ | ⟨rfl, hJx3⟩)
      · rw [HST.out] at hJ3
        have HJ3 := Lib.hid hJ3
        have HK3 := Lib.hid (HKr.out.trans hk3)
        clear hJ3 hk3
        gi_wp2
        go_roundw
        case rel => exact ⟨k, rfl, by omega, HJ3.out, HK3.out⟩
        case measure => simp [intOf]
      · have HX3 := Lib.hid hJx3
        clear hJx3
        gi_wp2
        refine bodyPost_ret (results_none rfl _ _ _) rfl ?_
        exact ⟨⟨_, rfl⟩, .inr ⟨_, trivial, HX3.out⟩⟩
end Go.Proofs.Ytalhkoolpnmcdaa
