/-
  strings.Lines: its iterator, for every loop body that keeps the iterator's own cell.
-/
import Derived.Test.YtadnkbhigcegmaaDoorUq
import Derived.RangeFuncBox
import Derived.RangeFuncCalls
import Derived.RangeFuncLeaves
import Derived.Shelf.Abstract
import Derived.Shelf.RegionOpen
import Derived.WalkKit
import Derived.OwnWalkIn
import Derived.TacticsInMore
import Derived.LoopNIn
import Derived.LoopIn
namespace Go.Proofs.YtadnkbhigcegmaaDoor
open Go.RowKit
attribute [local go_sem] Oper.semAt_some

theorem Lines_any (s : List UInt8) (w : World) :
    Calls Tryd.prog 41 #[.string (mk s)] w fun e w' => e = .returned (.func (.func 48) #[] #[.pointer (some ⟨w.heap.size, 0, none⟩)]) ∧ w' = w.alloc (.cells #[.string (mk s)] 9) := by
  go_enter Tryd.func41, Tryd.ntmps41
  go_wp2
  go_ret
  exact ⟨rfl, rfl⟩

/-- How many bytes the iterator's cell still holds. -/
def boxLen (Bs : Nat) (w : World) : Nat := match w.cell? ⟨Bs, 0, none⟩ with
  | some (.string b) => b.size
  | _ => 0
theorem boxLen_eq {Bs : Nat} {w : World} {t : TypeId} {r : List UInt8} (h : Boxed w Bs t (.string (mk r))) : boxLen Bs w = r.length := by
  unfold boxLen; rw [h.cell]; exact mk_size r
theorem find10 (r : List UInt8) : (∃ a b, r = a ++ 10 :: b ∧ (10 : UInt8) ∉ a) ∨ (10 : UInt8) ∉ r := by
  induction r with
  | nil => right; simp
  | cons c r ih =>
    by_cases hc : c = 10
    · left; exact ⟨[], r, by simp [hc], by simp⟩
    · rcases ih with ⟨a, b, rfl, ha⟩ | h
      · left; exact ⟨c :: a, b, rfl, by simp [ha, Ne.symm hc]⟩
      · right; simp [h, Ne.symm hc]
theorem index10_hit (a b : List UInt8) (h : (10 : UInt8) ∉ a) : Lib.indexByte (a ++ 10 :: b) 10 = (a.length : Int) := by
  induction a with
  | nil => simp [Lib.indexByte]
  | cons c a ih =>
    simp only [List.mem_cons, not_or] at h
    have hc : (c == 10) = false := by simpa using Ne.symm h.1
    rw [List.cons_append, Lib.indexByte, ih h.2]
    simp [hc]
theorem index10_miss (a : List UInt8) (h : (10 : UInt8) ∉ a) : Lib.indexByte a 10 = -1 := by
  induction a with
  | nil => rfl
  | cons c a ih =>
    simp only [List.mem_cons, not_or] at h
    have hc : (c == 10) = false := by simpa using Ne.symm h.1
    rw [Lib.indexByte, ih h.2]
    simp [hc]

theorem IndexByte_hit (a b : List UInt8) (h : (10 : UInt8) ∉ a) (w : World) :
    Calls Tryd.prog 49 #[.string (mk (a ++ 10 :: b)), .int .u8 10] w fun e w' => e = .returned (.int .i64 (a.length : Int)) ∧ w = w' := by
  refine (Tryd.strings_IndexByte (mk (a ++ 10 :: b)) 10 w).mono ?_
  rintro e w' ⟨rfl, rfl⟩
  rw [mk_data]
  have : (10 : Int).toNat.toUInt8 = 10 := by decide
  rw [this, index10_hit a b h]
  exact ⟨rfl, rfl⟩
theorem IndexByte_miss (a : List UInt8) (h : (10 : UInt8) ∉ a) (w : World) :
    Calls Tryd.prog 49 #[.string (mk a), .int .u8 10] w fun e w' => e = .returned (.int .i64 (-1)) ∧ w = w' := by
  refine (Tryd.strings_IndexByte (mk a) 10 w).mono ?_
  rintro e w' ⟨rfl, rfl⟩
  rw [mk_data]
  have : (10 : Int).toNat.toUInt8 = 10 := by decide
  rw [this, index10_miss a h]
  exact ⟨rfl, rfl⟩
theorem pre_lt {s pre : List (List UInt8)} {x : List UInt8} {r : List (List UInt8)} (h : s = pre ++ x :: r) : pre.length < s.length := by rw [h]; simp

set_option maxRecDepth 100000 in
set_option maxHeartbeats 3200000 in
theorem lines1_in (n : Nat) (hn : 1 ≤ n) (l Bs : Nat) (s : List UInt8) (hs : s.length ≤ 100000) (J Jx : List (List UInt8) → World → Prop)
    (hJ : ∀ pre W u, J pre W → J pre (W.setCell ⟨Bs, 0, none⟩ u)) (hJd : ∀ pre W, J pre W → J pre W.drew)
    (hY : ∀ pre x W, J pre W → pre ++ [x] <+: linesL s → YieldAt Fence.wide (n - 1) Tryd.prog l #[.string (mk x)] W fun e W' =>
      (e = .returned (.bool true) ∧ J (pre ++ [x]) W' ∧ W'.heap[Bs]? = W.heap[Bs]?) ∨ (e = .returned (.bool false) ∧ Jx (pre ++ [x]) W'))
    (W : World) (hB : Boxed W Bs 9 (.string (mk s))) (h0 : J [] W) :
    CallsIn Fence.wide n Tryd.prog 48 #[.func (.yield l) #[] #[], .pointer (some ⟨Bs, 0, none⟩)] W fun e W' => (∃ v, e = .returned v) ∧ (J (linesL s) W' ∨ ∃ pre, pre <+: linesL s ∧ Jx pre W') := by
  refine callsIn_of_wp Tryd.func48 rfl trivial ?_ rfl
  simp only [Tryd.ntmps48, List.size_toArray, List.length_cons, List.length_nil, Nat.reduceAdd, Nat.reduceSub, Array.replicate_succ, Array.replicate_zero, List.push_toArray, List.append_toArray, List.nil_append, List.cons_append]
  have HJ := Lib.hid hJ
  have HJd := Lib.hid hJd
  have HY := Lib.hid hY
  clear hJ hJd hY
  generalize hLL : linesL s = LL at *
  have HL0 := Lib.hid hLL
  clear hLL
  gi_wp2
  gi_loopw [3] (fun _ wr => ∃ (pre : List (List UInt8)) (r : List UInt8), Hid (LL = pre ++ linesL r) ∧ Hid (Boxed wr Bs 9 (.string (mk r))) ∧ r.length ≤ 100000 ∧ Hid (J pre wr)) (fun _ wr => boxLen Bs wr)
  case atStart => exact ⟨[], s, HL0.out.symm, hB, hs, h0⟩
  case round =>
    obtain ⟨pre, r, HL, HB, hr, HJ0⟩ := hrel
    have c0 := HB.out.cell
    have f0 := HB.out.frozen
    have hz := mk_size r
    have HM := Lib.hid (boxLen_eq HB.out)
    rcases find10 r with ⟨a, b, rfl, ha⟩ | ha
    · have HE : Hid (LL = (pre ++ [a ++ [10]]) ++ linesL b) := by rw [Hid, HL.out, lines_hit a b ha]; simp
      have HI := Lib.hid (IndexByte_hit a b ha wr)
      have hx1 : (mk (a ++ 10 :: b)).extract 0 (a.length + 1) = mk (a ++ [10]) := by
        rw [← mk_of ((mk (a ++ 10 :: b)).extract 0 (a.length + 1)), Lib.extract_data, mk_data]
        congr 1
        rw [List.drop_zero, Nat.sub_zero, show a ++ 10 :: b = (a ++ [10]) ++ b by simp, List.take_left' (by simp)]
      have hx2 : (mk (a ++ 10 :: b)).extract (a.length + 1) (mk (a ++ 10 :: b)).size = mk b := by
        rw [← mk_of ((mk (a ++ 10 :: b)).extract (a.length + 1) (mk (a ++ 10 :: b)).size), Lib.extract_data, mk_data, mk_size]
        congr 1
        rw [show a ++ 10 :: b = (a ++ [10]) ++ b by simp, List.drop_left' (by simp), List.take_of_length_le (by simp; omega)]
      have hzr : (mk (a ++ 10 :: b)).size = a.length + 1 + b.length := by rw [mk_size]; simp; omega
      have hp : 0 < (mk (a ++ 10 :: b)).size := by omega
      have i1 : (a.length : Int) + 1 ≤ ((mk (a ++ 10 :: b)).size : Int) := by omega
      have i2 : IntKind.i64.wrap ((a.length : Int) + 1) = (a.length : Int) + 1 := IntWalk.i64_in _ (by simp at hr; omega)
      have i3 : ((a.length : Int) + 1).toNat = a.length + 1 := by omega
      have i4 : (0 : Int) ≤ (a.length : Int) + 1 := by omega
      have i5 : (0 : Int) ≤ (a.length : Int) := by omega
      have hal : a.length ≤ 100000 := by simp at hr; omega
      have HZR := Lib.hid hzr
      clear hz hzr
      gi_wp2_with (refine ⟨trivial, ?_⟩; gi_at_call 49; refine (callsIn_wide.2 HI.out).mono ?_; rintro e w' ⟨rfl, rfl⟩)
      gi_region
      obtain ⟨fn, tmps, assign, body, hy, hR⟩ := HY.out pre (a ++ [10]) ((wr.setCell ⟨Bs, 0, none⟩ (.string (mk b))).drew) (HJd.out _ _ (HJ.out _ _ _ HJ0.out)) ⟨_, HE.out.symm⟩
      have HR := Lib.hid hR
      have hb2 : Boxed ((wr.setCell ⟨Bs, 0, none⟩ (.string (mk b))).drew) Bs 9 (.string (mk b)) := HB.out.set (.string (mk b))
      have HB2 := Lib.hid hb2
      clear hR hb2
      gi_wp2
      refine HR.out.mono ?_
      rintro e W3 (⟨rfl, hJ3, hk3⟩ | ⟨rfl, hJx3⟩)
      · have HJ3 := Lib.hid hJ3
        have hb3 : Boxed W3 Bs 9 (.string (mk b)) := hk3.trans HB2.out
        have HB3 := Lib.hid hb3
        clear hJ3 hk3 hb3
        gi_wp2
        go_roundw
        case rel => exact ⟨pre ++ [a ++ [10]], b, HE.out, HB3.out, by simp at hr; omega, HJ3.out⟩
        case measure => rw [boxLen_eq HB3.out, boxLen_eq HB.out]; simp; omega
      · have HX3 := Lib.hid hJx3
        clear hJx3
        gi_wp2
        refine bodyPost_ret (results_none rfl _ _ _) rfl ?_
        exact ⟨⟨_, rfl⟩, .inr ⟨pre ++ [a ++ [10]], ⟨linesL b, HE.out.symm⟩, HX3.out⟩⟩
    · by_cases hr0 : r = []
      · subst hr0
        have HE : Hid (LL = pre) := by rw [Hid, HL.out, lines_nil, List.append_nil]
        have hz0 : (mk []).size = 0 := hz
        gi_wp2
        go_end0
        rw [HE.out]
        exact ⟨⟨_, rfl⟩, .inl HJ0.out⟩
      · have hp : 0 < (mk r).size := by rw [hz]; exact List.length_pos_iff.2 hr0
        have HE : Hid (LL = (pre ++ [r]) ++ linesL []) := by rw [Hid, HL.out, lines_last ha hr0, lines_nil, List.append_nil]
        have HI := Lib.hid (IndexByte_miss r ha wr)
        obtain ⟨fn, tmps, assign, body, hy, hR⟩ := HY.out pre r (wr.setCell ⟨Bs, 0, none⟩ (.string ⟨#[]⟩)) (HJ.out _ _ _ HJ0.out) ⟨_, HE.out.symm⟩
        have HR := Lib.hid hR
        have hb2 := HB.out.set (.string ⟨#[]⟩)
        have hsz : (mk r).size ≤ 100000 := by omega
        have HB2 := Lib.hid hb2
        clear hR hb2 ha hr0 hz
        gi_wp2_with (refine ⟨trivial, ?_⟩; gi_at_call 49; refine (callsIn_wide.2 HI.out).mono ?_; rintro e w' ⟨rfl, rfl⟩)
        refine HR.out.mono ?_
        rintro e W3 (⟨rfl, hJ3, hk3⟩ | ⟨rfl, hJx3⟩)
        · have HJ3 := Lib.hid hJ3
          have hb3 : Boxed W3 Bs 9 (.string (mk [])) := hk3.trans HB2.out
          have HB3 := Lib.hid hb3
          clear hJ3 hk3 hb3
          gi_wp2
          go_roundw
          case rel => exact ⟨pre ++ [r], [], HE.out, HB3.out, by simp, HJ3.out⟩
          case measure => rw [boxLen_eq HB3.out, boxLen_eq HB.out]; rw [mk_size] at hp; simpa using hp
        · have HX3 := Lib.hid hJx3
          clear hJx3
          gi_wp2
          refine bodyPost_ret (results_none rfl _ _ _) rfl ?_
          exact ⟨⟨_, rfl⟩, .inr ⟨pre ++ [r], ⟨[], by rw [HE.out, lines_nil]⟩, HX3.out⟩⟩
end Go.Proofs.YtadnkbhigcegmaaDoor
