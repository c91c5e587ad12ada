/-
  Code, package fault's and the reference's.
-/
import Derived.Test.YtpcohlacmhbclaaFf
import Derived.Deep.QuietTactic
import Derived.BigQuiet
import Derived.IntWalk
namespace Go.Proofs.Ytpcohlacmhbclaa
open Go.RowKit

theorem mk_extract (l : List UInt8) (a b : Nat) : (mk l).extract a b = mk ((l.take b).drop a) := by
  apply ByteArray.ext
  rw [ByteArray.data_extract]
  apply Array.ext'
  rw [Array.toList_extract]
  show l.extract a b = (l.take b).drop a
  rw [List.extract_eq_take_drop, List.drop_take]

theorem below_drewN {B : Nat} {a w : World} (h : Below B a w) (n : Nat) : Below B a (w.drewN n) := ⟨h.os, h.tape, h.output, h.size, h.block⟩

def tup3 (x : List UInt8 × Int × Bool) : Value := .tuple #[.string (mk x.1), .int .i64 x.2.1, .bool x.2.2]

set_option maxRecDepth 100000 in
set_option maxHeartbeats 1600000 in
theorem Code_any (s : List UInt8) (hs : s.length ≤ 200000) (w : World) :
    Calls Try.prog 14 #[.string (mk s)] w fun x w' => x = .returned (tup3 (codeL s)) ∧ Below w.heap.size w w' := by
  have hb : (mk s).size = s.length := mk_size s
  have L := Try.strings_LastIndex (mk s) ⟨#[58, 32]⟩ (by rw [hb]; omega) w
  rw [mk_data, show (⟨#[58, 32]⟩ : ByteArray).data.toList = [58, 32] from rfl] at L
  have hcode : codeL s = codeOf (cutL s (Lib.lastIndex s [58, 32])) := rfl
  rcases lastIndex_bd s with h | ⟨i, h, hi⟩
  · rw [h] at L hcode
    rw [cutL_neg] at hcode
    have F := Lib.hid (Find_any s w)
    have L' := Lib.hid L
    unfold codeOf at hcode
    simp only at hcode
    generalize findL s = r at F hcode
    obtain ⟨r1, r2⟩ := r
    have HC := Lib.hid hcode
    clear L h hcode hb
    go_enter Try.func14, Try.ntmps14
    go_wp2_with fail
    refine L'.out.mono ?_
    rintro x w' ⟨rfl, rfl⟩
    go_wp2_with fail
    refine F.out.mono ?_
    rintro x w1 ⟨rfl, hB⟩
    cases r2 with
    | true =>
      go_wp2_with fail
      go_ret3
      rw [HC.out]
      exact ⟨rfl, hB⟩
    | false =>
      go_wp2_with fail
      go_ret3
      rw [HC.out]
      exact ⟨rfl, hB⟩
  · rw [h] at L hcode
    rw [cutL_pos] at hcode
    have F := Lib.hid (fun w => Find_any (s.drop (i + 2)) w)
    have L' := Lib.hid L
    unfold codeOf at hcode
    simp only at hcode
    generalize findL (s.drop (i + 2)) = r at F hcode
    obtain ⟨r1, r2⟩ := r
    have HC := Lib.hid hcode
    have he1 : (mk s).extract 0 i = mk (s.take i) := by rw [mk_extract]; rfl
    have he2 : (mk s).extract (i + 2) s.length = mk (s.drop (i + 2)) := by rw [mk_extract, List.take_length]
    have HE1 := Lib.hid he1
    have HE2 := Lib.hid he2
    have hi' : i + 2 ≤ (mk s).size := by rw [hb]; exact hi
    have HB := Lib.hid hb
    have hw : IntKind.i64.wrap ((i : Int) + 2) = (i : Int) + 2 := IntWalk.i64_in _ (by omega)
    have hn : ((i : Int) + 2).toNat = i + 2 := by omega
    have h0 : (0 : Int) ≤ (i : Int) + 2 := by omega
    clear L h hcode hb he1 he2
    go_enter Try.func14, Try.ntmps14
    go_wp2_with fail
    refine L'.out.mono ?_
    rintro x w' ⟨rfl, rfl⟩
    go_wp2_with fail
    go_quiet (fail)
    have HBs := HB.out
    simp only [HBs]
    simp only [HE1.out, HE2.out]
    clear HBs
    go_wp2_with fail
    refine (F.out _).mono ?_
    rintro x w1 ⟨rfl, hB⟩
    have hB' := Lib.hid ((below_drewN (Below.refl w'.heap.size w') nq).trans hB)
    clear hB hw hn h0
    cases r2 with
    | true =>
      go_wp2_with fail
      go_ret3
      rw [HC.out]
      exact ⟨rfl, hB'.out⟩
    | false =>
      go_wp2_with fail
      go_ret3
      rw [HC.out]
      exact ⟨rfl, hB'.out⟩

theorem mk_get (l : List UInt8) (k : Nat) (h : k < (mk l).size) : some ((mk l)[k]) = l[k]? := by
  have h' : k < l.length := by rw [mk_size] at h; exact h
  rw [List.getElem?_eq_getElem h']
  rfl
theorem byte_is {c d : UInt8} (h : some c = some d) (n : Int) (hn : (d.toNat : Int) = n) : ((c.toNat : Int) == n) = true := by
  injection h with h; subst h; rw [hn]; simp
theorem byte_isnt {l : List UInt8} {k : Nat} {c : UInt8} (h : some c = l[k]?) (d : UInt8) (n : Int) (hn : (d.toNat : Int) = n) (hne : l[k]? ≠ some d) : ((c.toNat : Int) == n) = false := by
  rw [← h] at hne
  rw [beq_eq_false_iff_ne]
  intro e
  apply hne
  congr 1
  apply UInt8.toNat.inj
  omega
theorem codeL_end (s : List UInt8) (k : Nat) (hk : s.length ≤ k + 1) : Lib.lastIndex s [58, 32] = Lib.lastOcc s [58, 32] k := by
  rw [lastIndex_two]
  have := lastOcc_past s (s.length - 1) (k - (s.length - 1)) (by omega)
  rw [← this]
  congr 1
  omega

set_option maxRecDepth 100000 in
set_option maxHeartbeats 3200000 in
theorem RCode_any (s : List UInt8) (hs : s.length ≤ 200000) (w : World) :
    Calls Try.prog 15 #[.string (mk s)] w fun x w' => x = .returned (tup3 (codeL s)) ∧ Below w.heap.size w w' := by
  have hb : (mk s).size = s.length := mk_size s
  have HB := Lib.hid hb
  have hs' : (mk s).size ≤ 200000 := by omega
  have hcode : ∀ k, s.length ≤ k + 1 → codeL s = codeOf (cutL s (Lib.lastOcc s [58, 32] k)) := fun k hk => by unfold codeL; rw [codeL_end s k hk]
  have HC := Lib.hid hcode
  have F := Lib.hid (fun t w => RFind_any t w)
  clear hb hcode
  go_enter Try.func15, Try.ntmps15
  go_wp2
  go_loopw [5, 6, 7] (fun v5 v6 v7 wr => ∃ (k : Nat) (a b : List UInt8), k ≤ (mk s).size ∧ v5 = .string (mk a) ∧ v6 = .string (mk b) ∧ v7 = .int .i64 (k : Int) ∧ Hid (cutL s (Lib.lastOcc s [58, 32] k) = (a, b)) ∧ Hid (Below w.heap.size w wr)) (fun _ _ v7 _ => (mk s).size - (intOf v7).toNat)
  case atStart => exact ⟨0, [], s, by omega, rfl, rfl, rfl, cutL_neg s, Lib.hid (Below.refl _ _)⟩
  case round =>
    obtain ⟨k, a, b, hk, rfl, rfl, rfl, HI, HW⟩ := hrel
    by_cases hlt : k + 1 < (mk s).size
    · have hk1 : k < (mk s).size := Nat.lt_of_succ_lt hlt
      have G0 := Lib.hid (mk_get s k hk1)
      have G1 := Lib.hid (mk_get s (k + 1) hlt)
      by_cases ho : Lib.occAt s [58, 32] k = true
      · have HI' := Lib.hid (show cutL s (Lib.lastOcc s [58, 32] (k + 1)) = (s.take k, s.drop (k + 2)) by rw [Lib.lastOcc_hit s [58, 32] k ho, cutL_pos])
        have q1 : ((((mk s)[k]'hk1).toNat : Int) == 58) = true := byte_is (G0.out.trans ((occ_iff s k).1 ho).1) 58 rfl
        have q2 : ((((mk s)[k + 1]'hlt).toNat : Int) == 32) = true := byte_is (G1.out.trans ((occ_iff s k).1 ho).2) 32 rfl
        have HE1 := Lib.hid (show (mk s).extract 0 k = mk (s.take k) by rw [mk_extract]; rfl)
        have HE2 := Lib.hid (show (mk s).extract (k + 2) (mk s).size = mk (s.drop (k + 2)) by rw [mk_size, mk_extract, List.take_length])
        have hw : IntKind.i64.wrap ((k : Int) + 2) = (k : Int) + 2 := IntWalk.i64_in _ (by omega)
        have hn : ((k : Int) + 2).toNat = k + 2 := by omega
        have h0 : (0 : Int) ≤ (k : Int) + 2 := by omega
        clear ho
        go_wp2_with fail
        go_quiet (fail)
        simp only [HE1.out, HE2.out]
        have HW' := Lib.hid (below_drewN HW.out nq)
        clear hw hn h0
        go_wp2
        exact ⟨⟨k + 1, _, _, by omega, rfl, rfl, by go_num, HI', HW'⟩, by simp [intOf]; omega⟩
      · have HI' := Lib.hid (show cutL s (Lib.lastOcc s [58, 32] (k + 1)) = (a, b) by rw [Lib.lastOcc_miss s [58, 32] k (by simpa using ho)]; exact HI.out)
        by_cases h1 : s[k]? = some 58
        · have q1 : ((((mk s)[k]'hk1).toNat : Int) == 58) = true := byte_is (G0.out.trans h1) 58 rfl
          have q2 : ((((mk s)[k + 1]'hlt).toNat : Int) == 32) = false := byte_isnt G1.out 32 32 rfl (fun h2 => ho ((occ_iff s k).2 ⟨h1, h2⟩))
          clear ho h1
          go_wp2
          exact ⟨⟨k + 1, a, b, by omega, rfl, rfl, by go_num, HI', HW⟩, by simp [intOf]; omega⟩
        · have q1 : ((((mk s)[k]'hk1).toNat : Int) == 58) = false := byte_isnt G0.out 58 58 rfl h1
          clear ho h1
          go_wp2
          exact ⟨⟨k + 1, a, b, by omega, rfl, rfl, by go_num, HI', HW⟩, by simp [intOf]; omega⟩
    · have hc := HC.out k (by have := HB.out; omega)
      rw [HI.out] at hc
      unfold codeOf at hc
      simp only at hc
      have F' := Lib.hid (F.out b wr)
      generalize findL b = r at F' hc
      obtain ⟨r1, r2⟩ := r
      have HC' := Lib.hid hc
      clear hc
      go_wp2_with fail
      refine F'.out.mono ?_
      rintro x w1 ⟨rfl, hB⟩
      have hB' := Lib.hid (HW.out.trans (hB.mono HW.out.size))
      clear hB
      cases r2 with
      | true =>
        go_wp2_with fail
        go_ret3
        rw [HC'.out]
        exact ⟨rfl, hB'.out⟩
      | false =>
        go_wp2_with fail
        go_ret3
        rw [HC'.out]
        exact ⟨rfl, hB'.out⟩
end Go.Proofs.Ytpcohlacmhbclaa
