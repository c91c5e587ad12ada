/-
  Walks: the reference's Bit, Valid, mark; the program's isValid, Type, Inherit, Open.
-/
import Derived.Test.YtogjkkijejgggaaDoorProg
import Derived.Test.YtogjkkijejgggaaDoorRows
import Derived.Test.YtogjkkijejgggaaDoorUa
import Derived.Test.YtogjkkijejgggaaDoorMd
import Derived.WalkKit
import Derived.WalkSmall
import Derived.Lib.Hide
import Derived.LoopTactic
import Derived.Lib.SmallJoins
namespace Go.Proofs.YtogjkkijejgggaaDoor
open Go.RowKit

def mk (l : List UInt8) : ByteArray := ⟨l.toArray⟩
theorem mk_toList (l : List UInt8) : (mk l).toList = l := by rw [Lib.toList_data]; simp [mk]
theorem mk_data (l : List UInt8) : (mk l).data.toList = l := by simp [mk]
theorem mk_of (s : ByteArray) : mk s.data.toList = s := by apply ByteArray.ext; simp [mk]
theorem mk_size (l : List UInt8) : (mk l).size = l.length := by simp [mk, ByteArray.size]
theorem mk_inj {a b : List UInt8} (h : mk a = mk b) : a = b := by rw [← mk_data a, ← mk_data b, h]
theorem mk_app (a b : List UInt8) : mk a ++ mk b = mk (a ++ b) := by
  apply ByteArray.ext
  simp [mk, ByteArray.data_append]
theorem mk_get (l : List UInt8) (k : Nat) (h : k < (mk l).size) : (mk l)[k] = l[k]'(by rw [mk_size] at h; exact h) := by
  simp only [mk]; rfl
def sv (x : List UInt8) : Value := .string (mk x)
theorem add_at (b o j : Nat) : (⟨b, o, none⟩ : Addr).add j = ⟨b, o + j, none⟩ := by
  unfold Addr.add
  split
  · rename_i h; subst h; rfl
  · rfl
theorem ret_int {k : IntKind} {a b : Int} (h : a = b) : Ending.returned (.int k a) = .returned (.int k b) := by rw [h]
def inI (n : Int) : Prop := -9223372036854775808 ≤ n ∧ n ≤ 9223372036854775807

theorem ret_bool {a b : Bool} (h : a = b) : Ending.returned (.bool a) = .returned (.bool b) := by rw [h]

theorem RBit_any (m p : Int) (hm : inI m) (hp : 0 < p ∧ p ≤ 4294967296) (w : World) :
    Calls Tryd.prog 26 #[.int .i64 m, .int .i64 p] w fun e w' => e = .returned (.bool (bitB m p)) ∧ w = w' := by
  obtain ⟨hm1, hm2⟩ := hm
  obtain ⟨hp1, hp2⟩ := hp
  by_cases h0 : 0 ≤ m
  · have hr : Hid (((m / p).tmod 2 == 1) = bitB m p) := by
      unfold Hid bitB
      have : 0 ≤ m / p := Int.ediv_nonneg h0 (by omega)
      rw [Int.tmod_eq_emod_of_nonneg this, Bool.eq_iff_iff]
      simp [h0]
    go_enter Tryd.func26, Tryd.ntmps26
    go_wp2
    go_ret
    exact ⟨ret_bool hr.out, rfl⟩
  · have hr : Hid (false = bitB m p) := by unfold Hid bitB; simp [h0]
    go_enter Tryd.func26, Tryd.ntmps26
    go_wp2
    go_ret
    exact ⟨ret_bool hr.out, rfl⟩

theorem isValid_any (m : Int) (hm : inI m) (w : World) :
    Calls Tryd.prog 23 #[.int .i64 m] w fun e w' => e = .returned (.bool (vldB m)) ∧ w = w' := by
  obtain ⟨hm1, hm2⟩ := hm
  by_cases h0 : 0 ≤ m
  · have hr := valid_bits h0 hm2
    cases h1 : bits .andNot .i64 m 3758096895 == 0 with
    | false =>
      have hr2 : Hid (false = vldB m) := by rw [Hid, hr, h1]; rfl
      clear hr
      go_enter Tryd.func23, Tryd.ntmps23
      go_wp2
      go_ret
      exact ⟨ret_bool hr2.out, rfl⟩
    | true =>
      have hr2 : Hid ((bits .and .i64 m 3221225472 != 3221225472) = vldB m) := by rw [Hid, hr, h1, Bool.true_and]
      clear hr
      go_enter Tryd.func23, Tryd.ntmps23
      go_wp2
      go_ret
      exact ⟨ret_bool hr2.out, rfl⟩
  · have hr : Hid (false = vldB m) := by unfold Hid vldB; simp [h0]
    go_enter Tryd.func23, Tryd.ntmps23
    go_wp2
    go_ret
    exact ⟨ret_bool hr.out, rfl⟩

/-- What is left of a mode behind k of the three bits. -/
def restK (m : Int) : Nat → Int
  | 0 => m
  | k + 1 => restK m k - if bitB m (bt k) then bt k else 0
theorem restK_bd {m : Int} (h0 : 0 ≤ m) (h1 : m ≤ 9223372036854775807) : ∀ k, k ≤ 3 → -8589934592 ≤ restK m k ∧ restK m k ≤ m
  | 0, _ => by show -8589934592 ≤ m ∧ m ≤ m; omega
  | 1, _ => by
    show -8589934592 ≤ m - (if bitB m 2147483648 then 2147483648 else 0) ∧ m - (if bitB m 2147483648 then 2147483648 else 0) ≤ m
    split <;> omega
  | 2, _ => by
    show -8589934592 ≤ m - (if bitB m 2147483648 then 2147483648 else 0) - (if bitB m 1073741824 then 1073741824 else 0) ∧ m - (if bitB m 2147483648 then 2147483648 else 0) - (if bitB m 1073741824 then 1073741824 else 0) ≤ m
    split <;> split <;> omega
  | 3, _ => by
    show -8589934592 ≤ m - (if bitB m 2147483648 then 2147483648 else 0) - (if bitB m 1073741824 then 1073741824 else 0) - (if bitB m 536870912 then 536870912 else 0) ∧ m - (if bitB m 2147483648 then 2147483648 else 0) - (if bitB m 1073741824 then 1073741824 else 0) - (if bitB m 536870912 then 536870912 else 0) ≤ m
    split <;> split <;> split <;> omega
  | n + 4, h => by omega
theorem restK_end {m : Int} (h0 : 0 ≤ m) (h : ¬ (bitB m 2147483648 = true ∧ bitB m 1073741824 = true)) : vldB m = decide (0 ≤ restK m 3 ∧ restK m 3 ≤ 511) := by
  show _ = decide (0 ≤ m - (if bitB m 2147483648 then 2147483648 else 0) - (if bitB m 1073741824 then 1073741824 else 0) - (if bitB m 536870912 then 536870912 else 0) ∧ m - (if bitB m 2147483648 then 2147483648 else 0) - (if bitB m 1073741824 then 1073741824 else 0) - (if bitB m 536870912 then 536870912 else 0) ≤ 511)
  unfold vldB
  unfold bitB at h ⊢
  rw [decide_eq_decide]
  simp only [decide_eq_true_eq] at h ⊢
  have a := Int.emod_two_eq (m / 2147483648)
  have b := Int.emod_two_eq (m / 1073741824)
  have c := Int.emod_two_eq (m / 536870912)
  split <;> split <;> split <;> omega
theorem not_both {m : Int} (h : bitB m 2147483648 = true ∧ bitB m 1073741824 = true) : vldB m = false := by
  unfold vldB; unfold bitB at h
  simp only [decide_eq_true_eq] at h
  simp only [decide_eq_false_iff_not]
  omega

set_option maxHeartbeats 1600000 in
theorem RValid_any (m : Int) (hm : inI m) (w : World) :
    Calls Tryd.prog 24 #[.int .i64 m] w fun e w' => e = .returned (.bool (vldB m)) ∧ Below w.heap.size w w' := by
  have B := Lib.hid (fun p w hp => RBit_any m p hm hp w)
  obtain ⟨hm1, hm2⟩ := hm
  by_cases h0 : 0 ≤ m
  · by_cases hb : bitB m 2147483648 = true ∧ bitB m 1073741824 = true
    · have hr := Lib.hid (not_both hb)
      have B7 := B.out 2147483648 w (by decide)
      have B6 := B.out 1073741824 w (by decide)
      rw [hb.1] at B7
      rw [hb.2] at B6
      replace B7 := Lib.hid B7
      replace B6 := Lib.hid B6
      clear hb B
      go_enter Tryd.func24, Tryd.ntmps24
      go_wp2_with fail
      refine B7.out.mono ?_
      rintro e w' ⟨rfl, rfl⟩
      go_wp2_with fail
      refine B6.out.mono ?_
      rintro e w' ⟨rfl, rfl⟩
      go_wp2
      go_ret
      exact ⟨ret_bool hr.out.symm, Below.refl _ _⟩
    · have hr := Lib.hid (restK_end h0 hb)
      have hbd := Lib.hid (restK_bd h0 hm2)
      generalize hv : vldB m = v at hr ⊢
      clear hv
      have B7 := B.out 2147483648 w (by decide)
      have B6 := B.out 1073741824 w (by decide)
      have hb' : (bitB m 2147483648 && bitB m 1073741824) = false := by
        cases h7 : bitB m 2147483648 <;> cases h6 : bitB m 1073741824 <;> simp_all
      generalize bitB m 2147483648 = b7 at B7 hb'
      generalize bitB m 1073741824 = b6 at B6 hb'
      replace B7 := Lib.hid B7
      replace B6 := Lib.hid B6
      clear hb
      go_enter Tryd.func24, Tryd.ntmps24
      go_wp2_with fail
      refine B7.out.mono ?_
      rintro e w' ⟨rfl, rfl⟩
      have HBw := Lib.hid ((Below.refl w.heap.size w).alloc (Nat.le_refl _) (.cells #[.int .i64 2147483648, .int .i64 1073741824, .int .i64 536870912] 3))
      have hcell : ∀ k, k < 3 → (w.alloc (.cells #[.int .i64 2147483648, .int .i64 1073741824, .int .i64 536870912] 3)).cell? ⟨w.heap.size, k, none⟩ = some (.int .i64 (bt k)) := fun k hk => by
        rw [World.cell?_alloc_mark]
        match k, hk with
        | 0, _ | 1, _ | 2, _ => rfl
        | n + 3, h => omega
      have HC := Lib.hid hcell
      clear hcell
      cases b7
      all_goals
        (first | (obtain rfl : b6 = false := by simpa using hb'); go_wp2_with fail; (refine B6.out.mono ?_); (rintro e w' ⟨rfl, rfl⟩); go_wp2
               | go_wp2)
      all_goals
        clear hb' B6 B7
        go_loop [3, 5] (fun vr vi => ∃ k : Nat, k ≤ 3 ∧ vi = .int .i64 (k : Int) ∧ vr = .int .i64 (restK m k)) (fun _ vi => 3 - (intOf vi).toNat)
        case atStart => exact ⟨0, by omega, rfl, rfl⟩
        case round =>
          obtain ⟨k, hk, rfl, rfl⟩ := hrel
          obtain ⟨r1, r2⟩ := hbd.out k hk
          by_cases hlt : k < 3
          · have hc := HC.out k hlt
            have hbk := bt_le k (by omega)
            obtain ⟨q1, q2⟩ := hbd.out (k + 1) (by omega)
            have BB := B.out (bt k) (w.alloc (.cells #[.int .i64 2147483648, .int .i64 1073741824, .int .i64 536870912] 3)) (by omega)
            have hs : Hid (restK m (k + 1) = restK m k - if bitB m (bt k) then bt k else 0) := rfl
            generalize hs0 : restK m (k + 1) = s at hs q1 q2
            replace hs0 := Lib.hid hs0
            generalize bitB m (bt k) = b at hs BB
            generalize bt k = p at hc hbk BB hs
            generalize restK m k = r at *
            replace BB := Lib.hid BB
            cases b
            all_goals
              have hs2 := hs.out
              simp only [if_true, Bool.false_eq_true, if_false] at hs2
              subst hs2
              go_wp2_with fail
              refine BB.out.mono ?_
              rintro e w' ⟨rfl, rfl⟩
              go_wp2
              go_round
              case rel => exact ⟨k + 1, by omega, by go_num, congrArg (Value.int .i64) (by have := hs0.out; omega)⟩
              case measure => simp [intOf]; omega
          · obtain rfl : k = 3 := by omega
            have hr0 := hr.out
            by_cases hneg : restK m 3 < 0
            · have hr1 : Hid (false = v) := by rw [Hid, hr0]; simp; omega
              clear hr0
              go_wp2
              go_ret
              exact ⟨ret_bool hr1.out, HBw.out⟩
            · have hr1 : Hid (decide (restK m 3 ≤ 511) = v) := by rw [Hid, hr0, decide_eq_decide]; omega
              clear hr0
              go_wp2
              go_ret
              exact ⟨ret_bool hr1.out, HBw.out⟩
  · have hr : Hid (false = vldB m) := by unfold Hid vldB; simp [h0]
    go_enter Tryd.func24, Tryd.ntmps24
    go_wp2
    go_ret
    exact ⟨ret_bool hr.out, Below.refl _ _⟩
end Go.Proofs.YtogjkkijejgggaaDoor
