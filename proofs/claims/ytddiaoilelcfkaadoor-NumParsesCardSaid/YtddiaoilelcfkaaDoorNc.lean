/-
  The walk over the reference's digits.
-/
import Derived.Test.YtddiaoilelcfkaaDoorNa
import Derived.Test.YtddiaoilelcfkaaDoorNb
namespace Go.Proofs.YtddiaoilelcfkaaDoor
open Go.RowKit

def strB (v : Value) : Nat := match v with | .string s => if s.data.toList = [] then 1 else 0 | _ => 0
theorem strB_nil : strB (.string ⟨#[]⟩) = 1 := by simp [strB]
theorem strB_cons (c : UInt8) (l : List UInt8) : strB (.string ⟨(c :: l).toArray⟩) = 0 := by simp [strB]

set_option maxHeartbeats 400000 in
theorem refdigits_core (b : Nat) (bv : Int) (hb : (b = 8 ∧ bv = 8) ∨ (b = 10 ∧ bv = 10) ∨ (b = 16 ∧ bv = 16)) (N : Nat) (w : World) (h : N ≤ 9223372036854775808) :
    Calls Tryd.prog 24 #[.int .i64 (-(N : Int)), .int .i64 bv] w fun e w' => e = .returned (.string ⟨(digs b N).toArray⟩) ∧ w = w' := by
  rcases hb with ⟨hb, rfl⟩ | ⟨hb, rfl⟩ | ⟨hb, rfl⟩
  all_goals
    have HB := Lib.hid hb
    clear hb
    go_enter Tryd.func24, Tryd.ntmps24
    go_wp2
    go_loop [0, 5] (fun vn vs => ∃ (m : Nat) (acc : List UInt8), vn = .int .i64 (-(m : Int)) ∧ vs = .string ⟨acc.toArray⟩ ∧ m ≤ 9223372036854775808 ∧ DigLeft b N m acc)
      (fun vn vs => (- intOf vn).toNat + strB vs)
    case atStart => exact ⟨N, [], rfl, rfl, h, .inl ⟨rfl, rfl⟩⟩
    case round =>
      obtain ⟨m, acc, rfl, rfl, hm, hd⟩ := hrel
      have hlen := digLeft_len hd h
      have HD := Lib.hid hd
      clear hd
      by_cases h0 : m = 0
      · subst h0
        cases acc with
        | nil =>
          go_wp2
          have e := digLeft_step (by have := HB.out; omega) (.inr rfl) HD.out
          rw [Nat.zero_mod, Nat.zero_div] at e
          refine ⟨⟨0, _, rfl, rfl, by omega, e⟩, ?_⟩
          show _ + strB (.string ⟨[dch 0].toArray⟩) < _ + strB (.string ⟨#[]⟩)
          rw [strB_cons, strB_nil]
          decide
        | cons c l =>
          go_wp2
          go_ret
          have e := digLeft_end HD.out (by simp)
          exact ⟨retS (by rw [e]), rfl⟩
      · have hneg : -(m : Int) < 0 := by omega
        have hn' : -9223372036854775808 ≤ -(m : Int) := by omega
        go_wp2
        have e := digLeft_step (by have := HB.out; omega) (.inl (by omega)) HD.out
        have E := HB.out
        subst E
        rw [hex_app _ (by omega)]
        refine ⟨⟨_, _, rfl, rfl, Nat.le_trans (Nat.div_le_self _ _) hm, e⟩, ?_⟩
        rw [strB_cons]
        simp only [intOf]
        omega
theorem refdigits_any (b : Nat) (hb : b = 8 ∨ b = 10 ∨ b = 16) (N : Nat) (w : World) (h : N ≤ 9223372036854775808) :
    Calls Tryd.prog 24 #[.int .i64 (-(N : Int)), .int .i64 b] w fun e w' => e = .returned (.string ⟨(digs b N).toArray⟩) ∧ w = w' :=
  refdigits_core b b (by omega) N w h
end Go.Proofs.YtddiaoilelcfkaaDoor
