/-
  Walks over the small functions of package num and its reference: isBase, based, Add, digit, Separator, isSeparator.
-/
import Derived.Test.YtddiaoilelcfkaaDoorRows
import Derived.WalkKit
import Derived.WalkSpells
import Derived.WalkLawsBesides
import Derived.Lib.Hide
namespace Go.Proofs.YtddiaoilelcfkaaDoor
open Go.RowKit

/-- The three bases. -/
def isB (b : Int) : Bool := b == 8 || b == 10 || b == 16

set_option maxHeartbeats 400000 in
theorem isBase_any (b : Int) (w : World) :
    Calls Tryd.prog 21 #[.int .i64 b] w fun e w' => e = .returned (.bool (isB b)) ∧ w = w' := by
  go_enter Tryd.func21, Tryd.ntmps21
  go_wp2
  all_goals go_ret
  all_goals (refine ⟨?_, rfl⟩; simp_all [isB])

set_option maxHeartbeats 400000 in
theorem based_any (b : Int) (w : World) :
    Calls Tryd.prog 23 #[.int .i64 b] w fun e w' => e = .returned (.bool (isB b)) ∧ w = w' := by
  go_enter Tryd.func23, Tryd.ntmps23
  go_wp2
  all_goals go_ret
  all_goals (refine ⟨?_, rfl⟩; simp_all [isB])

/-- What Add comes to: the sum and the error's number (1: ErrArg, 5: ErrNumber). -/
def addR (a b m : Int) : Int × Int := if a < 0 ∨ b < 0 ∨ m < 0 then (0, 1) else if b > m - a then (0, 5) else (a + b, 0)
theorem ret2 {k : IntKind} {a b c d : Int} (h : a = c ∧ b = d) : Ending.returned (.tuple #[.int k a, .int k b]) = .returned (.tuple #[.int k c, .int k d]) := by rw [h.1, h.2]

set_option maxHeartbeats 400000 in
theorem add_any (a b m : Int) (w : World) (ha : -9223372036854775808 ≤ a ∧ a ≤ 9223372036854775807) (hb : -9223372036854775808 ≤ b ∧ b ≤ 9223372036854775807) (hm : -9223372036854775808 ≤ m ∧ m ≤ 9223372036854775807) :
    Calls Tryd.prog 19 #[.int .i64 a, .int .i64 b, .int .i64 m] w fun e w' => e = .returned (.tuple #[.int .i64 (addR a b m).1, .int .i64 (addR a b m).2]) ∧ w = w' := by
  obtain ⟨ha1, ha2⟩ := ha
  obtain ⟨hb1, hb2⟩ := hb
  obtain ⟨hm1, hm2⟩ := hm
  go_enter Tryd.func19, Tryd.ntmps19
  go_wp2
  all_goals go_ret2
  all_goals refine ⟨ret2 ?_, rfl⟩
  all_goals (unfold addR; (repeat' split) <;> refine ⟨?_, ?_⟩ <;> (try simp only []) <;> omega)

set_option maxHeartbeats 400000 in
theorem addref_any (a b m : Int) (w : World) (ha : -9223372036854775808 ≤ a ∧ a ≤ 9223372036854775807) (hb : -9223372036854775808 ≤ b ∧ b ≤ 9223372036854775807) (hm : -9223372036854775808 ≤ m ∧ m ≤ 9223372036854775807) :
    Calls Tryd.prog 20 #[.int .i64 a, .int .i64 b, .int .i64 m] w fun e w' => e = .returned (.tuple #[.int .i64 (addR a b m).1, .int .i64 (addR a b m).2]) ∧ w = w' := by
  obtain ⟨ha1, ha2⟩ := ha
  obtain ⟨hb1, hb2⟩ := hb
  obtain ⟨hm1, hm2⟩ := hm
  go_enter Tryd.func20, Tryd.ntmps20
  go_wp2
  all_goals go_ret2
  all_goals refine ⟨ret2 ?_, rfl⟩
  all_goals (unfold addR; (repeat' split) <;> refine ⟨?_, ?_⟩ <;> (try simp only []) <;> omega)

/-- The value of a digit; -1 if the byte is none. -/
def digV (c : Int) : Int := if 48 ≤ c ∧ c ≤ 57 then c - 48 else if 97 ≤ c ∧ c ≤ 102 then c - 87 else -1
theorem ret1 {k : IntKind} {a b : Int} (h : a = b) : Ending.returned (.int k a) = .returned (.int k b) := by rw [h]
theorem retS {a b : ByteArray} (h : a = b) : Ending.returned (.string a) = .returned (.string b) := by rw [h]
theorem retb {a b : Bool} (h : a = b) : Ending.returned (.bool a) = .returned (.bool b) := by rw [h]

set_option maxHeartbeats 400000 in
theorem digit_any (c : Int) (w : World) (h0 : 0 ≤ c) (h1 : c < 256) :
    Calls Tryd.prog 27 #[.int .u8 c] w fun e w' => e = .returned (.int .i64 (digV c)) ∧ w = w' := by
  go_enter Tryd.func27, Tryd.ntmps27
  go_wp2
  all_goals go_ret
  all_goals refine ⟨ret1 ?_, rfl⟩
  all_goals (unfold digV; (repeat' split) <;> omega)

/-- The four bytes that separate fields. -/
def sepB (c : Int) : Bool := c == 32 || c == 9 || c == 10 || c == 13
set_option maxHeartbeats 400000 in
theorem Separator_any (c : Int) (w : World) :
    Calls Tryd.prog 30 #[.int .u8 c] w fun e w' => e = .returned (.bool (sepB c)) ∧ w = w' := by
  go_enter Tryd.func30, Tryd.ntmps30
  go_wp2
  all_goals go_ret
  all_goals (refine ⟨retb ?_, rfl⟩; simp_all [sepB])
set_option maxHeartbeats 400000 in
theorem isSeparator_any (c : Int) (w : World) :
    Calls Tryd.prog 29 #[.int .i32 c] w fun e w' => e = .returned (.bool (sepB c)) ∧ w = w' := by
  go_enter Tryd.func29, Tryd.ntmps29
  go_wp2
  all_goals go_ret
  all_goals (refine ⟨retb ?_, rfl⟩; simp_all [sepB])
end Go.Proofs.YtddiaoilelcfkaaDoor
