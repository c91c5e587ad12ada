/-
  Integers as bytes, the least significant one first: plain functions and lemmas (no program).
-/
import Derived.Lib.Hide
import Derived.WalkKit
namespace Go.Proofs.Ytagllhphchmfhaa
open Go.RowKit

def inI (n : Int) : Prop := -9223372036854775808 ≤ n ∧ n ≤ 9223372036854775807
theorem inI_of_wf {n : Int} (h : (Lit.int .i64 n).wf = true) : inI n := by
  simpa [Lit.wf, IntKind.min, IntKind.max, IntKind.signed, IntKind.bits, inI] using h
theorem ret1 {k : IntKind} {a b : Int} (h : a = b) : Ending.returned (.int k a) = .returned (.int k b) := by rw [h]
theorem retb {a b : Bool} (h : a = b) : Ending.returned (.bool a) = .returned (.bool b) := by rw [h]

/-- The encoding of n in a width of w bytes (of its remainder, if it does not fit). -/
def le : Nat → Nat → List UInt8
  | 0, _ => []
  | w + 1, n => UInt8.ofNat (n % 256) :: le w (n / 256)
/-- The integer whose encoding the bytes are. -/
def val : List UInt8 → Nat
  | [] => 0
  | c :: l => c.toNat + 256 * val l

theorem le_len (w n : Nat) : (le w n).length = w := by induction w generalizing n with
  | zero => rfl
  | succ w ih => simp [le, ih]
theorem val_lt (l : List UInt8) : val l < 256 ^ l.length := by
  induction l with
  | nil => decide
  | cons c l ih => rw [val, List.length_cons, Nat.pow_succ]; have := c.toNat_lt; omega
theorem val_le (w n : Nat) (h : n < 256 ^ w) : val (le w n) = n := by
  induction w generalizing n with
  | zero => simp at h; subst h; rfl
  | succ w ih =>
    rw [le, val, ih (n / 256) (by rw [Nat.pow_succ] at h; omega)]
    have e : (UInt8.ofNat (n % 256)).toNat = n % 256 := by simp
    rw [e]; omega
theorem le_val (l : List UInt8) : le l.length (val l) = l := by
  induction l with
  | nil => rfl
  | cons c l ih =>
    have hc := c.toNat_lt
    rw [List.length_cons, le, val, show (c.toNat + 256 * val l) / 256 = val l by omega, ih, show (c.toNat + 256 * val l) % 256 = c.toNat by omega]
    simp
theorem le_snoc (w n : Nat) : le (w + 1) n = le w n ++ [UInt8.ofNat (n / 256 ^ w % 256)] := by
  induction w generalizing n with
  | zero => simp [le]
  | succ w ih => rw [le, ih, le, List.cons_append, Nat.div_div_eq_div_mul, ← Nat.pow_succ']
theorem val_snoc (l : List UInt8) (c : UInt8) : val (l ++ [c]) = val l + 256 ^ l.length * c.toNat := by
  induction l with
  | nil => simp [val]
  | cons d l ih =>
    rw [List.cons_append, val, ih, val, List.length_cons, Nat.pow_succ', Nat.mul_add, Nat.mul_assoc]; omega

/-- What Put comes to: the bytes and the error's number (1: ErrArg, 5: ErrNumber). -/
def putR (n w : Int) : List UInt8 × Int :=
  if w < 1 ∨ 8 < w then ([], 1) else if n < 0 ∨ (256 ^ w.toNat : Nat) ≤ n.toNat then ([], 5) else (le w.toNat n.toNat, 0)
/-- What Get comes to: the integer, the offset behind it and the error's number (3: ErrShort). -/
def getR (l : List UInt8) (a w : Int) : Int × Int × Int :=
  if w < 1 ∨ 8 < w ∨ a < 0 ∨ (l.length : Int) < a then (0, 0, 1)
  else if (l.length : Int) - a < w then (0, 0, 3)
  else if 9223372036854775808 ≤ val ((l.drop a.toNat).take w.toNat) then (0, 0, 5)
  else ((val ((l.drop a.toNat).take w.toNat) : Nat), a + w, 0)
/-- What PutText comes to (4: ErrLong). -/
def putTextR (l : List UInt8) : List UInt8 × Int := if 65536 ≤ l.length then ([], 4) else (le 2 l.length ++ l, 0)
/-- What GetText comes to. -/
def getTextR (l : List UInt8) (a : Int) : List UInt8 × Int × Int :=
  if (getR l a 2).2.2 ≠ 0 then ([], 0, (getR l a 2).2.2)
  else if (l.length : Int) - (a + 2) < (getR l a 2).1 then ([], 0, 3)
  else ((l.drop (a + 2).toNat).take (getR l a 2).1.toNat, a + 2 + (getR l a 2).1, 0)
end Go.Proofs.Ytagllhphchmfhaa
