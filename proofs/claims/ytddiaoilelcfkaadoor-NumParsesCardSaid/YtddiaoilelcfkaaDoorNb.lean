/-
  Numbers as digits in a base: plain functions and lemmas (no program).
-/
import Derived.Lib.Hide
import Derived.WalkKit
namespace Go.Proofs.YtddiaoilelcfkaaDoor
open Go.RowKit

/-- The letter of a digit. -/
def dch (d : Nat) : UInt8 := if d < 10 then UInt8.ofNat (48 + d) else UInt8.ofNat (87 + d)
def digsF (b : Nat) : Nat → Nat → List UInt8
  | 0, _ => []
  | f + 1, n => if n < b then [dch n] else digsF b f (n / b) ++ [dch (n % b)]
/-- The canonical form of n in base b. -/
def digs (b n : Nat) : List UInt8 := digsF b (n + 1) n

theorem digsF_enough (b : Nat) (hb : 2 ≤ b) : ∀ (f n : Nat), n < f → digsF b f n = digsF b (n + 1) n := by
  intro f
  induction f using Nat.strongRecOn with
  | _ f ih =>
    intro n hn
    obtain ⟨g, rfl⟩ : ∃ g, f = g + 1 := ⟨f - 1, by omega⟩
    by_cases h : n < b
    · simp only [digsF, if_pos h]
    · have hd : n / b < n := Nat.div_lt_self (by omega) (by omega)
      simp only [digsF, if_neg h]
      rw [ih g (by omega) (n / b) (by omega)]
      by_cases hg : n < g + 1
      · by_cases hng : n = g
        · subst hng; rw [ih n (by omega) (n / b) hd]
        · rw [ih n (by omega) (n / b) hd]
      · omega

theorem digs_lt {b n : Nat} (h : n < b) : digs b n = [dch n] := by simp only [digs, digsF, if_pos h]
theorem digs_ge {b n : Nat} (hb : 2 ≤ b) (h : ¬ n < b) : digs b n = digs b (n / b) ++ [dch (n % b)] := by
  have hd : n / b < n := Nat.div_lt_self (by omega) (by omega)
  unfold digs
  rw [show digsF b (n + 1) n = digsF b n (n / b) ++ [dch (n % b)] by simp only [digsF, if_neg h], digsF_enough b hb n (n / b) hd]
theorem digs_ne (b n : Nat) : digs b n ≠ [] := by
  unfold digs digsF; split <;> simp
theorem dch_mod (b n : Nat) (hb : 2 ≤ b) (h : n < b) : dch (n % b) = dch n := by rw [Nat.mod_eq_of_lt h]

/-- The canonical form of any number: with a minus sign if it is negative. -/
def textL (n : Int) (b : Nat) : List UInt8 := if n < 0 then 45 :: digs b n.natAbs else digs b n.natAbs

/-- What the loop of digits has to do: m is left, acc is made. -/
def DigLeft (b N m : Nat) (acc : List UInt8) : Prop := (acc = [] ∧ m = N) ∨ (acc ≠ [] ∧ acc.length + m ≤ N / 8 + 1 ∧ ((m = 0 ∧ digs b N = acc) ∨ (0 < m ∧ digs b N = digs b m ++ acc)))
theorem digLeft_step {b N m : Nat} {acc : List UInt8} (hb : 8 ≤ b) (h0 : 0 < m ∨ acc = []) (h : DigLeft b N m acc) : DigLeft b N (m / b) (dch (m % b) :: acc) := by
  have key : (m / b = 0 ∧ digs b m = [dch (m % b)]) ∨ (0 < m / b ∧ digs b m = digs b (m / b) ++ [dch (m % b)]) := by
    by_cases hm : m < b
    · exact .inl ⟨Nat.div_eq_of_lt hm, by rw [digs_lt hm, Nat.mod_eq_of_lt hm]⟩
    · exact .inr ⟨Nat.div_pos (by omega) (by omega), digs_ge (by omega) hm⟩
  have h8 : m / b ≤ m / 8 := Nat.div_le_div_left (by omega) (by omega)
  rcases h with ⟨rfl, rfl⟩ | ⟨hne, hl, h⟩
  · refine .inr ⟨by simp, by simp; omega, ?_⟩
    rcases key with ⟨k0, k1⟩ | ⟨k0, k1⟩
    · exact .inl ⟨k0, k1⟩
    · exact .inr ⟨k0, k1⟩
  · have hm : 0 < m := h0.resolve_right hne
    refine .inr ⟨by simp, by simp; omega, ?_⟩
    rcases h with ⟨h1, _⟩ | ⟨_, h2⟩
    · omega
    rcases key with ⟨k0, k1⟩ | ⟨k0, k1⟩
    · exact .inl ⟨k0, by rw [h2, k1]; simp⟩
    · exact .inr ⟨k0, by rw [h2, k1]; simp⟩
theorem digLeft_len {b N m : Nat} {acc : List UInt8} (h : DigLeft b N m acc) (hN : N ≤ 9223372036854775808) : acc.length ≤ 2305843009213693952 := by
  rcases h with ⟨rfl, _⟩ | ⟨_, h, _⟩
  · simp
  · omega
theorem digLeft_end {b N : Nat} {acc : List UInt8} (h : DigLeft b N 0 acc) (hne : acc ≠ []) : digs b N = acc := by
  rcases h with ⟨h, _⟩ | ⟨_, _, ⟨_, h⟩ | ⟨h, _⟩⟩
  · exact absurd h hne
  · exact h
  · omega
theorem hex_at : ∀ d : Fin 16, ((⟨#[48, 49, 50, 51, 52, 53, 54, 55, 56, 57, 97, 98, 99, 100, 101, 102]⟩ : ByteArray).extract d.val (d.val + 1)) = ⟨#[dch d.val]⟩ := by decide
theorem hex_app (d : Nat) (hd : d < 16) (acc : List UInt8) : (⟨#[48, 49, 50, 51, 52, 53, 54, 55, 56, 57, 97, 98, 99, 100, 101, 102]⟩ : ByteArray).extract d (d + 1) ++ ⟨acc.toArray⟩ = ⟨(dch d :: acc).toArray⟩ := by
  rw [hex_at ⟨d, hd⟩]
  apply ByteArray.ext
  simp [ByteArray.data_append]

end Go.Proofs.YtddiaoilelcfkaaDoor
