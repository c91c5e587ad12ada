/-
  What a text is as a number: plain functions and lemmas (no program).
-/
import Derived.Test.YtddiaoilelcfkaaDoorNb
namespace Go.Proofs.YtddiaoilelcfkaaDoor
open Go.RowKit

/-- The value of a digit; -1 if the byte is none. -/
def digN (c : UInt8) : Int := if 48 ≤ c.toNat ∧ c.toNat ≤ 57 then (c.toNat : Int) - 48 else if 97 ≤ c.toNat ∧ c.toNat ≤ 102 then (c.toNat : Int) - 87 else -1
/-- The number that the digits behind acc come to. -/
def val (b : Nat) : Nat → List UInt8 → Option Nat
  | acc, [] => some acc
  | acc, c :: l => if 0 ≤ digN c ∧ digN c < b then val b (acc * b + (digN c).toNat) l else none
/-- The number whose canonical form in a base is l. -/
def canon (b : Nat) (l : List UInt8) : Option Nat := if l = [] ∨ (1 < l.length ∧ l.head? = some 48) then none else val b 0 l

theorem val_ge (b : Nat) (hb : 1 ≤ b) : ∀ (l : List UInt8) (acc v : Nat), val b acc l = some v → acc ≤ v := by
  intro l
  induction l with
  | nil => intro acc v h; simp [val] at h; omega
  | cons c l ih =>
    intro acc v h
    simp only [val] at h
    split at h
    · have := ih _ _ h
      have h2 : acc ≤ acc * b := Nat.le_mul_of_pos_right _ hb
      omega
    · cases h
theorem val_append (b : Nat) : ∀ (l : List UInt8) (acc : Nat) (r : List UInt8), val b acc (l ++ r) = (val b acc l).bind fun v => val b v r := by
  intro l
  induction l with
  | nil => intro acc r; simp [val]
  | cons c l ih =>
    intro acc r
    simp only [List.cons_append, val]
    split
    · exact ih _ _
    · rfl
theorem digN_dch : ∀ d : Fin 16, digN (dch d.val) = (d.val : Int) := by decide
theorem val_digs (b : Nat) (hb : 2 ≤ b) (hb16 : b ≤ 16) : ∀ n, val b 0 (digs b n) = some n := by
  intro n
  induction n using Nat.strongRecOn with
  | _ n ih =>
    by_cases h : n < b
    · rw [digs_lt h]
      have e := digN_dch ⟨n, by omega⟩
      simp only [val]
      rw [show digN (dch n) = (n : Int) from e, if_pos (by omega)]
      simp
    · have hd : n / b < n := Nat.div_lt_self (by omega) (by omega)
      have hm : n % b < b := Nat.mod_lt _ (by omega)
      rw [digs_ge hb h, val_append, ih _ hd]
      have e := digN_dch ⟨n % b, by omega⟩
      simp only [Option.bind_some, val]
      rw [show digN (dch (n % b)) = ((n % b : Nat) : Int) from e, if_pos (by omega)]
      simp
      rw [Nat.mul_comm]; exact Nat.div_add_mod n b
theorem digs_head (b : Nat) (hb : 2 ≤ b) (hb16 : b ≤ 16) : ∀ n, 0 < n → (digs b n).head? ≠ some 48 := by
  intro n
  induction n using Nat.strongRecOn with
  | _ n ih =>
    intro hn
    by_cases h : n < b
    · rw [digs_lt h]
      have : ∀ d : Fin 16, 0 < d.val → dch d.val ≠ 48 := by decide
      simpa using this ⟨n, by omega⟩ hn
    · have hd : n / b < n := Nat.div_lt_self (by omega) (by omega)
      have := ih _ hd (Nat.div_pos (by omega) (by omega))
      rw [digs_ge hb h]
      obtain ⟨x, l, e⟩ : ∃ x l, digs b (n / b) = x :: l := by
        cases e : digs b (n / b) with
        | nil => exact absurd e (digs_ne _ _)
        | cons x l => exact ⟨x, l, rfl⟩
      rw [e] at this ⊢
      simpa using this
theorem canon_digs (b : Nat) (hb : 2 ≤ b) (hb16 : b ≤ 16) (n : Nat) : canon b (digs b n) = some n := by
  unfold canon
  rw [if_neg, val_digs b hb hb16]
  intro h
  rcases h with h | ⟨h1, h2⟩
  · exact digs_ne _ _ h
  · by_cases hn : n = 0
    · subst hn; rw [digs_lt (by omega)] at h1; simp at h1
    · exact digs_head b hb hb16 n (by omega) h2

/-- A digit is written as it was read. -/
theorem dch_digN (c : UInt8) (h : 0 ≤ digN c) : dch (digN c).toNat = c ∧ (digN c).toNat < 16 := by
  have hk : ∀ k : Fin 256, 0 ≤ digN (UInt8.ofNat k.val) → dch (digN (UInt8.ofNat k.val)).toNat = UInt8.ofNat k.val ∧ (digN (UInt8.ofNat k.val)).toNat < 16 := by decide +kernel
  have := hk ⟨c.toNat, c.toNat_lt⟩
  simp only [UInt8.ofNat_toNat] at this
  exact this h
/-- What is read behind a number that is not zero is written behind it. -/
theorem digs_val (b : Nat) (hb : 2 ≤ b) : ∀ (l : List UInt8) (acc v : Nat), 0 < acc → val b acc l = some v → digs b v = digs b acc ++ l := by
  intro l
  induction l with
  | nil => intro acc v _ h; simp [val] at h; subst h; simp
  | cons c l ih =>
    intro acc v ha h
    simp only [val] at h
    split at h
    · rename_i hd
      have h1 : b ≤ acc * b := Nat.le_mul_of_pos_left _ ha
      have hdv := (dch_digN c hd.1).1
      rw [ih _ _ (by omega) h]
      rw [digs_ge hb (by omega)]
      have e1 : (acc * b + (digN c).toNat) / b = acc := by
        rw [Nat.mul_comm, Nat.mul_add_div (by omega), Nat.div_eq_of_lt (by omega)]; simp
      have e2 : (acc * b + (digN c).toNat) % b = (digN c).toNat := by
        rw [Nat.mul_comm, Nat.mul_add_mod, Nat.mod_eq_of_lt (by omega)]
      rw [e1, e2, hdv]; simp
    · cases h
/-- A canonical form is the text of its number. -/
theorem digs_canon (b : Nat) (hb : 2 ≤ b) (l : List UInt8) (v : Nat) (h : canon b l = some v) : digs b v = l := by
  unfold canon at h
  split at h
  · cases h
  · rename_i hc
    cases l with
    | nil => simp at hc
    | cons c l =>
      simp only [val] at h
      split at h
      · rename_i hd
        have hdv := (dch_digN c hd.1).1
        by_cases h0 : (digN c).toNat = 0
        · have hc0 : c = 48 := by rw [← hdv, h0]; rfl
          cases l with
          | nil => simp [val, h0] at h; subst h; rw [digs_lt (by omega), hc0]; rfl
          | cons d l => exact absurd (.inr ⟨by simp, by simp [hc0]⟩) hc
        · have := digs_val b hb l _ v (by omega) h
          rw [this, Nat.zero_mul, Nat.zero_add, digs_lt (by omega), hdv]; rfl
      · cases h
end Go.Proofs.YtddiaoilelcfkaaDoor
