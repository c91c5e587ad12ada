/-
  Modes as numbers, third part: types, open modes, what is inherited, what is granted. No walk in this text.
-/
import Derived.Test.YtogjkkijejgggaaDoorMb
namespace Go.Proofs.YtogjkkijejgggaaDoor

/-! ### Type -/
def typeI (m : Int) : Int := (if bitB m 2147483648 then 128 else 0) + (if bitB m 1073741824 then 64 else 0) + (if bitB m 536870912 then 32 else 0) + (if bitB m 134217728 then 8 else 0)
theorem typeI_neg {m : Int} (h : m < 0) : typeI m = 0 := by
  have e : ∀ p, bitB m p = false := fun p => by unfold bitB; simp; omega
  simp [typeI, e]
set_option maxRecDepth 100000 in
theorem n232 : ∀ r, r < 256 → r &&& 232 = r / 128 % 2 * 128 + r / 64 % 2 * 64 + r / 32 % 2 * 32 + r / 8 % 2 * 8 := by decide
theorem type_bits {m : Int} (h0 : 0 ≤ m) (h1 : m ≤ 9223372036854775807) : bits .and .i64 (m / 16777216) 232 = typeI m := by
  obtain ⟨n, rfl⟩ := Int.eq_ofNat_of_zero_le h0
  have e : (n : Int) / 16777216 = ((n / 16777216 : Nat) : Int) := by omega
  rw [e]
  have e1 : bits .and .i64 ((n / 16777216 : Nat) : Int) 232 = ((n / 16777216 &&& 232 : Nat) : Int) := i64_and_nat _ 232 (by omega) (by decide)
  have e2 : n / 16777216 &&& 232 = n / 16777216 % 256 &&& 232 := by
    have a : n / 16777216 % 256 = n / 16777216 &&& 255 := (Nat.and_two_pow_sub_one_eq_mod (n / 16777216) 8).symm
    rw [a, Nat.and_assoc]; rfl
  rw [e1, e2, n232 _ (Nat.mod_lt _ (by decide))]
  unfold typeI bitB
  simp only [decide_eq_true_eq]
  have p7 : (n : Int) / 2147483648 % 2 = ((n / 16777216 % 256 / 128 % 2 : Nat) : Int) := by omega
  have p6 : (n : Int) / 1073741824 % 2 = ((n / 16777216 % 256 / 64 % 2 : Nat) : Int) := by omega
  have p5 : (n : Int) / 536870912 % 2 = ((n / 16777216 % 256 / 32 % 2 : Nat) : Int) := by omega
  have p3 : (n : Int) / 134217728 % 2 = ((n / 16777216 % 256 / 8 % 2 : Nat) : Int) := by omega
  rw [p7, p6, p5, p3]
  have q7 := Nat.mod_two_eq_zero_or_one (n / 16777216 % 256 / 128)
  have q6 := Nat.mod_two_eq_zero_or_one (n / 16777216 % 256 / 64)
  have q5 := Nat.mod_two_eq_zero_or_one (n / 16777216 % 256 / 32)
  have q3 := Nat.mod_two_eq_zero_or_one (n / 16777216 % 256 / 8)
  generalize n / 16777216 % 256 / 128 % 2 = x7 at *
  generalize n / 16777216 % 256 / 64 % 2 = x6 at *
  generalize n / 16777216 % 256 / 32 % 2 = x5 at *
  generalize n / 16777216 % 256 / 8 % 2 = x3 at *
  rcases q7 with rfl | rfl <;> rcases q6 with rfl | rfl <;> rcases q5 with rfl | rfl <;> rcases q3 with rfl | rfl <;> simp [h0]
theorem typeI_same {a b : Int} (ha : 0 ≤ a) (hb : 0 ≤ b) (h : a / 512 = b / 512) : typeI a = typeI b := by
  have e7 : bitB a 2147483648 = bitB b 2147483648 := by unfold bitB; rw [decide_eq_decide]; omega
  have e6 : bitB a 1073741824 = bitB b 1073741824 := by unfold bitB; rw [decide_eq_decide]; omega
  have e5 : bitB a 536870912 = bitB b 536870912 := by unfold bitB; rw [decide_eq_decide]; omega
  have e3 : bitB a 134217728 = bitB b 134217728 := by unfold bitB; rw [decide_eq_decide]; omega
  unfold typeI
  rw [e7, e6, e5, e3]

/-! ### Open -/
def rightsL (b : Int) (t : Bool) : Int := if t then (if b = 0 then 6 else if b = 3 then 3 else if b = 1 then 2 else 6) else (if b = 0 then 4 else if b = 1 then 2 else if b = 2 then 6 else 1)
def okO (m : Int) : Bool := decide (0 ≤ m ∧ m < 128 ∧ m / 4 % 4 = 0 ∧ m / 32 % 2 = 0)
def truncO (m : Int) : Bool := decide (m / 16 % 2 = 1)
def openI (m : Int) : Int × Int := if okO m then (rightsL (m % 4) (truncO m), 0) else (0, 12)
theorem open_bits {m : Int} (h0 : 0 ≤ m) (h1 : m ≤ 9223372036854775807) : (bits .andNot .i64 m 83 != 0) = !okO m := by
  obtain ⟨n, rfl⟩ := Int.eq_ofNat_of_zero_le h0
  have e1 : bits .andNot .i64 (n : Int) 83 = ((without n 83 : Nat) : Int) := i64_andNot_nat n 83 (by omega) (by decide)
  have e4 : without n 83 = ((n % 18446744073709551616 / 128 * 128) ||| (n % 64 / 32 * 32)) ||| (n % 16 / 4 * 4) := by
    unfold without
    have a1 : n &&& 18446744073709551488 = n % 18446744073709551616 / 128 * 128 := nat_midmask 64 7 n (by decide)
    have a2 : n &&& 32 = n % 64 / 32 * 32 := nat_midmask 6 5 n (by decide)
    have a3 : n &&& 12 = n % 16 / 4 * 4 := nat_midmask 4 2 n (by decide)
    have a4 : 18446744073709551615 - 83 = 18446744073709551488 ||| 32 ||| 12 := by decide
    rw [a4, Nat.and_or_distrib_left, Nat.and_or_distrib_left, a1, a2, a3]
  rw [e1, e4]
  unfold okO
  rw [Bool.eq_iff_iff]
  simp only [Bool.not_eq_true', decide_eq_false_iff_not, bne_iff_ne, ne_eq, Int.natCast_eq_zero, Nat.or_eq_zero_iff]
  omega
theorem base_bits {m : Int} (h0 : 0 ≤ m) (h1 : m ≤ 9223372036854775807) : bits .and .i64 m 3 = m % 4 := by
  obtain ⟨n, rfl⟩ := Int.eq_ofNat_of_zero_le h0
  have e1 : bits .and .i64 (n : Int) 3 = ((n &&& 3 : Nat) : Int) := i64_and_nat n 3 (by omega) (by decide)
  have e2 : n &&& 3 = n % 4 := Nat.and_two_pow_sub_one_eq_mod n 2
  rw [e1, e2]; omega
theorem trunc_bits {m : Int} (h0 : 0 ≤ m) (h1 : m ≤ 9223372036854775807) : (bits .and .i64 m 16 != 0) = truncO m := by
  have := and_bitB h0 h1 4 (by decide)
  have e : ((2 ^ 4 : Nat) : Int) = 16 := rfl
  rw [e] at this
  rw [this]
  unfold bitB truncO
  simp [h0]
/-- What the reference's Base finds. -/
def hitO (x k : Int) : Bool := decide (x - k = 0 ∨ x - k = 64)
def hitT (x k : Int) : Bool := decide (x - k = 16 ∨ x - k = 80)
def baseI (x : Int) : Int × Bool × Bool := if okO x then (x % 4, truncO x, true) else (0, false, false)
theorem hits {x k : Int} (h0 : 0 ≤ k) (h1 : k ≤ 3) : (hitO x k = true → baseI x = (k, false, true)) ∧ (hitT x k = true → baseI x = (k, true, true)) := by
  have key : ∀ t : Bool, okO x = true → x % 4 = k → truncO x = t → baseI x = (k, t, true) := by
    intro t a b c; unfold baseI; rw [a, b, c]; rfl
  constructor
  · intro h
    have h : x - k = 0 ∨ x - k = 64 := of_decide_eq_true h
    exact key false (decide_eq_true (by omega)) (by omega) (decide_eq_false (by omega))
  · intro h
    have h : x - k = 16 ∨ x - k = 80 := of_decide_eq_true h
    exact key true (decide_eq_true (by omega)) (by omega) (decide_eq_true (by omega))
theorem hits_none {x : Int} (h : ∀ k : Int, 0 ≤ k → k ≤ 3 → hitO x k = false ∧ hitT x k = false) : baseI x = (0, false, false) := by
  have e : okO x = false := by
    have a := h 0 (by decide) (by decide)
    have b := h 1 (by decide) (by decide)
    have c := h 2 (by decide) (by decide)
    have d := h 3 (by decide) (by decide)
    unfold hitO hitT at a b c d
    unfold okO
    simp only [decide_eq_false_iff_not] at a b c d ⊢
    omega
  unfold baseI; rw [e]; rfl
theorem okO_bd {m : Int} (h : okO m = true) : 0 ≤ m ∧ m < 128 := by unfold okO at h; simp only [decide_eq_true_eq] at h; omega

/-! ### Inherit -/
/-- The bits that are taken away. -/
def cutN (m d : Nat) (dir : Bool) : Nat := m &&& without (if dir then 511 else 438) d
def inhI (d m : Int) : Int := if 0 ≤ d ∧ 0 ≤ m then ((without m.toNat (without (if bitB m 2147483648 then 511 else 438) d.toNat) : Nat) : Int) else 0
theorem without_lt {a b n : Nat} (h : a < n) : without a b < n := Nat.lt_of_le_of_lt Nat.and_le_left h
theorem inh_bits {d m : Int} (h0 : 0 ≤ m) (h1 : m ≤ 9223372036854775807) (k0 : 0 ≤ d) (k1 : d ≤ 9223372036854775807) (b : Bool) (hb : bitB m 2147483648 = b) :
    bits .andNot .i64 m (bits .andNot .i64 (if b then 511 else 438) d) = inhI d m := by
  have hi : inhI d m = ((without m.toNat (without (if b then 511 else 438) d.toNat) : Nat) : Int) := by
    unfold inhI; rw [if_pos ⟨k0, h0⟩, hb]
  rw [hi]
  clear hi hb
  obtain ⟨n, rfl⟩ := Int.eq_ofNat_of_zero_le h0
  obtain ⟨e, rfl⟩ := Int.eq_ofNat_of_zero_le k0
  have e1 : bits .andNot .i64 (if b then 511 else 438) (e : Int) = ((without (if b then 511 else 438) e : Nat) : Int) := by
    cases b
    · exact i64_andNot_nat 438 e (by decide) (by omega)
    · exact i64_andNot_nat 511 e (by decide) (by omega)
  have hl : without (if b then 511 else 438) e < 512 := without_lt (by cases b <;> decide)
  rw [e1, i64_andNot_nat n _ (by omega) (by omega)]
  simp
end Go.Proofs.YtogjkkijejgggaaDoor
