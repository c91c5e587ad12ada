/-
  Modes as numbers, fourth part: what is inherited, what is granted. No walk in this text.
-/
import Derived.Test.YtogjkkijejgggaaDoorMc
namespace Go.Proofs.YtogjkkijejgggaaDoor

def pw (k : Nat) : Int := [1, 2, 4, 8, 16, 32, 64, 128, 256].getD k 512
theorem pw_bd (k : Nat) (hk : k ≤ 9) : 1 ≤ pw k ∧ pw k ≤ 512 := by
  match k, hk with
  | 0, _ | 1, _ | 2, _ | 3, _ | 4, _ | 5, _ | 6, _ | 7, _ | 8, _ | 9, _ => decide
  | n + 10, h => omega
theorem pw_next (k : Nat) (hk : k < 9) : 2 * pw k = pw (k + 1) := by
  match k, hk with
  | 0, _ | 1, _ | 2, _ | 3, _ | 4, _ | 5, _ | 6, _ | 7, _ | 8, _ => rfl
  | n + 9, h => omega
theorem pw_pow (k : Nat) (hk : k ≤ 9) : pw k = ((2 ^ k : Nat) : Int) := by
  match k, hk with
  | 0, _ | 1, _ | 2, _ | 3, _ | 4, _ | 5, _ | 6, _ | 7, _ | 8, _ | 9, _ => rfl
  | n + 10, h => omega
theorem bitB_nat (n k : Nat) : bitB (n : Int) ((2 ^ k : Nat) : Int) = n.testBit k := by
  unfold bitB
  rw [Nat.testBit_eq_decide_div_mod_eq, decide_eq_decide, ← Int.natCast_ediv]
  omega

/-! ### Inherit -/
def execB (k : Nat) : Bool := decide (k = 0 ∨ k = 3 ∨ k = 6)
def cutB (d m : Int) (k : Nat) : Bool := (bitB m (pw k) && !bitB d (pw k)) && (bitB m 2147483648 || !execB k)
def inhK (d m : Int) : Nat → Int
  | 0 => m
  | k + 1 => inhK d m k - if cutB d m k then pw k else 0
theorem inh_mask (b : Bool) (k : Nat) (hk : k < 9) : (if b then 511 else 438).testBit k = (b || !execB k) := by
  match k, hk with
  | 0, _ | 1, _ | 2, _ | 3, _ | 4, _ | 5, _ | 6, _ | 7, _ | 8, _ => cases b <;> decide
  | n + 9, h => omega
theorem inhK_end {d m : Int} (h0 : 0 ≤ m) (h1 : m ≤ 9223372036854775807) (k0 : 0 ≤ d) (k1 : d ≤ 9223372036854775807) : inhK d m 9 = inhI d m := by
  unfold inhI
  rw [if_pos ⟨k0, h0⟩]
  obtain ⟨n, rfl⟩ := Int.eq_ofNat_of_zero_le h0
  obtain ⟨e, rfl⟩ := Int.eq_ofNat_of_zero_le k0
  simp only [Int.ofNat_toNat, Int.toNat_natCast]
  generalize hb : bitB (n : Int) 2147483648 = b
  have hl : without (if b then 511 else 438) e < 512 := without_lt (by cases b <;> decide)
  have hs := without_add n (without (if b then 511 else 438) e) (by omega) (by omega)
  have hX : n &&& without (if b then 511 else 438) e < 512 := Nat.lt_of_le_of_lt Nat.and_le_right hl
  have key : ∀ k, k < 9 → (if cutB (e : Int) (n : Int) k then pw k else 0) = (((n &&& without (if b then 511 else 438) e : Nat) : Int) / pw k % 2) * pw k := by
    intro k hk
    have e1 : (n &&& without (if b then 511 else 438) e).testBit k = cutB (e : Int) (n : Int) k := by
      rw [Nat.testBit_and, without_bit _ _ _ (by cases b <;> decide) (by omega), inh_mask b k hk]
      unfold cutB
      rw [hb, pw_pow k (by omega), bitB_nat, bitB_nat]
      cases n.testBit k <;> cases e.testBit k <;> cases (b || !execB k) <;> rfl
    rw [← e1, ← bitB_nat, ← pw_pow k (by omega)]
    unfold bitB
    have hx : 0 ≤ ((n &&& without (if b then 511 else 438) e : Nat) : Int) := by omega
    generalize ((n &&& without (if b then 511 else 438) e : Nat) : Int) = x at hx ⊢
    by_cases h2 : x / pw k % 2 = 1
    · simp [h2, hx]
    · have h3 : x / pw k % 2 = 0 := by omega
      simp [h3]
  have a0 := key 0 (by omega)
  have a1 := key 1 (by omega)
  have a2 := key 2 (by omega)
  have a3 := key 3 (by omega)
  have a4 := key 4 (by omega)
  have a5 := key 5 (by omega)
  have a6 := key 6 (by omega)
  have a7 := key 7 (by omega)
  have a8 := key 8 (by omega)
  clear key
  have hl := low_sum ((n &&& without (if b then 511 else 438) e : Nat) : Int)
  have hmod : ((n &&& without (if b then 511 else 438) e : Nat) : Int) % 512 = ((n &&& without (if b then 511 else 438) e : Nat) : Int) := by omega
  rw [hmod] at hl
  simp only [inhK]
  rw [a0, a1, a2, a3, a4, a5, a6, a7, a8]
  clear a0 a1 a2 a3 a4 a5 a6 a7 a8 hmod
  simp only [pw, List.getD_cons_zero, List.getD_cons_succ]
  generalize ((without n (without (if b then 511 else 438) e) : Nat)) = r at *
  generalize (n &&& without (if b then 511 else 438) e) = X at *
  omega
theorem inh_nat {d m : Int} (h0 : 0 ≤ m) (h1 : m ≤ 9223372036854775807) (k0 : 0 ≤ d) :
    ∃ n Y : Nat, m = (n : Int) ∧ Y < 512 ∧ inhI d m = ((without n Y : Nat) : Int) ∧ Y = without (if bitB m 2147483648 then 511 else 438) d.toNat := by
  obtain ⟨n, rfl⟩ := Int.eq_ofNat_of_zero_le h0
  refine ⟨n, _, rfl, ?_, ?_, rfl⟩
  · exact without_lt (by split <;> decide)
  · unfold inhI; rw [if_pos ⟨k0, h0⟩]; rfl
theorem inh_laws {d m : Int} (h0 : 0 ≤ m) (h1 : m ≤ 9223372036854775807) (k0 : 0 ≤ d) :
    0 ≤ inhI d m ∧ inhI d m ≤ m ∧ bits .or .i64 (inhI d m) m = m ∧ inhI d m / 512 = m / 512 ∧ typeI (inhI d m) = typeI m ∧ inhI d (inhI d m) = inhI d m := by
  obtain ⟨n, Y, rfl, hY, e, eY⟩ := inh_nat h0 h1 k0
  have hle : without n Y ≤ n := Nat.and_le_left
  have hs := without_add n Y (by omega) (by omega)
  have hX : n &&& Y ≤ n % 512 := by
    have a : (n &&& Y) % 512 = n % 512 &&& Y % 512 := Nat.and_mod_two_pow (n := 9)
    have b : (n &&& Y) < 512 := Nat.lt_of_le_of_lt Nat.and_le_right hY
    have c : n % 512 &&& Y % 512 ≤ n % 512 := Nat.and_le_left
    omega
  have hq : ((without n Y : Nat) : Int) / 512 = (n : Int) / 512 := by omega
  rw [e]
  have ht : typeI ((without n Y : Nat) : Int) = typeI (n : Int) := typeI_same (by omega) (by omega) hq
  refine ⟨by omega, by omega, ?_, hq, ht, ?_⟩
  · rw [i64_or_nat _ _ (by omega) (by omega)]
    congr 1
    unfold without
    apply Nat.eq_of_testBit_eq
    intro i
    rw [Nat.testBit_or, Nat.testBit_and]
    cases n.testBit i <;> simp
  · unfold inhI
    rw [if_pos ⟨k0, by omega⟩]
    have hb : bitB ((without n Y : Nat) : Int) 2147483648 = bitB (n : Int) 2147483648 := by unfold bitB; rw [decide_eq_decide]; omega
    rw [hb, ← eY]
    simp only [Int.toNat_natCast]
    congr 1
    unfold without
    rw [Nat.and_assoc, Nat.and_self]

/-! ### Allows -/
def grK (mem own : Bool) (m : Int) (k : Nat) : Bool := (bitB m (pw k) || (bitB m (8 * pw k) && mem)) || (bitB m (64 * pw k) && own)
def okK (mem own : Bool) (m want : Int) (k : Nat) : Bool := !bitB want (pw k) || grK mem own m k
def allowsI (mem own : Bool) (m want : Int) : Bool := decide (0 ≤ m ∧ 0 ≤ want ∧ want ≤ 7) && (okK mem own m want 0 && okK mem own m want 1 && okK mem own m want 2)
def grantI (mem own : Bool) (m : Int) : Int :=
  bits .and .i64 (if own then bits .or .i64 (if mem then bits .or .i64 m (m / 8) else m) (m / 64) else if mem then bits .or .i64 m (m / 8) else m) 7
set_option maxRecDepth 100000 in
theorem small_allow : ∀ W, W < 8 → ∀ G, G < 8 → ((without W G == 0) = ((!W.testBit 0 || G.testBit 0) && (!W.testBit 1 || G.testBit 1) && (!W.testBit 2 || G.testBit 2))) := by decide
theorem grant_nat (mem own : Bool) (n : Nat) (h : n < 9223372036854775808) :
    ∃ G : Nat, G < 8 ∧ grantI mem own (n : Int) = (G : Int) ∧ ∀ k, k < 3 → G.testBit k = grK mem own (n : Int) k := by
  have e8 : (n : Int) / 8 = ((n / 8 : Nat) : Int) := by omega
  have e64 : (n : Int) / 64 = ((n / 64 : Nat) : Int) := by omega
  have hor : ∀ a b : Nat, a < 9223372036854775808 → b < 9223372036854775808 → a ||| b < 9223372036854775808 := fun a b ha hb => Nat.or_lt_two_pow (n := 63) (by omega) (by omega)
  have h8 := i64_or_nat n (n / 8) h (by omega)
  have h64 := i64_or_nat n (n / 64) h (by omega)
  have h72 := i64_or_nat (n ||| n / 8) (n / 64) (hor _ _ h (by omega)) (by omega)
  have key : ∀ R : Nat, R < 9223372036854775808 → bits .and .i64 (R : Int) 7 = ((R &&& 7 : Nat) : Int) := fun R hR => i64_and_nat R 7 hR (by decide)
  have k7 : ∀ R k : Nat, k < 3 → (R &&& 7).testBit k = R.testBit k := fun R k hk => by
    rw [Nat.testBit_and]
    match k, hk with
    | 0, _ | 1, _ | 2, _ => simp [show Nat.testBit 7 0 = true from rfl, show Nat.testBit 7 1 = true from rfl, show Nat.testBit 7 2 = true from rfl]
    | j + 3, hj => omega
  have l7 : ∀ R : Nat, R &&& 7 < 8 := fun R => Nat.lt_of_le_of_lt Nat.and_le_right (by decide)
  have b8 : ∀ k, k < 3 → bitB (n : Int) (8 * pw k) = (n / 8).testBit k := fun k hk => by
    have : 8 * pw k = ((2 ^ (3 + k) : Nat) : Int) := by rw [pw_pow k (by omega), Nat.pow_add]; omega
    rw [this, bitB_nat]
    have := Nat.testBit_div_two_pow (n := 3) n k
    rw [show (2 : Nat) ^ 3 = 8 from rfl] at this
    rw [this, Nat.add_comm]
  have b64 : ∀ k, k < 3 → bitB (n : Int) (64 * pw k) = (n / 64).testBit k := fun k hk => by
    have : 64 * pw k = ((2 ^ (6 + k) : Nat) : Int) := by rw [pw_pow k (by omega), Nat.pow_add]; omega
    rw [this, bitB_nat]
    have := Nat.testBit_div_two_pow (n := 6) n k
    rw [show (2 : Nat) ^ 6 = 64 from rfl] at this
    rw [this, Nat.add_comm]
  unfold grantI
  rw [e8, e64]
  cases mem <;> cases own
  · refine ⟨n &&& 7, l7 _, key _ h, fun k hk => ?_⟩
    rw [k7 _ _ hk]; unfold grK; rw [pw_pow k (by omega), bitB_nat]; simp
  · refine ⟨(n ||| n / 64) &&& 7, l7 _, ?_, fun k hk => ?_⟩
    · simp only [if_true, Bool.false_eq_true, if_false]; rw [h64]; exact key _ (hor _ _ h (by omega))
    · rw [k7 _ _ hk, Nat.testBit_or]; unfold grK; rw [b64 k hk, pw_pow k (by omega), bitB_nat]; simp
  · refine ⟨(n ||| n / 8) &&& 7, l7 _, ?_, fun k hk => ?_⟩
    · simp only [if_true, Bool.false_eq_true, if_false]; rw [h8]; exact key _ (hor _ _ h (by omega))
    · rw [k7 _ _ hk, Nat.testBit_or]; unfold grK; rw [b8 k hk, pw_pow k (by omega), bitB_nat]; simp
  · refine ⟨((n ||| n / 8) ||| n / 64) &&& 7, l7 _, ?_, fun k hk => ?_⟩
    · simp only [if_true]; rw [h8, h72]; exact key _ (hor _ _ (hor _ _ h (by omega)) (by omega))
    · rw [k7 _ _ hk, Nat.testBit_or, Nat.testBit_or]; unfold grK; rw [b8 k hk, b64 k hk, pw_pow k (by omega), bitB_nat]; simp
theorem allow_bits (mem own : Bool) {m want : Int} (h0 : 0 ≤ m) (h1 : m ≤ 9223372036854775807) (k0 : 0 ≤ want) (k1 : want ≤ 7) :
    (bits .andNot .i64 want (grantI mem own m) == 0) = allowsI mem own m want := by
  obtain ⟨n, rfl⟩ := Int.eq_ofNat_of_zero_le h0
  obtain ⟨W, rfl⟩ := Int.eq_ofNat_of_zero_le k0
  obtain ⟨G, hG, e, hb⟩ := grant_nat mem own n (by omega)
  rw [e, i64_andNot_nat W G (by omega) (by omega)]
  have e2 : (((without W G : Nat) : Int) == 0) = (without W G == 0) := by rw [Bool.eq_iff_iff]; simp
  rw [e2, small_allow W (by omega) G hG, hb 0 (by omega), hb 1 (by omega), hb 2 (by omega)]
  unfold allowsI okK
  rw [pw_pow 0 (by omega), pw_pow 1 (by omega), pw_pow 2 (by omega), bitB_nat, bitB_nat, bitB_nat, decide_eq_true ⟨h0, k0, k1⟩, Bool.true_and]
end Go.Proofs.YtogjkkijejgggaaDoor
