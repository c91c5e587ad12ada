/-
  Modes as numbers, second part: texts. No walk in this text.
-/
import Derived.Test.YtogjkkijejgggaaDoorMa
namespace Go.Proofs.YtogjkkijejgggaaDoor

def mrk (m p : Int) (c : UInt8) : UInt8 := if bitB m p then c else 45
def textM (m : Int) : List UInt8 := [if bitB m 2147483648 then 100 else mrk m 1073741824 97, mrk m 536870912 108, mrk m 256 114, mrk m 128 119, mrk m 64 120, mrk m 32 114, mrk m 16 119, mrk m 8 120, mrk m 4 114, mrk m 2 119, mrk m 1 120]
def textI (m : Int) : List UInt8 := if vldB m then textM m else []
def plc (k : Nat) : Nat := [0, 0, 1, 2, 3, 4, 5, 6, 7, 8, 9, 10].getD k 0
def ltr (k : Nat) : UInt8 := [100, 97, 108, 114, 119, 120, 114, 119, 120, 114, 119, 120].getD k 0
def bt (k : Nat) : Int := [2147483648, 1073741824, 536870912, 256, 128, 64, 32, 16, 8, 4, 2, 1].getD k 1
/-- What the program's text holds behind k marks. -/
def textK (m : Int) : Nat → List UInt8
  | 0 => List.replicate 11 45
  | k + 1 => if bitB m (bt k) then (textK m k).set (plc k) (ltr k) else textK m k
theorem textK_len (m : Int) (k : Nat) : (textK m k).length = 11 := by
  induction k with
  | zero => rfl
  | succ k ih => unfold textK; split <;> simp [ih]
def midT (m : Int) (k : Nat) : List UInt8 :=
  let c := fun j (x : UInt8) => if j < k then mrk m (bt j) x else 45
  [if 1 < k then (if bitB m 1073741824 then 97 else mrk m 2147483648 100) else c 0 100, c 2 108, c 3 114, c 4 119, c 5 120, c 6 114, c 7 119, c 8 120, c 9 114, c 10 119, c 11 120]
theorem textK_mid (m : Int) : ∀ k, k ≤ 12 → textK m k = midT m k
  | 0, _ => rfl
  | k + 1, h => by
    have ih := textK_mid m k (by omega)
    show (if bitB m (bt k) then (textK m k).set (plc k) (ltr k) else textK m k) = _
    rw [ih]
    match k, h with
    | 0, _ => cases hb : bitB m (bt 0) <;> simp [midT, mrk, plc, ltr, hb]
    | 1, _ => cases hb : bitB m (bt 1) <;> (have hb' : bitB m 1073741824 = _ := hb; simp [midT, mrk, plc, ltr, hb']; try rfl)
    | 2, _ | 3, _ | 4, _ | 5, _ | 6, _ | 7, _ | 8, _ | 9, _ | 10, _ | 11, _ => cases hb : bitB m (bt _) <;> simp [midT, mrk, plc, ltr, hb]
    | n + 12, h => omega
theorem textK_end {m : Int} (h : vldB m = true) : textK m 12 = textM m := by
  rw [textK_mid m 12 (by omega)]
  have : ¬ (bitB m 2147483648 = true ∧ bitB m 1073741824 = true) := by
    unfold vldB at h; unfold bitB
    simp only [decide_eq_true_eq] at h ⊢
    omega
  unfold midT textM mrk
  simp only [bt]
  cases h1 : bitB m 2147483648 <;> cases h2 : bitB m 1073741824 <;> simp_all

/-! ### Parse -/
def modeK (s : List UInt8) : Nat → Int
  | 0 => 0
  | k + 1 => modeK s k + if s.getD (plc k) 0 = ltr k then bt k else 0
theorem modeK_mul (s : List UInt8) : ∀ k, k ≤ 11 → modeK s k % (2 * bt k) = 0 ∧ 0 ≤ modeK s k ∧ modeK s k ≤ 4294967296 - 2 * bt k
  | 0, _ => by refine ⟨?_, ?_, ?_⟩ <;> simp [modeK, bt]
  | k + 1, h => by
    obtain ⟨h1, h2, h3⟩ := modeK_mul s k (by omega)
    have e : modeK s (k + 1) = modeK s k + bt k ∨ modeK s (k + 1) = modeK s k := by
      show (modeK s k + if s.getD (plc k) 0 = ltr k then bt k else 0) = modeK s k + bt k ∨ (modeK s k + if s.getD (plc k) 0 = ltr k then bt k else 0) = _
      split <;> simp
    match k, h with
    | 0, _ | 1, _ | 2, _ | 3, _ | 4, _ | 5, _ | 6, _ | 7, _ | 8, _ | 9, _ | 10, _ =>
      simp only [bt, List.getD_cons_zero, List.getD_cons_succ] at h1 h2 h3 e ⊢
      omega
    | n + 11, h => omega
theorem bt_pow (k : Nat) (hk : k < 12) : ∃ j : Nat, j < 63 ∧ bt k = ((2 ^ j : Nat) : Int) := by
  match k, hk with
  | 0, _ => exact ⟨31, by decide, rfl⟩
  | 1, _ => exact ⟨30, by decide, rfl⟩
  | 2, _ => exact ⟨29, by decide, rfl⟩
  | 3, _ => exact ⟨8, by decide, rfl⟩
  | 4, _ => exact ⟨7, by decide, rfl⟩
  | 5, _ => exact ⟨6, by decide, rfl⟩
  | 6, _ => exact ⟨5, by decide, rfl⟩
  | 7, _ => exact ⟨4, by decide, rfl⟩
  | 8, _ => exact ⟨3, by decide, rfl⟩
  | 9, _ => exact ⟨2, by decide, rfl⟩
  | 10, _ => exact ⟨1, by decide, rfl⟩
  | 11, _ => exact ⟨0, by decide, rfl⟩
  | n + 12, h => omega
theorem and_bt {m : Int} (h0 : 0 ≤ m) (h1 : m ≤ 9223372036854775807) {k : Nat} (hk : k < 12) : (bits .and .i64 m (bt k) != 0) = bitB m (bt k) := by
  obtain ⟨j, hj, e⟩ := bt_pow k hk
  rw [e]; exact and_bitB h0 h1 j hj
theorem bt_le (k : Nat) (hk : k < 12) : 1 ≤ bt k ∧ bt k ≤ 2147483648 := by
  match k, hk with
  | 0, _ | 1, _ | 2, _ | 3, _ | 4, _ | 5, _ | 6, _ | 7, _ | 8, _ | 9, _ | 10, _ | 11, _ => decide
  | n + 12, h => omega
theorem or_modeK (s : List UInt8) {k : Nat} (hk : k < 12) : bits .or .i64 (modeK s k) (bt k) = modeK s k + bt k := by
  obtain ⟨h1, h2, h3⟩ := modeK_mul s k (by omega)
  obtain ⟨j, hj, e⟩ := bt_pow k hk
  have hb := bt_le k hk
  generalize modeK s k = x at h1 h2 h3 ⊢
  obtain ⟨n, rfl⟩ := Int.eq_ofNat_of_zero_le h2
  rw [e] at h1 hb ⊢
  rw [i64_or_nat n (2 ^ j) (by omega) (by omega), or_bit n j (by
    rw [Nat.pow_succ]
    generalize 2 ^ j = p at h1 hb
    have e2 : (2 * (p : Int)) = ((p * 2 : Nat) : Int) := by omega
    rw [e2, ← Int.natCast_emod] at h1
    omega)]
  omega
def hb (k : Nat) : Int := [256, 128, 64, 32, 16, 8, 4, 2, 1].getD k 0
def headR (s : List UInt8) : Int := (if s.getD 0 0 = 97 then 1073741824 else if s.getD 0 0 = 100 then 2147483648 else 0) + (if s.getD 1 0 = 108 then 536870912 else 0)
def modeR (s : List UInt8) : Nat → Int
  | 0 => headR s
  | k + 1 => modeR s k + if s.getD (k + 2) 0 = 45 then 0 else hb k
theorem modeR_le (s : List UInt8) (k : Nat) (hk : k ≤ 9) : 0 ≤ modeR s k ∧ modeR s k ≤ 4294967296 + 256 * k := by
  induction k with
  | zero => show 0 ≤ headR s ∧ headR s ≤ _; unfold headR; (repeat' split) <;> omega
  | succ k ih =>
    have ih := ih (by omega)
    have hh : 0 ≤ hb k ∧ hb k ≤ 256 := by
      match k, hk with
      | 0, _ | 1, _ | 2, _ | 3, _ | 4, _ | 5, _ | 6, _ | 7, _ | 8, _ => decide
      | n + 9, h => omega
    show 0 ≤ (modeR s k + if s.getD (k + 2) 0 = 45 then 0 else hb k) ∧ (modeR s k + if s.getD (k + 2) 0 = 45 then 0 else hb k) ≤ _
    split <;> omega
theorem bit_add {m : Int} (h : 0 ≤ m) (p : Int) (c : UInt8) (hc : c ≠ 45) : (if mrk m p c = c then p else 0) = m / p % 2 * p := by
  have e : (mrk m p c = c) = (m / p % 2 = 1) := by
    unfold mrk bitB
    by_cases h2 : m / p % 2 = 1
    · simp [h2, h]
    · simp [h2]; exact fun e => hc e.symm
  simp only [e]
  split <;> rename_i h2
  · rw [h2]; omega
  · have h3 : m / p % 2 = 0 := by omega
    rw [h3]; omega
theorem bit_add' {m : Int} (h : 0 ≤ m) (p : Int) (c : UInt8) (hc : c ≠ 45) : (if mrk m p c = 45 then 0 else p) = m / p % 2 * p := by
  have e : (mrk m p c = 45) = ¬ (m / p % 2 = 1) := by
    unfold mrk bitB
    by_cases h2 : m / p % 2 = 1
    · simp [h2, h, hc]
    · simp [h2]
  simp only [e]
  split <;> rename_i h2
  · have h3 : m / p % 2 = 0 := by omega
    rw [h3]; omega
  · have h3 : m / p % 2 = 1 := by omega
    rw [h3]; omega
theorem low_sum (m : Int) : m / 256 % 2 * 256 + m / 128 % 2 * 128 + m / 64 % 2 * 64 + m / 32 % 2 * 32 + m / 16 % 2 * 16 + m / 8 % 2 * 8 + m / 4 % 2 * 4 + m / 2 % 2 * 2 + m / 1 % 2 * 1 = m % 512 := by
  have h1 : m / 1 % 2 * 1 = m % 2 := by omega
  have h2 : m / 2 % 2 * 2 + m % 2 = m % 4 := by omega
  have h3 : m / 4 % 2 * 4 + m % 4 = m % 8 := by omega
  have h4 : m / 8 % 2 * 8 + m % 8 = m % 16 := by omega
  have h5 : m / 16 % 2 * 16 + m % 16 = m % 32 := by omega
  have h6 : m / 32 % 2 * 32 + m % 32 = m % 64 := by omega
  have h7 : m / 64 % 2 * 64 + m % 64 = m % 128 := by omega
  have h8 : m / 128 % 2 * 128 + m % 128 = m % 256 := by omega
  have h9 : m / 256 % 2 * 256 + m % 256 = m % 512 := by omega
  generalize m / 256 % 2 * 256 = a8 at *
  generalize m / 128 % 2 * 128 = a7 at *
  generalize m / 64 % 2 * 64 = a6 at *
  generalize m / 32 % 2 * 32 = a5 at *
  generalize m / 16 % 2 * 16 = a4 at *
  generalize m / 8 % 2 * 8 = a3 at *
  generalize m / 4 % 2 * 4 = a2 at *
  generalize m / 2 % 2 * 2 = a1 at *
  generalize m / 1 % 2 * 1 = a0 at *
  rw [← h9, ← h8, ← h7, ← h6, ← h5, ← h4, ← h3, ← h2, ← h1]
  simp only [Int.add_assoc]
theorem high_sum {m : Int} (h0 : 0 ≤ m) (h1 : m < 4294967296) (h2 : m / 512 % 1048576 = 0) (h3 : m / 1073741824 % 4 ≠ 3) :
    ∃ a b c : Int, m / 2147483648 % 2 = a ∧ m / 1073741824 % 2 = b ∧ m / 536870912 % 2 = c ∧ (a = 0 ∨ a = 1) ∧ (b = 0 ∨ b = 1) ∧ ¬ (a = 1 ∧ b = 1) ∧ a * 2147483648 + b * 1073741824 + c * 536870912 + m % 512 = m :=
  ⟨_, _, _, rfl, rfl, rfl, by omega, by omega, by omega, by omega⟩
theorem modeK_text {m : Int} (h : vldB m = true) : modeK (textM m) 12 = m := by
  have hv : 0 ≤ m ∧ m < 4294967296 ∧ m / 512 % 1048576 = 0 ∧ m / 1073741824 % 4 ≠ 3 := by simpa [vldB] using h
  obtain ⟨h0, h1, h2, h3⟩ := hv
  have e1 : ((textM m).getD 0 0 = 100) = (m / 2147483648 % 2 = 1) := by
    show ((if bitB m 2147483648 then (100 : UInt8) else mrk m 1073741824 97) = 100) = _
    unfold mrk bitB
    by_cases h4 : m / 2147483648 % 2 = 1
    · simp [h4, h0]
    · simp only [h0, h4, and_false, decide_false, Bool.false_eq_true, if_false, true_and]
      split <;> simp
  have e2 : ((textM m).getD 0 0 = 97) = (m / 1073741824 % 2 = 1) := by
    show ((if bitB m 2147483648 then (100 : UInt8) else mrk m 1073741824 97) = 97) = _
    unfold mrk bitB
    by_cases h4 : m / 2147483648 % 2 = 1
    · have h5 : ¬ m / 1073741824 % 2 = 1 := by omega
      simp [h4, h0, h5]
    · by_cases h5 : m / 1073741824 % 2 = 1 <;> simp [h0, h4, h5]
  simp only [modeK, plc, ltr, bt, List.getD_cons_zero, List.getD_cons_succ, e1, e2]
  simp only [textM, List.getD_cons_zero, List.getD_cons_succ]
  rw [bit_add h0 _ _ (by decide), bit_add h0 _ _ (by decide), bit_add h0 _ _ (by decide), bit_add h0 _ _ (by decide), bit_add h0 _ _ (by decide),
    bit_add h0 _ _ (by decide), bit_add h0 _ _ (by decide), bit_add h0 _ _ (by decide), bit_add h0 _ _ (by decide), bit_add h0 _ _ (by decide)]
  have hl := low_sum m
  obtain ⟨a, b, c, ea, eb, ec, ha, hb', hab, hs⟩ := high_sum h0 h1 h2 h3
  rw [ea, eb, ec]
  generalize m / 256 % 2 * 256 = a8 at hl ⊢
  generalize m / 128 % 2 * 128 = a7 at hl ⊢
  generalize m / 64 % 2 * 64 = a6 at hl ⊢
  generalize m / 32 % 2 * 32 = a5 at hl ⊢
  generalize m / 16 % 2 * 16 = a4 at hl ⊢
  generalize m / 8 % 2 * 8 = a3 at hl ⊢
  generalize m / 4 % 2 * 4 = a2 at hl ⊢
  generalize m / 2 % 2 * 2 = a1 at hl ⊢
  generalize m / 1 % 2 * 1 = a0 at hl ⊢
  clear ea eb ec h0 h1 h2 h3 e1 e2
  generalize m % 512 = r at hl hs
  rcases ha with rfl | rfl <;> rcases hb' with rfl | rfl
  · simp only [Int.reduceEq, if_false]; omega
  · simp only [Int.reduceEq, if_false, if_true]; omega
  · simp only [Int.reduceEq, if_false, if_true]; omega
  · exact absurd ⟨rfl, rfl⟩ hab
theorem modeR_text {m : Int} (h : vldB m = true) : modeR (textM m) 9 = m := by
  have hv : 0 ≤ m ∧ m < 4294967296 ∧ m / 512 % 1048576 = 0 ∧ m / 1073741824 % 4 ≠ 3 := by simpa [vldB] using h
  obtain ⟨h0, h1, h2, h3⟩ := hv
  have e1 : ((textM m).getD 0 0 = 100) = (m / 2147483648 % 2 = 1) := by
    show ((if bitB m 2147483648 then (100 : UInt8) else mrk m 1073741824 97) = 100) = _
    unfold mrk bitB
    by_cases h4 : m / 2147483648 % 2 = 1
    · simp [h4, h0]
    · simp only [h0, h4, and_false, decide_false, Bool.false_eq_true, if_false, true_and]
      split <;> simp
  have e2 : ((textM m).getD 0 0 = 97) = (m / 1073741824 % 2 = 1) := by
    show ((if bitB m 2147483648 then (100 : UInt8) else mrk m 1073741824 97) = 97) = _
    unfold mrk bitB
    by_cases h4 : m / 2147483648 % 2 = 1
    · have h5 : ¬ m / 1073741824 % 2 = 1 := by omega
      simp [h4, h0, h5]
    · by_cases h5 : m / 1073741824 % 2 = 1 <;> simp [h0, h4, h5]
  simp only [modeR, headR, hb, e1, e2]
  simp only [textM, List.getD_cons_zero, List.getD_cons_succ]
  rw [bit_add' h0 _ _ (by decide), bit_add' h0 _ _ (by decide), bit_add' h0 _ _ (by decide), bit_add' h0 _ _ (by decide), bit_add' h0 _ _ (by decide),
    bit_add' h0 _ _ (by decide), bit_add' h0 _ _ (by decide), bit_add' h0 _ _ (by decide), bit_add' h0 _ _ (by decide)]
  rw [bit_add h0 _ _ (by decide)]
  have hl := low_sum m
  obtain ⟨a, b, c, ea, eb, ec, ha, hb', hab, hs⟩ := high_sum h0 h1 h2 h3
  rw [ea, eb, ec]
  generalize m / 256 % 2 * 256 = a8 at hl ⊢
  generalize m / 128 % 2 * 128 = a7 at hl ⊢
  generalize m / 64 % 2 * 64 = a6 at hl ⊢
  generalize m / 32 % 2 * 32 = a5 at hl ⊢
  generalize m / 16 % 2 * 16 = a4 at hl ⊢
  generalize m / 8 % 2 * 8 = a3 at hl ⊢
  generalize m / 4 % 2 * 4 = a2 at hl ⊢
  generalize m / 2 % 2 * 2 = a1 at hl ⊢
  generalize m / 1 % 2 * 1 = a0 at hl ⊢
  clear ea eb ec h0 h1 h2 h3 e1 e2
  generalize m % 512 = r at hl hs
  rcases ha with rfl | rfl <;> rcases hb' with rfl | rfl
  · simp only [Int.reduceEq, if_false]; omega
  · simp only [Int.reduceEq, if_false, if_true]; omega
  · simp only [Int.reduceEq, if_false, if_true]; omega
  · exact absurd ⟨rfl, rfl⟩ hab
theorem textI_none (m : Int) : (textI m).length = 11 ∨ textI m = [] := by
  unfold textI; split
  · exact .inl rfl
  · exact .inr rfl
/-- The two readings agree. -/
theorem parse_same {s : List UInt8} (hs : s.length = 11) : (textI (modeK s 12) = s ↔ textI (modeR s 9) = s) ∧ (textI (modeK s 12) = s → modeR s 9 = modeK s 12) := by
  have key : ∀ m, textI m = s → vldB m = true ∧ modeK s 12 = m ∧ modeR s 9 = m := by
    intro m hm
    cases hv : vldB m with
    | false => unfold textI at hm; rw [hv] at hm; rw [← hm] at hs; simp at hs
    | true =>
      have ht : textM m = s := by unfold textI at hm; rw [hv] at hm; exact hm
      rw [← ht]
      exact ⟨rfl, modeK_text hv, modeR_text hv⟩
  refine ⟨⟨fun h => ?_, fun h => ?_⟩, fun h => ?_⟩
  · obtain ⟨_, _, e⟩ := key _ h; rw [e]; exact h
  · obtain ⟨_, e, _⟩ := key _ h; rw [e]; exact h
  · exact (key _ h).2.2
end Go.Proofs.YtogjkkijejgggaaDoor
