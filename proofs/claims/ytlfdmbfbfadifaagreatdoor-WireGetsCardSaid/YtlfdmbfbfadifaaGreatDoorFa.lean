/-
  The texts of errors as lists of bytes: the table, the search in it, the cut at the last colon with a blank. No walk in this text.
-/
import Derived.Lib.LastIndexLaws
namespace Go.Proofs.YtlfdmbfbfadifaaGreatDoor.Ft
open Go.Lib

def textsL : List (List UInt8) := [
  [],
  [105, 110, 118, 97, 108, 105, 100, 32, 97, 114, 103, 117, 109, 101, 110, 116],
  [109, 97, 108, 102, 111, 114, 109, 101, 100, 32, 100, 97, 116, 97],
  [100, 97, 116, 97, 32, 116, 111, 111, 32, 115, 104, 111, 114, 116],
  [100, 97, 116, 97, 32, 116, 111, 111, 32, 108, 111, 110, 103],
  [110, 117, 109, 98, 101, 114, 32, 111, 117, 116, 32, 111, 102, 32, 114, 97, 110, 103, 101],
  [105, 110, 118, 97, 108, 105, 100, 32, 110, 97, 109, 101],
  [102, 105, 108, 101, 32, 97, 108, 114, 101, 97, 100, 121, 32, 101, 120, 105, 115, 116, 115],
  [102, 105, 108, 101, 32, 100, 111, 101, 115, 32, 110, 111, 116, 32, 101, 120, 105, 115, 116],
  [110, 111, 116, 32, 97, 32, 100, 105, 114, 101, 99, 116, 111, 114, 121],
  [102, 105, 108, 101, 32, 105, 115, 32, 97, 32, 100, 105, 114, 101, 99, 116, 111, 114, 121],
  [112, 101, 114, 109, 105, 115, 115, 105, 111, 110, 32, 100, 101, 110, 105, 101, 100],
  [105, 110, 118, 97, 108, 105, 100, 32, 111, 112, 101, 110, 32, 109, 111, 100, 101],
  [117, 110, 107, 110, 111, 119, 110, 32, 102, 105, 100],
  [102, 105, 100, 32, 105, 110, 32, 117, 115, 101],
  [102, 105, 108, 101, 32, 105, 115, 32, 111, 112, 101, 110],
  [102, 105, 108, 101, 32, 105, 115, 32, 110, 111, 116, 32, 111, 112, 101, 110],
  [116, 97, 103, 32, 105, 110, 32, 117, 115, 101],
  [110, 111, 32, 118, 101, 114, 115, 105, 111, 110, 32, 110, 101, 103, 111, 116, 105, 97, 116, 101, 100],
  [105, 110, 118, 97, 108, 105, 100, 32, 109, 101, 115, 115, 97, 103, 101, 32, 115, 105, 122, 101],
  [105, 110, 118, 97, 108, 105, 100, 32, 111, 102, 102, 115, 101, 116],
  [113, 117, 111, 116, 97, 32, 101, 120, 99, 101, 101, 100, 101, 100],
  [108, 105, 109, 105, 116, 32, 114, 101, 97, 99, 104, 101, 100],
  [100, 105, 114, 101, 99, 116, 111, 114, 121, 32, 105, 115, 32, 110, 111, 116, 32, 101, 109, 112, 116, 121],
  [101, 120, 99, 108, 117, 115, 105, 118, 101, 32, 117, 115, 101, 32, 102, 105, 108, 101, 32, 105, 115, 32, 111, 112, 101, 110],
  [117, 110, 107, 110, 111, 119, 110, 32, 117, 115, 101, 114],
  [110, 111, 116, 32, 97, 32, 109, 101, 109, 98, 101, 114, 32, 111, 102, 32, 116, 104, 101, 32, 103, 114, 111, 117, 112],
  [97, 116, 116, 114, 105, 98, 117, 116, 101, 115, 32, 99, 97, 110, 110, 111, 116, 32, 98, 101, 32, 99, 104, 97, 110, 103, 101, 100],
  [97, 117, 116, 104, 101, 110, 116, 105, 99, 97, 116, 105, 111, 110, 32, 102, 97, 105, 108, 101, 100],
  [97, 117, 116, 104, 101, 110, 116, 105, 99, 97, 116, 105, 111, 110, 32, 105, 115, 32, 110, 111, 116, 32, 114, 101, 113, 117, 105, 114, 101, 100],
  [99, 111, 110, 110, 101, 99, 116, 105, 111, 110, 32, 105, 115, 32, 100, 111, 119, 110],
  [115, 101, 115, 115, 105, 111, 110, 32, 100, 111, 101, 115, 32, 110, 111, 116, 32, 101, 120, 105, 115, 116],
  [108, 101, 97, 115, 101, 32, 100, 111, 101, 115, 32, 110, 111, 116, 32, 101, 120, 105, 115, 116],
  [102, 105, 108, 101, 32, 115, 121, 115, 116, 101, 109, 32, 105, 115, 32, 114, 101, 97, 100, 32, 111, 110, 108, 121],
  [98, 108, 111, 99, 107, 32, 105, 115, 32, 99, 111, 114, 114, 117, 112, 116],
  [110, 111, 32, 98, 108, 111, 99, 107, 32, 119, 105, 116, 104, 32, 116, 104, 105, 115, 32, 115, 99, 111, 114, 101],
  [105, 110, 118, 97, 108, 105, 100, 32, 100, 105, 97, 108, 32, 115, 116, 114, 105, 110, 103],
  [117, 110, 107, 110, 111, 119, 110, 32, 110, 101, 116, 119, 111, 114, 107],
  [117, 110, 107, 110, 111, 119, 110, 32, 104, 111, 115, 116],
  [117, 110, 107, 110, 111, 119, 110, 32, 115, 101, 114, 118, 105, 99, 101],
  [99, 111, 110, 110, 101, 99, 116, 105, 111, 110, 32, 114, 101, 102, 117, 115, 101, 100],
  [97, 100, 100, 114, 101, 115, 115, 32, 105, 110, 32, 117, 115, 101],
  [112, 114, 111, 99, 101, 115, 115, 32, 100, 111, 101, 115, 32, 110, 111, 116, 32, 101, 120, 105, 115, 116],
  [110, 111, 116, 32, 112, 111, 115, 115, 105, 98, 108, 101, 32, 105, 110, 32, 116, 104, 105, 115, 32, 115, 116, 97, 116, 101],
  [110, 111, 116, 32, 97, 110, 32, 111, 112, 101, 110, 32, 102, 105, 108, 101, 32, 100, 101, 115, 99, 114, 105, 112, 116, 111, 114],
  [110, 111, 116, 104, 105, 110, 103, 32, 105, 115, 32, 109, 111, 117, 110, 116, 101, 100, 32, 116, 104, 101, 114, 101],
  [99, 114, 101, 97, 116, 105, 111, 110, 32, 105, 115, 32, 110, 111, 116, 32, 112, 101, 114, 109, 105, 116, 116, 101, 100],
  [115, 121, 110, 116, 97, 120, 32, 101, 114, 114, 111, 114],
  [109, 105, 115, 115, 105, 110, 103, 32, 113, 117, 111, 116, 101],
  [109, 97, 108, 102, 111, 114, 109, 101, 100, 32, 114, 101, 103, 117, 108, 97, 114, 32, 101, 120, 112, 114, 101, 115, 115, 105, 111, 110],
  [109, 97, 108, 102, 111, 114, 109, 101, 100, 32, 114, 117, 108, 101],
  [117, 110, 107, 110, 111, 119, 110, 32, 112, 111, 114, 116],
  [110, 111, 32, 107, 101, 121, 32, 109, 97, 116, 99, 104, 101, 115],
  [112, 114, 111, 116, 111, 99, 111, 108, 32, 105, 115, 32, 111, 117, 116, 32, 111, 102, 32, 112, 104, 97, 115, 101],
  [117, 110, 107, 110, 111, 119, 110, 32, 99, 111, 110, 116, 114, 111, 108, 32, 114, 101, 113, 117, 101, 115, 116],
  [111, 116, 104, 101, 114, 32, 101, 110, 100, 32, 105, 115, 32, 99, 108, 111, 115, 101, 100],
  [114, 101, 113, 117, 101, 115, 116, 32, 119, 97, 115, 32, 102, 108, 117, 115, 104, 101, 100],
  [115, 116, 101, 112, 32, 108, 105, 109, 105, 116, 32, 114, 101, 97, 99, 104, 101, 100],
  [117, 110, 107, 110, 111, 119, 110, 32, 99, 111, 109, 109, 97, 110, 100],
  [99, 111, 109, 109, 97, 110, 100, 32, 102, 97, 105, 108, 101, 100]]
def textL (e : Int) : List UInt8 := if e < 1 ∨ 59 < e then [] else textsL.getD e.toNat []
def findFrom (s : List UInt8) : Nat → Nat → Int × Bool
  | _, 0 => (0, false)
  | j, n + 1 => if textL (j : Int) = s then ((j : Int), true) else findFrom s (j + 1) n
def findL (s : List UInt8) : Int × Bool := findFrom s 1 59
def atL (what : List UInt8) (e : Int) : List UInt8 := if what = [] ∨ textL e = [] then what ++ textL e else what ++ [58, 32] ++ textL e
/-- A text cut at an index: the two parts (at -1: nothing and the whole). -/
def cutL (s : List UInt8) (i : Int) : List UInt8 × List UInt8 := if 0 ≤ i then (s.take i.toNat, s.drop (i.toNat + 2)) else ([], s)
def codeOf (p : List UInt8 × List UInt8) : List UInt8 × Int × Bool := if (findL p.2).2 = true then (p.1, (findL p.2).1, true) else ([], 0, false)
def codeL (s : List UInt8) : List UInt8 × Int × Bool := codeOf (cutL s (lastIndex s [58, 32]))

theorem findFrom_hit (s : List UInt8) (k : Nat) (hk : k < 59) (h : textL ((k : Int) + 1) = s) : findFrom s (k + 1) (59 - k) = ((k : Int) + 1, true) := by
  rw [show 59 - k = (58 - k) + 1 by omega, findFrom]
  rw [if_pos (by rw [← h]; congr 1)]
  congr 1
theorem findFrom_miss (s : List UInt8) (k : Nat) (hk : k < 59) (h : textL ((k : Int) + 1) ≠ s) : findFrom s (k + 1) (59 - k) = findFrom s (k + 1 + 1) (59 - (k + 1)) := by
  rw [show 59 - k = (59 - (k + 1)) + 1 by omega, findFrom]
  rw [if_neg (fun e => h (by rw [← e]; congr 1))]
theorem textL_out {e : Int} (h : e < 1 ∨ 59 < e) : textL e = [] := by unfold textL; rw [if_pos h]
theorem textL_in {k : Nat} (hk : k < 59) : textL ((k : Int) + 1) = textsL.getD (k + 1) [] := by
  unfold textL
  rw [if_neg (by omega), show ((k : Int) + 1).toNat = k + 1 by omega]

theorem finds : ∀ k : Fin 59, findL (textsL.getD (k.val + 1) []) = ((k.val : Int) + 1, true) := by decide +kernel
theorem plainText : ∀ k : Fin 59, textsL.getD (k.val + 1) [] ≠ [] ∧ (58 : UInt8) ∉ textsL.getD (k.val + 1) [] ∧ (textsL.getD (k.val + 1) []).length ≤ 40 := by decide +kernel
theorem textL_cases (e : Int) : textL e = [] ∧ (e < 1 ∨ 59 < e) ∨ ∃ k : Fin 59, e = (k.val : Int) + 1 ∧ textL e = textsL.getD (k.val + 1) [] := by
  by_cases h : e < 1 ∨ 59 < e
  · exact .inl ⟨textL_out h, h⟩
  · exact .inr ⟨⟨(e - 1).toNat, by omega⟩, by show e = (((e - 1).toNat : Nat) : Int) + 1; omega, by unfold textL; rw [if_neg h, show (e - 1).toNat + 1 = e.toNat by omega]⟩
theorem textL_len (e : Int) : (textL e).length ≤ 40 := by
  rcases textL_cases e with ⟨h, _⟩ | ⟨k, _, h⟩ <;> rw [h]
  · simp
  · exact (plainText k).2.2
theorem textL_nocolon (e : Int) : (58 : UInt8) ∉ textL e := by
  rcases textL_cases e with ⟨h, _⟩ | ⟨k, _, h⟩ <;> rw [h]
  · simp
  · exact (plainText k).2.1
theorem findL_nil : findL [] = (0, false) := by decide +kernel
theorem findL_text (e : Int) : findL (textL e) = if textL e = [] then (0, false) else (e, true) := by
  rcases textL_cases e with ⟨h, _⟩ | ⟨k, he, h⟩ <;> rw [h]
  · rw [if_pos rfl]; exact findL_nil
  · rw [if_neg (plainText k).1, finds k, he]

/-! the cut -/
theorem occ_iff (s : List UInt8) (i : Nat) : occAt s [58, 32] i = true ↔ s[i]? = some 58 ∧ s[i + 1]? = some 32 := by
  unfold occAt
  rw [← List.getElem?_drop (xs := s) (i := i) (j := 1)]
  rw [show s[i]? = (s.drop i)[0]? by rw [List.getElem?_drop, Nat.add_zero]]
  generalize s.drop i = l
  match l with
  | [] => simp [List.isPrefixOf]
  | [a] => simp [List.isPrefixOf]
  | a :: b :: l =>
    simp only [List.isPrefixOf, Bool.and_true, Bool.and_eq_true, beq_iff_eq, List.getElem?_cons_zero, List.getElem?_cons_succ, Option.some.injEq]
    constructor <;> rintro ⟨x, y⟩ <;> exact ⟨x.symm, y.symm⟩
theorem occ_room {s : List UInt8} {i : Nat} (h : occAt s [58, 32] i = true) : i + 1 < s.length := by
  have := ((occ_iff s i).1 h).2
  exact (List.getElem?_eq_some_iff.1 this).1
theorem lastOcc_past (s : List UInt8) (k n : Nat) (hk : s.length ≤ k + 1) : lastOcc s [58, 32] (k + n) = lastOcc s [58, 32] k := by
  induction n with
  | zero => rfl
  | succ n ih =>
    rw [← ih]
    show lastOcc s [58, 32] (k + n + 1) = _
    apply lastOcc_miss
    rw [Bool.eq_false_iff]
    intro h
    have := occ_room h
    omega
theorem lastIndex_two (s : List UInt8) : lastIndex s [58, 32] = lastOcc s [58, 32] (s.length - 1) := by
  unfold lastIndex
  split
  · rename_i h
    simp at h
    simp
    rw [show s.length - 2 + 1 = s.length - 1 by omega]
  · rename_i h
    simp at h
    match s, h with
    | [], _ => rfl
    | [a], _ => rfl
theorem lastIndex_bd (s : List UInt8) : lastIndex s [58, 32] = -1 ∨ ∃ i : Nat, lastIndex s [58, 32] = (i : Int) ∧ i + 2 ≤ s.length := by
  rw [lastIndex_two]
  rcases lastOcc_spec s [58, 32] (s.length - 1) with ⟨h, _⟩ | ⟨i, hi, h, _⟩
  · exact .inl h
  · exact .inr ⟨i, h, by omega⟩
theorem lastIndex_none {s : List UInt8} (h : (58 : UInt8) ∉ s) : lastIndex s [58, 32] = -1 := by
  rw [lastIndex_two]
  rcases lastOcc_spec s [58, 32] (s.length - 1) with ⟨h', _⟩ | ⟨i, _, _, ho, _⟩
  · exact h'
  · exact absurd (List.mem_of_getElem? ((occ_iff s i).1 ho).1) h
theorem lastIndex_mid (a t : List UInt8) (h : (58 : UInt8) ∉ t) : lastIndex (a ++ [58, 32] ++ t) [58, 32] = (a.length : Int) := by
  rw [lastIndex_two]
  have ho : occAt (a ++ [58, 32] ++ t) [58, 32] a.length = true := by rw [occ_iff]; simp
  have hno : ∀ j, a.length < j → occAt (a ++ [58, 32] ++ t) [58, 32] j = false := by
    intro j hj
    rw [Bool.eq_false_iff]
    intro hj'
    have h1 := ((occ_iff _ _).1 hj').1
    rw [List.append_assoc, List.getElem?_append_right (by omega)] at h1
    obtain ⟨m, rfl⟩ : ∃ m, j = a.length + 1 + m := ⟨j - (a.length + 1), by omega⟩
    rw [show a.length + 1 + m - a.length = m + 1 by omega] at h1
    cases m with
    | zero => simp at h1
    | succ m =>
      simp only [List.cons_append, List.nil_append, List.getElem?_cons_succ] at h1
      exact h (List.mem_of_getElem? h1)
  rcases lastOcc_spec (a ++ [58, 32] ++ t) [58, 32] ((a ++ [58, 32] ++ t).length - 1) with ⟨_, hn⟩ | ⟨i, hi, he, hoi, hn⟩
  · rw [hn a.length (by simp)] at ho; cases ho
  · rw [he]
    rcases Nat.lt_trichotomy i a.length with hlt | heq | hgt
    · rw [hn a.length hlt (by simp)] at ho; cases ho
    · rw [heq]
    · rw [hno i hgt] at hoi; cases hoi
theorem cutL_pos (s : List UInt8) (i : Nat) : cutL s (i : Int) = (s.take i, s.drop (i + 2)) := by
  unfold cutL; rw [if_pos (by omega)]; simp
theorem cutL_neg (s : List UInt8) : cutL s (-1) = ([], s) := by unfold cutL; rw [if_neg (by omega)]

/-- P4.5: Code returns what was passed to At. -/
theorem codeL_at (what : List UInt8) (e : Int) (h : textL e ≠ []) : codeL (atL what e) = (what, e, true) := by
  have hf := findL_text e
  rw [if_neg h] at hf
  unfold codeL atL
  by_cases hw : what = []
  · rw [if_pos (.inl hw), hw, List.nil_append, lastIndex_none (textL_nocolon e), cutL_neg]
    unfold codeOf
    rw [hf, if_pos rfl]
  · rw [if_neg (by simp [hw, h]), lastIndex_mid _ _ (textL_nocolon e), cutL_pos]
    have h1 : (what ++ [58, 32] ++ textL e).take what.length = what := by rw [List.append_assoc, List.take_left]
    have h2 : (what ++ [58, 32] ++ textL e).drop (what.length + 2) = textL e := by
      rw [show what.length + 2 = (what ++ [58, 32]).length by simp, List.drop_left]
    rw [h1, h2]
    unfold codeOf
    rw [hf, if_pos rfl]
theorem atL_len (what : List UInt8) (e : Int) : (atL what e).length ≤ what.length + 42 := by
  have := textL_len e
  unfold atL
  split <;> simp <;> omega
end Go.Proofs.YtlfdmbfbfadifaaGreatDoor.Ft
