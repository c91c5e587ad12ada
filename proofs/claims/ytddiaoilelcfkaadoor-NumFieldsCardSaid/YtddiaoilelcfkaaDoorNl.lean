/-
  The fields of a text, byte by byte: plain functions and lemmas (no program).
-/
import Derived.Lib.FieldsP
import Derived.Lib.Strings
import Derived.WalkKit
namespace Go.Proofs.YtddiaoilelcfkaaDoor
open Go.RowKit

/-- Does the number stand for one of the four separators? -/
def sepN (c : Nat) : Bool := c == 32 || c == 9 || c == 10 || c == 13
/-- The fields of what is left, 'cur' being the field that is open. -/
def fld : List UInt8 → List UInt8 → List (List UInt8)
  | cur, [] => if cur = [] then [] else [cur]
  | cur, c :: l => if sepN c.toNat then (if cur = [] then fld [] l else cur :: fld [] l) else fld (cur ++ [c]) l
/-- The fields of a text. -/
def flds (l : List UInt8) : List (List UInt8) := fld [] l

theorem fld_skip : ∀ (xs cur r : List UInt8), (∀ x ∈ xs, sepN x.toNat = false) → fld cur (xs ++ r) = fld (cur ++ xs) r := by
  intro xs
  induction xs with
  | nil => intro cur r _; simp
  | cons x xs ih =>
    intro cur r h
    rw [List.cons_append, fld, h x (by simp)]
    simp only [Bool.false_eq_true, if_false]
    rw [ih _ _ (fun y hy => h y (by simp [hy]))]
    simp
theorem sepN_hi (c : Nat) (h : 128 ≤ c) : sepN c = false := by
  unfold sepN
  simp; omega

theorem get_at (s : ByteArray) (i : Nat) (h : i < s.data.toList.length) : s.get! i = s.data.toList[i] := by
  obtain ⟨⟨l⟩⟩ := s
  simp only [ByteArray.get!] at *
  rw [getElem!_pos _ _ (by simpa using h)]
  rfl

theorem dec_hi (s : ByteArray) (i : Nat) (hi : i < s.size) (h : 128 ≤ (s.get! i).toNat) :
    128 ≤ (Utf8.decode s i).1 ∧ 1 ≤ (Utf8.decode s i).2 ∧ i + (Utf8.decode s i).2 ≤ s.size ∧ ∀ j, j < (Utf8.decode s i).2 → 128 ≤ (s.get! (i + j)).toNat := by
  have h0 : (s.get! (i + 0)).toNat = (s.get! i).toNat := by rw [Nat.add_zero]
  have one : 128 ≤ Utf8.runeError ∧ 1 ≤ 1 ∧ i + 1 ≤ s.size ∧ ∀ j, j < 1 → 128 ≤ (s.get! (i + j)).toNat := ⟨by decide, by omega, by omega, fun j hj => by
    obtain rfl : j = 0 := by omega
    rw [Nat.add_zero]; exact h⟩
  unfold Utf8.decode
  simp only [h0]
  rw [if_neg (by omega)]
  split
  · rename_i hc
    simp only [Bool.and_eq_true, decide_eq_true_eq, beq_iff_eq] at hc
    split
    · refine ⟨by assumption, by omega, by simp only; omega, fun j hj => ?_⟩
      have : j = 0 ∨ j = 1 := by simp only at hj; omega
      rcases this with rfl | rfl
      · rw [Nat.add_zero]; exact h
      · omega
    · exact one
  split
  · rename_i hc
    simp only [Bool.and_eq_true, decide_eq_true_eq, beq_iff_eq] at hc
    split
    · rename_i hv
      simp only [Bool.and_eq_true, decide_eq_true_eq] at hv
      refine ⟨by simp only; omega, by omega, by simp only; omega, fun j hj => ?_⟩
      have : j = 0 ∨ j = 1 ∨ j = 2 := by simp only at hj; omega
      rcases this with rfl | rfl | rfl
      · rw [Nat.add_zero]; exact h
      · omega
      · omega
    · exact one
  split
  · rename_i hc
    simp only [Bool.and_eq_true, decide_eq_true_eq, beq_iff_eq] at hc
    split
    · rename_i hv
      simp only [Bool.and_eq_true, decide_eq_true_eq] at hv
      refine ⟨by simp only; omega, by omega, by simp only; omega, fun j hj => ?_⟩
      have : j = 0 ∨ j = 1 ∨ j = 2 ∨ j = 3 := by simp only at hj; omega
      rcases this with rfl | rfl | rfl | rfl
      · rw [Nat.add_zero]; exact h
      · omega
      · omega
      · omega
    · exact one
  · exact one
theorem dec_lo (s : ByteArray) (i : Nat) (h : (s.get! i).toNat < 128) : Utf8.decode s i = ((s.get! i).toNat, 1) := by
  have h0 : (s.get! (i + 0)).toNat = (s.get! i).toNat := by rw [Nat.add_zero]
  unfold Utf8.decode
  simp only [h0]
  rw [if_pos h]

theorem spf_step (p : Nat → Bool) (s : ByteArray) (f pos : Nat) (st : Option Nat) (acc : List (Nat × Nat)) (h : pos < s.size) :
    Lib.spansFromP p s (f + 1) pos st acc = if p (Utf8.decode s pos).1 then Lib.spansFromP p s f (pos + (Utf8.decode s pos).2) none (match st with | some a => acc ++ [(a, pos)] | none => acc)
      else Lib.spansFromP p s f (pos + (Utf8.decode s pos).2) (some (match st with | some a => a | none => pos)) acc := by
  cases st <;> simp only [Lib.spansFromP, if_pos h]

theorem spans_fld (s : ByteArray) : ∀ (f pos : Nat) (st : Option Nat) (acc : List (Nat × Nat)), s.size ≤ pos + f → pos ≤ s.size → (∀ a, st = some a → a < pos) →
    (Lib.closeSpans s (Lib.spansFromP sepN s f pos st acc)).map (fun x => (s.extract x.1 x.2).data.toList) =
      acc.map (fun x => (s.extract x.1 x.2).data.toList) ++ fld (Lib.openPiece s.data.toList st pos) (s.data.toList.drop pos) := by
  have hpiece : ∀ a b, (s.extract a b).data.toList = Lib.pieceU s.data.toList a b := fun a b => by rw [Lib.pieceU, Lib.extract_data]
  have hlen : s.data.toList.length = s.size := by rw [Lib.size_eq]
  intro f
  induction f with
  | zero =>
    intro pos st acc hf hp hs
    have hps : pos = s.size := by omega
    rw [Lib.spansFromP_end _ _ _ _ _ _ (by omega), List.drop_eq_nil_of_le (by omega), fld]
    cases st with
    | none => simp [Lib.closeSpans, Lib.openPiece]
    | some a =>
      have ha := hs a rfl
      rw [if_neg (by exact Lib.pieceU_ne _ _ _ ha (by omega))]
      simp [Lib.closeSpans, Lib.openPiece, hpiece, hps, Lib.pieceU]
  | succ f ih =>
    intro pos st acc hf hp hs
    by_cases hlt : pos < s.size
    · have hget := get_at s pos (by omega)
      have hdrop : s.data.toList.drop pos = s.data.toList[pos] :: s.data.toList.drop (pos + 1) := List.drop_eq_getElem_cons (by omega)
      by_cases hb : (s.get! pos).toNat < 128
      · have hd := dec_lo s pos hb
        rw [spf_step _ _ _ _ _ _ hlt, hd, hdrop, fld, ← hget]
        simp only
        by_cases hsp : sepN (s.get! pos).toNat = true
        · rw [if_pos hsp, if_pos hsp]
          cases st with
          | none => simp only; rw [ih _ _ _ (by omega) (by omega) (by simp)]; simp [Lib.openPiece]
          | some a =>
            have ha := hs a rfl
            simp only
            rw [ih _ _ _ (by omega) (by omega) (by simp), if_neg (by exact Lib.pieceU_ne _ _ _ ha (by omega))]
            simp [Lib.openPiece, hpiece, Lib.pieceU]
        · rw [if_neg hsp, if_neg hsp]
          have grow : ∀ a, a ≤ pos → Lib.pieceU s.data.toList a pos ++ [s.get! pos] = Lib.pieceU s.data.toList a (pos + 1) := fun a ha => by
            rw [← Lib.pieceU_grow _ _ _ 1 ha, hdrop, hget]; simp
          cases st with
          | none =>
            simp only
            rw [ih _ _ _ (by omega) (by omega) (by intro a h; cases h; omega)]
            have e := grow pos (Nat.le_refl _)
            have e0 : Lib.pieceU s.data.toList pos pos = [] := by simp [Lib.pieceU]
            rw [e0] at e
            simp only [Lib.openPiece]
            rw [e]
          | some a =>
            have ha := hs a rfl
            simp only
            rw [ih _ _ _ (by omega) (by omega) (by intro a' h; cases h; omega)]
            simp only [Lib.openPiece]
            rw [grow a (by omega)]
      · obtain ⟨h1, h2, h3, h4⟩ := dec_hi s pos hlt (by omega)
        rw [spf_step _ _ _ _ _ _ hlt]
        generalize hD : Utf8.decode s pos = D at h1 h2 h3 h4
        obtain ⟨R, wd⟩ := D
        simp only at h1 h2 h3 h4
        have hsplit : s.data.toList.drop pos = (s.data.toList.drop pos).take wd ++ s.data.toList.drop (pos + wd) := by
          rw [← List.drop_drop, List.take_append_drop]
        have hno : ∀ x ∈ (s.data.toList.drop pos).take wd, sepN x.toNat = false := by
          intro x hx
          obtain ⟨j, hj, rfl⟩ := List.getElem_of_mem hx
          have hj' : j < wd := by simp at hj; omega
          rw [List.getElem_take, List.getElem_drop, ← get_at s (pos + j) (by omega)]
          exact sepN_hi _ (h4 j hj')
        rw [hsplit, fld_skip _ _ _ hno]
        simp only
        rw [if_neg (by rw [sepN_hi R h1]; simp)]
        cases st with
        | none =>
          simp only
          rw [ih _ _ _ (by omega) (by omega) (by intro a h; cases h; omega)]
          have e := Lib.pieceU_grow s.data.toList pos pos wd (Nat.le_refl _)
          have e0 : Lib.pieceU s.data.toList pos pos = [] := by simp [Lib.pieceU]
          rw [e0] at e
          simp only [Lib.openPiece]
          rw [← e]
        | some a =>
          have ha := hs a rfl
          simp only
          rw [ih _ _ _ (by omega) (by omega) (by intro a' h; cases h; omega)]
          simp only [Lib.openPiece]
          rw [Lib.pieceU_grow _ _ _ _ (by omega)]
    · have hps : pos = s.size := by omega
      rw [Lib.spansFromP_end _ _ _ _ _ _ hlt, List.drop_eq_nil_of_le (by omega), fld]
      cases st with
      | none => simp [Lib.closeSpans, Lib.openPiece]
      | some a =>
        have ha := hs a rfl
        rw [if_neg (by exact Lib.pieceU_ne _ _ _ ha (by omega))]
        simp [Lib.closeSpans, Lib.openPiece, hpiece, hps, Lib.pieceU]
/-- The library's fields, at our separators, are the fields byte by byte. -/
theorem goFields_flds (s : ByteArray) : (Lib.goFieldsP sepN s).map (·.data.toList) = flds s.data.toList := by
  have h := spans_fld s s.size 0 none [] (by omega) (by omega) (by simp)
  unfold Lib.goFieldsP Lib.spansOfP
  rw [List.map_map]
  simpa [Lib.openPiece, flds, Function.comp_def] using h
end Go.Proofs.YtddiaoilelcfkaaDoor
