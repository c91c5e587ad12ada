/-
  What the laws say of lists alone: the inverse, the canonical text, the leader.
-/
import Derived.Test.YtadnkbhigcegmaaDoorUw
namespace Go.Proofs.YtadnkbhigcegmaaDoor
open Go.RowKit

/-! the names of a valid list bear no separator -/
theorem nameB_nosep {c : UInt8} (h : nameB c = true) : c ≠ 58 ∧ c ≠ 44 ∧ c ≠ 10 := by
  unfold nameB lowerB at h
  refine ⟨?_, ?_, ?_⟩ <;> (rintro rfl; exact absurd h (by decide))
theorem valid_all {s : List UInt8} (h : validL s = true) : s.all nameB = true := by
  unfold validL at h
  rw [Bool.and_eq_true] at h
  exact h.2
theorem valid_nosep {s : List UInt8} (h : validL s = true) : (58 : UInt8) ∉ s ∧ (44 : UInt8) ∉ s ∧ (10 : UInt8) ∉ s := by
  have ha := List.all_eq_true.1 (valid_all h)
  exact ⟨fun hm => (nameB_nosep (ha _ hm)).1 rfl, fun hm => (nameB_nosep (ha _ hm)).2.1 rfl, fun hm => (nameB_nosep (ha _ hm)).2.2 rfl⟩
theorem valid_ne {s : List UInt8} (h : validL s = true) : s ≠ [] := by rintro rfl; revert h; decide
theorem valid_len {s : List UInt8} (h : validL s = true) : s.length ≤ 32 := by
  unfold validL at h
  rw [Bool.and_eq_true, Bool.and_eq_true, decide_eq_true_eq] at h
  exact h.1.1

/-! what Check's OK says -/
theorem chk_zero {L : List U} : ∀ n i, chk L i n = 0 → ∀ j, i ≤ j → j < i + n → oneL L j = 0 := by
  intro n
  induction n with
  | zero => intro i _ j h1 h2; omega
  | succ n ih =>
    intro i h j h1 h2
    rw [chk] at h
    by_cases h0 : oneL L i = 0
    · rw [if_neg (by simp [h0])] at h
      by_cases e : j = i
      · subst e; exact h0
      · exact ih (i + 1) h j (by omega) (by omega)
    · rw [if_pos h0] at h; exact absurd h h0
theorem check_ok {L : List U} (h : checkL L = 0) : L.length ≤ 64 ∧ ∀ k, k < L.length → oneL L k = 0 := by
  unfold checkL at h
  by_cases h64 : 64 < L.length
  · rw [if_pos h64] at h; exact absurd h (by decide)
  · rw [if_neg h64] at h
    exact ⟨by omega, fun k hk => chk_zero _ _ h k (Nat.zero_le _) (by omega)⟩
theorem one_ok {L : List U} {k : Nat} (h : oneL L k = 0) : validL (getL L k).n = true ∧ ¬ atL L (getL L k).n < k ∧ groupL L (getL L k) = true := by
  cases hv : validL (getL L k).n with
  | false => rw [one_25 hv] at h; exact absurd h (by decide)
  | true =>
    by_cases ha : atL L (getL L k).n < k
    · rw [one_7 hv ha] at h; exact absurd h (by decide)
    · cases hg : groupL L (getL L k) with
      | false => rw [one_26 hv ha hg] at h; exact absurd h (by decide)
      | true => exact ⟨rfl, ha, rfl⟩
theorem has_valid {L : List U} (h : checkL L = 0) {x : List UInt8} (hx : hasL L x = true) : validL x = true := by
  unfold hasL at hx
  have hlt : atL L x < L.length := by simpa using hx
  have := (one_ok ((check_ok h).2 _ hlt)).1
  rwa [getL_at hlt] at this
/-- A user of a valid list. -/
def goodU (u : U) : Prop := validL u.n = true ∧ (u.l = [] ∨ validL u.l = true) ∧ ∀ x ∈ u.m, validL x = true
theorem good_of {L : List U} (h : checkL L = 0) {k : Nat} (hk : k < L.length) : goodU (getL L k) := by
  obtain ⟨h1, _, h3⟩ := one_ok ((check_ok h).2 k hk)
  unfold groupL at h3
  rw [Bool.and_eq_true] at h3
  refine ⟨h1, ?_, fun x hx => ?_⟩
  · have := h3.1
    unfold leadOk at this
    rw [Bool.or_eq_true, decide_eq_true_eq] at this
    exact this.imp id (has_valid h)
  · have := h3.2
    unfold memsOk at this
    rw [decide_eq_true_eq] at this
    obtain ⟨j, hj, rfl⟩ := List.getElem_of_mem hx
    have := this j hj
    unfold memOk at this
    rw [Bool.and_eq_true, getD_at hj] at this
    exact has_valid h this.1

/-! the inverse -/
theorem mem_join {d c : UInt8} {M : List (List UInt8)} (h : c ∈ joinL d M) : c = d ∨ ∃ x ∈ M, c ∈ x := by
  induction M with
  | nil => rw [joinL_nil] at h; simp at h
  | cons a r ih =>
    cases r with
    | nil => rw [joinL_one] at h; exact .inr ⟨a, by simp, h⟩
    | cons b r =>
      rw [joinL_cons2] at h
      rcases List.mem_append.1 h with h | h
      · exact .inr ⟨a, by simp, h⟩
      · rcases List.mem_cons.1 h with h | h
        · exact .inl h
        · rcases ih h with h | ⟨x, hx, hc⟩
          · exact .inl h
          · exact .inr ⟨x, List.mem_cons_of_mem _ hx, hc⟩
theorem good_leader {u : U} (h : goodU u) : (58 : UInt8) ∉ u.l ∧ (10 : UInt8) ∉ u.l := by
  rcases h.2.1 with h | h
  · rw [h]; simp
  · exact ⟨(valid_nosep h).1, (valid_nosep h).2.2⟩
theorem good_mem {u : U} (h : goodU u) : (58 : UInt8) ∉ joinL 44 u.m ∧ (10 : UInt8) ∉ joinL 44 u.m := by
  refine ⟨fun hc => ?_, fun hc => ?_⟩
  · rcases mem_join hc with h1 | ⟨x, hx, h1⟩
    · exact absurd h1 (by decide)
    · exact (valid_nosep (h.2.2 x hx)).1 h1
  · rcases mem_join hc with h1 | ⟨x, hx, h1⟩
    · exact absurd h1 (by decide)
    · exact (valid_nosep (h.2.2 x hx)).2.2 h1
theorem line_back {u : U} (h : goodU u) : lineL (lineT u) = some u := by
  have hp : pieces 58 (lineT u) = [u.n, u.l, joinL 44 u.m] := by
    unfold lineT
    rw [pieces_app, pieces_plain 58 u.n (valid_nosep h.1).1, pieces_app, pieces_plain 58 u.l (good_leader h).1, pieces_plain 58 _ (good_mem h).1]
    rfl
  rw [line_3 hp]
  obtain ⟨un, ul, um⟩ := u
  by_cases hm : um = []
  · subst hm
    rw [if_pos (joinL_nil 44)]
  · have hne : joinL 44 um ≠ [] := by
      obtain ⟨a, r, rfl⟩ := List.exists_cons_of_ne_nil hm
      have ha := valid_ne (h.2.2 a (by simp))
      cases r with
      | nil => rw [joinL_one]; exact ha
      | cons b r => rw [joinL_cons2]; simp
    have hpm : pieces 44 (joinL 44 um) = um := pieces_join 44 um hm (fun x hx => (valid_nosep (h.2.2 x hx)).2.1)
    show (if joinL 44 um = [] then _ else _) = _
    rw [if_neg hne, hpm, if_neg]
    rw [List.contains_iff_mem]
    intro hc
    exact valid_ne (h.2.2 [] hc) rfl
theorem line_no10 {u : U} (h : goodU u) : (10 : UInt8) ∉ lineT u := by
  unfold lineT
  simp only [List.mem_append, List.mem_cons, not_or]
  exact ⟨(valid_nosep h.1).2.2, by decide, (good_leader h).2, by decide, (good_mem h).2⟩
theorem prs_text (A : List U) (h : ∀ u ∈ A, goodU u) (acc : List U) : prs (pieces 10 (textL A)) acc = endL (acc ++ A) := by
  induction A generalizing acc with
  | nil => simp [textL, pieces, prs]
  | cons u r ih =>
    have hu := h u (by simp)
    have e : textL (u :: r) = lineT u ++ 10 :: textL r := by simp [textL]
    rw [e, pieces_app, pieces_plain 10 _ (line_no10 hu), List.singleton_append, prs_some (pieces_ne 10 _) (line_back hu), ih (fun v hv => h v (by simp [hv]))]
    simp
theorem good_all {L : List U} (h : checkL L = 0) : ∀ u ∈ L, goodU u := fun u hu => by
  obtain ⟨k, hk, rfl⟩ := List.getElem_of_mem hu
  rw [← getL_get hk]
  exact good_of h hk
theorem parse_print {L : List U} (h : checkL L = 0) : parseL (textL L) = (L, (0 : Int), (0 : Int)) := by
  unfold parseL
  rw [prs_text L (good_all h), List.nil_append]
  exact if_pos h

/-! the canonical text -/
theorem line_forth {t : List UInt8} {u : U} (h : lineL t = some u) : lineT u = t := by
  by_cases h3 : (pieces 58 t).length = 3
  · have hP := three_at h3
    have hj := join_pieces 58 t
    rw [hP] at hj
    have hl := line_3 hP
    generalize (pieces 58 t).getD 0 [] = a at *
    generalize (pieces 58 t).getD 1 [] = b at *
    generalize (pieces 58 t).getD 2 [] = c at *
    rw [joinL_cons2, joinL_cons2, joinL_one] at hj
    rw [hl] at h
    split at h
    · rename_i hc
      cases h
      rw [← hj, hc]
      simp [lineT, joinL_nil]
    · split at h
      · cases h
      · cases h
        rw [← hj]
        simp [lineT, join_pieces]
  · rw [line_not3 h3] at h; cases h
theorem end_ok {acc L : List U} {i : Int} (h : endL acc = (L, i, (0 : Int))) : L = acc ∧ checkL acc = 0 := by
  unfold endL at h
  by_cases hc : checkL acc = 0
  · rw [if_pos hc] at h
    injection h with h1 h2
    exact ⟨h1.symm, hc⟩
  · rw [if_neg hc] at h
    injection h with h1 h2
    injection h2 with h2 h3
    exact absurd h3 hc
theorem prs_ok : ∀ (p : List (List UInt8)), p ≠ [] → ∀ (acc L : List U) (i : Int), prs p acc = (L, i, (0 : Int)) → checkL L = 0 ∧ textL acc ++ joinL 10 p = textL L := by
  intro p
  induction p with
  | nil => intro h; exact absurd rfl h
  | cons x r ih =>
    intro _ acc L i h
    cases r with
    | nil =>
      simp only [prs] at h
      by_cases hx : x = []
      · rw [if_pos hx] at h
        obtain ⟨rfl, hc⟩ := end_ok h
        exact ⟨hc, by rw [hx, joinL_one, List.append_nil]⟩
      · rw [if_neg hx] at h
        injection h with h1 h2
        injection h2 with h2 h3
        exact absurd h3 (by decide)
    | cons y r =>
      cases hl : lineL x with
      | none =>
        rw [prs_none (by simp) hl] at h
        injection h with h1 h2
        injection h2 with h2 h3
        exact absurd h3 (by decide)
      | some u =>
        rw [prs_some (by simp) hl] at h
        obtain ⟨hc, ht⟩ := ih (by simp) _ _ _ h
        refine ⟨hc, ?_⟩
        rw [← ht, joinL_cons2, textL_app]
        simp [textL, line_forth hl]
theorem print_parse {x : List UInt8} {L : List U} {i : Int} (h : parseL x = (L, i, (0 : Int))) : checkL L = 0 ∧ textL L = x := by
  obtain ⟨hc, ht⟩ := prs_ok _ (pieces_ne 10 x) [] L i h
  refine ⟨hc, ?_⟩
  rw [← ht, join_pieces]
  rfl
theorem endL_err {acc : List U} (h : (endL acc).2.2 ≠ 0) : (endL acc).1 = [] := by
  unfold endL at h ⊢
  by_cases hc : checkL acc = 0
  · rw [if_pos hc] at h; exact absurd rfl h
  · rw [if_neg hc]
theorem prs_err : ∀ (p : List (List UInt8)) (acc : List U), (prs p acc).2.2 ≠ 0 → (prs p acc).1 = [] := by
  intro p
  induction p with
  | nil => intro acc h; exact endL_err h
  | cons x r ih =>
    intro acc h
    cases r with
    | nil =>
      simp only [prs] at h ⊢
      by_cases hx : x = []
      · rw [if_pos hx] at h ⊢; exact endL_err h
      · rw [if_neg hx]
    | cons y r =>
      cases hl : lineL x with
      | none => rw [prs_none (by simp) hl]
      | some u =>
        rw [prs_some (by simp) hl] at h ⊢
        exact ih _ h
theorem parse_err {x : List UInt8} (h : (parseL x).2.2 ≠ 0) : (parseL x).1 = [] := prs_err _ _ h

/-! the leader -/
theorem at_valid {L : List U} (h : checkL L = 0) {k : Nat} (hk : k < L.length) : findL L (getL L k).n = getL L k := by
  have h1 := (one_ok ((check_ok h).2 k hk)).2.1
  have h2 := atL_self hk
  have : atL L (getL L k).n = k := by omega
  unfold findL
  rw [this]
theorem leads_valid {L : List U} (h : checkL L = 0) {k : Nat} (hk : k < L.length) (x : List UInt8) : leadsL L x (getL L k).n = if (getL L k).l = [] then memberL L x (getL L k).n else (getL L k).l == x := by
  conv => lhs; unfold leadsL
  rw [at_valid h hk]
end Go.Proofs.YtadnkbhigcegmaaDoor
