/-
  Paths as lists of bytes: parts, elements, the cleaned path. No walk in this text.
-/
import Derived.Lib.SplitLaws
import Derived.Lib.Join
namespace Go.Proofs.Ytalhkoolpnmcdaa

def nameB (c : UInt8) : Bool := decide (33 ≤ c.toNat ∧ c.toNat ≤ 126 ∧ c.toNat ≠ 47)
def validL (l : List UInt8) : Bool := decide (l ≠ [] ∧ l.length ≤ 64 ∧ l ≠ [46] ∧ l ≠ [46, 46]) && l.all nameB
def pieces : List UInt8 → List (List UInt8)
  | [] => [[]]
  | c :: l => if c = 47 then [] :: pieces l else match pieces l with
    | [] => [[c]]
    | x :: r => (c :: x) :: r
def okPart (x : List UInt8) : Bool := decide (x = [] ∨ x = [46] ∨ x = [46, 46]) || validL x
def stepL (rooted : Bool) (acc : List (List UInt8)) (x : List UInt8) : List (List UInt8) :=
  if x = [] ∨ x = [46] then acc
  else if x = [46, 46] then (if acc ≠ [] ∧ acc.getLast? ≠ some [46, 46] then acc.dropLast else if rooted = true then acc else acc ++ [[46, 46]])
  else acc ++ [x]
def elemsFrom (rooted : Bool) (acc ps : List (List UInt8)) : List (List UInt8) := ps.foldl (stepL rooted) acc
def rootedL (l : List UInt8) : Bool := l.head? == some 47
def splitR (l : List UInt8) : List (List UInt8) × Int :=
  if 1024 < l.length then ([], 4)
  else if (pieces l).all okPart = false then ([], 6)
  else if 32 < (elemsFrom (rootedL l) [] (pieces l)).length then ([], 4)
  else (elemsFrom (rootedL l) [] (pieces l), 0)
def joinL (es : List (List UInt8)) : List UInt8 := Lib.join es [47]
def buildR (rooted : Bool) (es : List (List UInt8)) : List UInt8 := if rooted = true then 47 :: joinL es else if es = [] then [46] else joinL es
def cleanR (l : List UInt8) : List UInt8 × Int := if (splitR l).2 = 0 then (buildR (rootedL l) (splitR l).1, 0) else ([], (splitR l).2)
def joinR (d p : List UInt8) : List UInt8 × Int := if d = [] ∨ rootedL p = true then cleanR p else cleanR (d ++ 47 :: p)
def baseR (l : List UInt8) : List UInt8 := if (splitR l).2 ≠ 0 then [] else if (splitR l).1 = [] then buildR (rootedL l) [] else ((splitR l).1.getLast?).getD []
def dirR (l : List UInt8) : List UInt8 := if (splitR l).2 ≠ 0 then [] else buildR (rootedL l) (splitR l).1.dropLast
def underR (d p : List UInt8) : Bool := decide ((splitR d).2 = 0 ∧ (splitR p).2 = 0 ∧ rootedL d = true ∧ rootedL p = true ∧ (splitR d).1 <+: (splitR p).1)

/-! the parts -/
theorem pieces_ne (l : List UInt8) : pieces l ≠ [] := by
  cases l with
  | nil => simp [pieces]
  | cons c l => rw [pieces]; split; · simp
                split <;> simp
theorem pieces_cons (c : UInt8) (l : List UInt8) (hc : c ≠ 47) : ∃ x r, pieces l = x :: r ∧ pieces (c :: l) = (c :: x) :: r := by
  cases h : pieces l with
  | nil => exact absurd h (pieces_ne l)
  | cons x r => exact ⟨x, r, rfl, by rw [pieces, if_neg hc, h]⟩
theorem pieces_noslash (l : List UInt8) : ∀ x ∈ pieces l, (47 : UInt8) ∉ x := by
  induction l with
  | nil => simp [pieces]
  | cons c l ih =>
    by_cases hc : c = 47
    · rw [pieces, if_pos hc]
      intro x hx
      rcases List.mem_cons.1 hx with rfl | hx
      · simp
      · exact ih x hx
    · obtain ⟨x, r, h1, h2⟩ := pieces_cons c l hc
      rw [h2]
      intro y hy
      rcases List.mem_cons.1 hy with rfl | hy
      · have := ih x (by rw [h1]; simp)
        simp only [List.mem_cons, not_or]
        exact ⟨fun e => hc e.symm, this⟩
      · exact ih y (by rw [h1]; simp [hy])
theorem pieces_app (a b : List UInt8) : pieces (a ++ 47 :: b) = pieces a ++ pieces b := by
  induction a with
  | nil => simp [pieces]
  | cons c a ih =>
    by_cases hc : c = 47
    · rw [List.cons_append, pieces, if_pos hc, ih, pieces, if_pos hc]; rfl
    · obtain ⟨x, r, h1, h2⟩ := pieces_cons c a hc
      obtain ⟨y, t, h3, h4⟩ := pieces_cons c (a ++ 47 :: b) hc
      rw [List.cons_append, h4, h2]
      rw [ih, h1] at h3
      simp only [List.cons_append, List.cons.injEq] at h3
      rw [← h3.1, ← h3.2]; rfl
theorem pieces_plain (l : List UInt8) (h : (47 : UInt8) ∉ l) : pieces l = [l] := by
  induction l with
  | nil => rfl
  | cons c l ih =>
    simp only [List.mem_cons, not_or] at h
    obtain ⟨x, r, h1, h2⟩ := pieces_cons c l (fun e => h.1 e.symm)
    rw [ih h.2] at h1
    simp only [List.cons.injEq] at h1
    rw [h2, ← h1.1, ← h1.2]
theorem joinL_cons2 (x y : List UInt8) (r : List (List UInt8)) : joinL (x :: y :: r) = x ++ 47 :: joinL (y :: r) := by
  unfold joinL
  rw [Lib.join_cons, Lib.join_cons]
  simp [Lib.joinTail]
theorem joinL_one (x : List UInt8) : joinL [x] = x := Lib.join_one x _
theorem joinL_snoc (es : List (List UInt8)) (b : List UInt8) (h : es ≠ []) : joinL (es ++ [b]) = joinL es ++ 47 :: b := by
  induction es with
  | nil => exact absurd rfl h
  | cons x r ih =>
    cases r with
    | nil => rw [List.singleton_append, joinL_cons2, joinL_one, joinL_one]
    | cons y r => rw [List.cons_append, List.cons_append, joinL_cons2, joinL_cons2, ← List.cons_append, ih (by simp)]; simp
theorem pieces_join (es : List (List UInt8)) (h : es ≠ []) (hs : ∀ x ∈ es, (47 : UInt8) ∉ x) : pieces (joinL es) = es := by
  induction es with
  | nil => exact absurd rfl h
  | cons x r ih =>
    cases r with
    | nil => rw [joinL_one, pieces_plain x (hs x (by simp))]
    | cons y r => rw [joinL_cons2, pieces_app, pieces_plain x (hs x (by simp)), ih (by simp) (fun z hz => hs z (by simp [hz]))]; rfl
def sumL (es : List (List UInt8)) : Nat := (es.map (·.length + 1)).sum
theorem sumL_nil : sumL [] = 0 := rfl
theorem sumL_cons (x : List UInt8) (r : List (List UInt8)) : sumL (x :: r) = x.length + 1 + sumL r := by simp [sumL]
theorem sumL_app (a b : List (List UInt8)) : sumL (a ++ b) = sumL a + sumL b := by simp [sumL]
theorem sumL_pieces (l : List UInt8) : sumL (pieces l) = l.length + 1 := by
  induction l with
  | nil => rfl
  | cons c l ih =>
    by_cases hc : c = 47
    · rw [pieces, if_pos hc, sumL_cons, ih]; simp; omega
    · obtain ⟨x, r, h1, h2⟩ := pieces_cons c l hc
      rw [h1, sumL_cons] at ih
      rw [h2, sumL_cons]; simp; omega
theorem sumL_join (es : List (List UInt8)) (h : es ≠ []) : (joinL es).length + 1 = sumL es := by
  induction es with
  | nil => exact absurd rfl h
  | cons x r ih =>
    cases r with
    | nil => rw [joinL_one]; simp [sumL]
    | cons y r => rw [joinL_cons2, sumL_cons, ← ih (by simp)]; simp; omega
theorem len_le_sumL (es : List (List UInt8)) : es.length ≤ sumL es := by
  induction es with
  | nil => simp
  | cons x r ih => rw [sumL_cons]; simp; omega
theorem pieces_len (l : List UInt8) : (pieces l).length ≤ l.length + 1 := by
  have := len_le_sumL (pieces l); rw [sumL_pieces] at this; exact this

/-! what strings.Split returns are the parts -/
theorem splitK_pieces (l : List UInt8) : Lib.splitK [47] 0 (Lib.count l [47]) l = pieces l := by
  induction l with
  | nil => rw [Lib.count_miss (by decide)]; rfl
  | cons c l ih =>
    by_cases hc : c = 47
    · subst hc
      rw [Lib.count_cons_eq, pieces, if_pos rfl, Nat.add_comm, Lib.splitK]
      have hix : Lib.index (47 :: l) [47] = ((0 : Nat) : Int) := by rw [Lib.index]; simp [List.isPrefixOf]
      rw [hix, if_neg (by decide)]
      simp only [Int.toNat_natCast, Nat.add_zero, List.take_zero, List.length_singleton, Nat.zero_add, List.drop_succ_cons, List.drop_zero]
      rw [ih]
    · obtain ⟨x, r, h1, h2⟩ := pieces_cons c l hc
      rw [Lib.count_cons_ne c 47 l hc, h2]
      rw [h1] at ih
      have hp : ([47] : List UInt8).isPrefixOf (c :: l) = false := by simp [List.isPrefixOf, Ne.symm hc]
      have hi : Lib.index (c :: l) [47] = if Lib.index l [47] == -1 then -1 else Lib.index l [47] + 1 := by rw [Lib.index, hp]; simp
      by_cases hm : Lib.index l [47] = -1
      · rw [Lib.count_miss hm] at ih ⊢
        simp only [Lib.splitK, List.cons.injEq] at ih ⊢
        exact ⟨⟨trivial, ih.1⟩, ih.2⟩
      · have hge := Lib.index_ge l [47]
        obtain ⟨j, hj⟩ : ∃ j : Nat, Lib.index l [47] = j := ⟨(Lib.index l [47]).toNat, by omega⟩
        have hk := Lib.count_hit (sub := [47]) (by simp) hj
        rw [Nat.add_comm] at hk
        rw [hk] at ih ⊢
        rw [Lib.splitK, if_neg (by simpa using hm)] at ih
        rw [Lib.splitK, hi, if_neg (c := (Lib.index l [47] == -1) = true) (by simpa using hm), if_neg (by simp; omega)]
        rw [hj] at ih ⊢
        simp only [Int.toNat_natCast, Nat.add_zero, List.length_singleton] at ih
        rw [show ((j : Int) + 1).toNat = j + 1 by omega]
        simp only [Nat.add_zero, List.length_singleton, List.take_succ_cons, List.drop_succ_cons, List.cons.injEq] at ih ⊢
        exact ⟨⟨trivial, ih.1⟩, ih.2⟩
theorem splitB_pieces (s : ByteArray) : (Lib.splitB ⟨#[47]⟩ 0 (Lib.countB s ⟨#[47]⟩) s).map (·.data.toList) = pieces s.data.toList := by
  rw [Lib.splitB_data]
  exact splitK_pieces s.data.toList

/-! the elements -/
theorem elems_nil (r : Bool) (acc : List (List UInt8)) : elemsFrom r acc [] = acc := rfl
theorem elems_cons (r : Bool) (acc : List (List UInt8)) (x : List UInt8) (ps : List (List UInt8)) : elemsFrom r acc (x :: ps) = elemsFrom r (stepL r acc x) ps := rfl
theorem elems_app (r : Bool) (acc ps qs : List (List UInt8)) : elemsFrom r acc (ps ++ qs) = elemsFrom r (elemsFrom r acc ps) qs := by simp [elemsFrom, List.foldl_append]
theorem elems_snoc (r : Bool) (acc ps : List (List UInt8)) (x : List UInt8) : elemsFrom r acc (ps ++ [x]) = stepL r (elemsFrom r acc ps) x := by rw [elems_app]; rfl
theorem elems_take (r : Bool) (ps : List (List UInt8)) (k : Nat) (h : k < ps.length) : elemsFrom r [] (ps.take (k + 1)) = stepL r (elemsFrom r [] (ps.take k)) ps[k] := by
  rw [List.take_succ_eq_append_getElem h, elems_snoc]
theorem step_cases (r : Bool) (acc : List (List UInt8)) (x : List UInt8) : stepL r acc x = acc ∨ (stepL r acc x = acc.dropLast ∧ acc ≠ []) ∨ (stepL r acc x = acc ++ [x] ∧ x ≠ [] ∧ x ≠ [46]) := by
  unfold stepL
  by_cases h1 : x = [] ∨ x = [46]
  · rw [if_pos h1]; exact .inl rfl
  · rw [if_neg h1]
    have h1' : x ≠ [] ∧ x ≠ [46] := ⟨fun e => h1 (.inl e), fun e => h1 (.inr e)⟩
    by_cases h2 : x = [46, 46]
    · rw [if_pos h2]
      by_cases h3 : acc ≠ [] ∧ acc.getLast? ≠ some [46, 46]
      · rw [if_pos h3]; exact .inr (.inl ⟨rfl, h3.1⟩)
      · rw [if_neg h3]
        by_cases h4 : r = true
        · rw [if_pos h4]; exact .inl rfl
        · rw [if_neg h4]; exact .inr (.inr ⟨by rw [h2], h1'⟩)
    · rw [if_neg h2]; exact .inr (.inr ⟨rfl, h1'⟩)
theorem step_len (r : Bool) (acc : List (List UInt8)) (x : List UInt8) : (stepL r acc x).length ≤ acc.length + 1 := by
  rcases step_cases r acc x with h | ⟨h, _⟩ | ⟨h, _⟩ <;> rw [h] <;> simp <;> omega
theorem elems_len (r : Bool) (ps : List (List UInt8)) : ∀ acc, (elemsFrom r acc ps).length ≤ acc.length + ps.length := by
  induction ps with
  | nil => intro acc; simp [elems_nil]
  | cons x ps ih => intro acc; rw [elems_cons]; have := ih (stepL r acc x); have := step_len r acc x; simp; omega
theorem step_sum (r : Bool) (acc : List (List UInt8)) (x : List UInt8) : sumL (stepL r acc x) ≤ sumL acc + (x.length + 1) := by
  rcases step_cases r acc x with h | ⟨h, hn⟩ | ⟨h, _⟩ <;> rw [h]
  · omega
  · have := List.dropLast_concat_getLast hn
    have h2 : sumL acc = sumL acc.dropLast + sumL [acc.getLast hn] := by rw [← sumL_app, this]
    omega
  · rw [sumL_app]; simp [sumL]
theorem elems_sum (r : Bool) (ps : List (List UInt8)) : ∀ acc, sumL (elemsFrom r acc ps) ≤ sumL acc + sumL ps := by
  induction ps with
  | nil => intro acc; simp [elems_nil, sumL_nil]
  | cons x ps ih => intro acc; rw [elems_cons, sumL_cons]; have := ih (stepL r acc x); have := step_sum r acc x; omega
theorem elems_mem (r : Bool) (ps : List (List UInt8)) : ∀ acc, ∀ x ∈ elemsFrom r acc ps, x ∈ acc ∨ (x ∈ ps ∧ x ≠ [] ∧ x ≠ [46]) := by
  induction ps with
  | nil => intro acc x hx; exact .inl hx
  | cons y ps ih =>
    intro acc x hx
    rw [elems_cons] at hx
    rcases ih _ x hx with h | ⟨h, h2⟩
    · rcases step_cases r acc y with e | ⟨e, _⟩ | ⟨e, h3⟩ <;> rw [e] at h
      · exact .inl h
      · exact .inl (List.dropLast_subset _ h)
      · rcases List.mem_append.1 h with h | h
        · exact .inl h
        · simp only [List.mem_singleton] at h
          subst h
          exact .inr ⟨by simp, h3⟩
    · exact .inr ⟨by simp [h], h2⟩
/-- A list that is its own elements. -/
def Fixd (r : Bool) (es : List (List UInt8)) : Prop := elemsFrom r [] es = es
theorem fixd_drop (r : Bool) (es : List (List UInt8)) (h : Fixd r es) : Fixd r es.dropLast := by
  by_cases hn : es = []
  · subst hn; exact h
  · have hs := List.dropLast_concat_getLast hn
    generalize es.getLast hn = y at hs
    generalize es.dropLast = d at hs ⊢
    subst hs
    unfold Fixd at h ⊢
    rw [elems_snoc] at h
    have hl := elems_len r d []
    rcases step_cases r (elemsFrom r [] d) y with e | ⟨e, _⟩ | ⟨e, _⟩ <;> rw [e] at h
    · have := congrArg List.length h; simp at this hl; omega
    · have := congrArg List.length h; simp at this hl; omega
    · exact (List.append_inj' h rfl).1
theorem fixd_step (r : Bool) (acc : List (List UInt8)) (x : List UInt8) (h : Fixd r acc) : Fixd r (stepL r acc x) := by
  rcases step_cases r acc x with e | ⟨e, _⟩ | ⟨e, _⟩
  · rw [e]; exact h
  · rw [e]; exact fixd_drop r acc h
  · have h2 : elemsFrom r [] (acc ++ [x]) = acc ++ [x] := by rw [elems_snoc, show elemsFrom r [] acc = acc from h, e]
    rw [e]; exact h2
theorem fixd_elems (r : Bool) (ps : List (List UInt8)) : ∀ acc, Fixd r acc → Fixd r (elemsFrom r acc ps) := by
  induction ps with
  | nil => intro acc h; exact h
  | cons x ps ih => intro acc h; rw [elems_cons]; exact ih _ (fixd_step r acc x h)
end Go.Proofs.Ytalhkoolpnmcdaa
