/-
  Users as lists: names, lists of users, their text; what is parsed from a text. No walk in this text.
-/
import Derived.Lib.SplitLaws
import Derived.Lib.Join
import GoSem.Op.String
namespace Go.Proofs.YtogjkkijejgggaaDoor

structure U where
  n : List UInt8
  l : List UInt8
  m : List (List UInt8)
  deriving DecidableEq
instance : Inhabited U := ⟨⟨[], [], []⟩⟩
def U0 : U := ⟨[], [], []⟩

def lowerB (c : UInt8) : Bool := decide (97 ≤ c.toNat ∧ c.toNat ≤ 122)
def nameB (c : UInt8) : Bool := lowerB c || decide (48 ≤ c.toNat ∧ c.toNat ≤ 57) || decide (c.toNat = 45) || decide (c.toNat = 95)
def firstB (s : List UInt8) : Bool := match s with
  | [] => false
  | c :: _ => lowerB c
def validL (s : List UInt8) : Bool := decide (s.length ≤ 32) && firstB s && s.all nameB
def atL (L : List U) (x : List UInt8) : Nat := L.findIdx (fun u => u.n == x)
def hasL (L : List U) (x : List UInt8) : Bool := decide (atL L x < L.length)
def ltL (a b : List UInt8) : Bool := Op.bytesLess a b
def memOk (L : List U) (ms : List (List UInt8)) (k : Nat) : Bool := hasL L (ms.getD k []) && (decide (k = 0) || ltL (ms.getD (k - 1) []) (ms.getD k []))
def memsOk (L : List U) (ms : List (List UInt8)) : Bool := decide (∀ k, k < ms.length → memOk L ms k = true)
def leadOk (L : List U) (x : List UInt8) : Bool := decide (x = []) || hasL L x
def groupL (L : List U) (u : U) : Bool := leadOk L u.l && memsOk L u.m
def getL (L : List U) (i : Nat) : U := L.getD i U0
def oneL (L : List U) (i : Nat) : Int :=
  if validL (getL L i).n = false then 25 else if atL L (getL L i).n < i then 7 else if groupL L (getL L i) = false then 26 else 0
def chk (L : List U) : Nat → Nat → Int
  | _, 0 => 0
  | i, n + 1 => if oneL L i ≠ 0 then oneL L i else chk L (i + 1) n
def checkL (L : List U) : Int := if 64 < L.length then 22 else chk L 0 L.length
def findL (L : List U) (x : List UInt8) : U := getL L (atL L x)
def memberL (L : List U) (x g : List UInt8) : Bool := (x == g) || (findL L g).m.contains x
def leadsL (L : List U) (x g : List UInt8) : Bool := if (findL L g).l = [] then memberL L x g else (findL L g).l == x
def joinL (d : UInt8) (es : List (List UInt8)) : List UInt8 := Lib.join es [d]
def lineT (u : U) : List UInt8 := u.n ++ 58 :: (u.l ++ 58 :: joinL 44 u.m)
def textL (L : List U) : List UInt8 := (L.map fun u => lineT u ++ [10]).flatten
def printL (L : List U) : List UInt8 × Int := if checkL L = 0 then (textL L, 0) else ([], checkL L)
def pieces (d : UInt8) : List UInt8 → List (List UInt8)
  | [] => [[]]
  | c :: l => if c = d then [] :: pieces d l else match pieces d l with
    | [] => [[c]]
    | x :: r => (c :: x) :: r
def lineL (s : List UInt8) : Option U :=
  match pieces 58 s with
  | [a, b, c] => if c = [] then some ⟨a, b, []⟩ else if (pieces 44 c).contains [] then none else some ⟨a, b, pieces 44 c⟩
  | _ => none
def endL (acc : List U) : List U × Int × Int := if checkL acc = 0 then (acc, 0, 0) else ([], acc.length, checkL acc)
/-- The reference's reading: line for line of the pieces; the last one is no line. -/
def prs : List (List UInt8) → List U → List U × Int × Int
  | [], acc => endL acc
  | [x], acc => if x = [] then endL acc else ([], acc.length, 2)
  | x :: y :: r, acc => match lineL x with
    | none => ([], acc.length, 2)
    | some u => prs (y :: r) (acc ++ [u])
def parseL (s : List UInt8) : List U × Int × Int := prs (pieces 10 s) []
/-- The program's lines: each with its newline; the last may have none. -/
def linesOf : List (List UInt8) → List (List UInt8)
  | [] => []
  | [x] => if x = [] then [] else [x]
  | x :: y :: r => (x ++ [10]) :: linesOf (y :: r)
def linesL (s : List UInt8) : List (List UInt8) := linesOf (pieces 10 s)
def plineL (s : List UInt8) : Option U := if s.getLast? = some 10 then lineL s.dropLast else none
def runL : List (List UInt8) → List U → List U × Int × Int
  | [], acc => endL acc
  | x :: r, acc => match plineL x with
    | none => ([], acc.length, 2)
    | some u => runL r (acc ++ [u])

/-! where a name stands -/
theorem getL_get {L : List U} {i : Nat} (h : i < L.length) : getL L i = L[i] := by simp [getL, h]
theorem atL_le (L : List U) (x : List UInt8) : atL L x ≤ L.length := List.findIdx_le_length
theorem atL_hit {L : List U} {x : List UInt8} {k : Nat} (hk : k < L.length) (h : ∀ j, j < k → (getL L j).n ≠ x) (he : (getL L k).n = x) : atL L x = k := by
  unfold atL
  have hg : ∀ j (hj : j < L.length), getL L j = L[j] := fun j hj => by simp [getL, hj]
  refine (List.findIdx_eq hk).2 ⟨by rw [← hg k hk]; simpa using he, fun j hj => ?_⟩
  have := h j hj
  rw [hg j (by omega)] at this
  simpa using this
theorem atL_miss {L : List U} {x : List UInt8} (h : ∀ j, j < L.length → (getL L j).n ≠ x) : atL L x = L.length := by
  rcases Nat.lt_or_ge (atL L x) L.length with hlt | hge
  · exfalso
    have := List.findIdx_getElem (p := fun u : U => u.n == x) (xs := L) (w := hlt)
    refine h (atL L x) hlt ?_
    rw [getL_get hlt]
    exact eq_of_beq this
  · exact Nat.le_antisymm (atL_le L x) hge
theorem getL_at {L : List U} {x : List UInt8} (h : atL L x < L.length) : (getL L (atL L x)).n = x := by
  have := List.findIdx_getElem (p := fun u : U => u.n == x) (xs := L) (w := h)
  rw [getL_get h]
  exact eq_of_beq this
theorem atL_self {L : List U} {k : Nat} (hk : k < L.length) : atL L (getL L k).n ≤ k := by
  rcases Nat.lt_or_ge k (atL L (getL L k).n) with h | h
  · exfalso
    have := List.not_of_lt_findIdx (p := fun u : U => u.n == (getL L k).n) (xs := L) h
    rw [← getL_get hk] at this
    simp at this
  · exact h
theorem atL_before {L : List U} {x : List UInt8} {j : Nat} (hj : j < atL L x) : (getL L j).n ≠ x := by
  intro e
  have hl := atL_le L x
  have := atL_self (L := L) (k := j) (by omega)
  rw [e] at this
  omega
theorem getL_out (L : List U) : getL L L.length = U0 := by simp [getL]

/-! the order of the bytes -/
theorem lt_total (a b : List UInt8) : (Op.bytesLess a b || a == b) = !(Op.bytesLess b a) := by
  induction a generalizing b with
  | nil => cases b <;> simp [Op.bytesLess]
  | cons x a ih =>
    cases b with
    | nil => simp [Op.bytesLess]
    | cons y b =>
      have := ih b
      simp only [Op.bytesLess]
      by_cases h : x = y
      · subst h
        simp [this]
      · have h2 : ¬ y = x := fun e => h e.symm
        have hn : x.toNat ≠ y.toNat := fun e => h (UInt8.toNat.inj e)
        by_cases hl : x < y
        · have h1 : ¬ y < x := by rw [UInt8.lt_iff_toNat_lt] at hl ⊢; omega
          simp [h, h2, hl, h1]
        · have h1 : y < x := by rw [UInt8.lt_iff_toNat_lt] at hl ⊢; omega
          simp [h, h2, hl, h1]

/-! pieces, joins -/
theorem pieces_ne (d : UInt8) (l : List UInt8) : pieces d l ≠ [] := by
  cases l with
  | nil => simp [pieces]
  | cons c l => rw [pieces]; split; · simp
                split <;> simp
theorem pieces_cons (d c : UInt8) (l : List UInt8) (hc : c ≠ d) : ∃ x r, pieces d l = x :: r ∧ pieces d (c :: l) = (c :: x) :: r := by
  cases h : pieces d l with
  | nil => exact absurd h (pieces_ne d l)
  | cons x r => exact ⟨x, r, rfl, by rw [pieces, if_neg hc, h]⟩
theorem pieces_nod (d : UInt8) (l : List UInt8) : ∀ x ∈ pieces d l, d ∉ x := by
  induction l with
  | nil => simp [pieces]
  | cons c l ih =>
    by_cases hc : c = d
    · rw [pieces, if_pos hc]
      intro x hx
      rcases List.mem_cons.1 hx with rfl | hx
      · simp
      · exact ih x hx
    · obtain ⟨x, r, h1, h2⟩ := pieces_cons d c l hc
      rw [h2]
      intro y hy
      rcases List.mem_cons.1 hy with rfl | hy
      · have := ih x (by rw [h1]; simp)
        simp only [List.mem_cons, not_or]
        exact ⟨fun e => hc e.symm, this⟩
      · exact ih y (by rw [h1]; simp [hy])
theorem pieces_app (d : UInt8) (a b : List UInt8) : pieces d (a ++ d :: b) = pieces d a ++ pieces d b := by
  induction a with
  | nil => simp [pieces]
  | cons c a ih =>
    by_cases hc : c = d
    · rw [List.cons_append, pieces, if_pos hc, ih, pieces, if_pos hc]; rfl
    · obtain ⟨x, r, h1, h2⟩ := pieces_cons d c a hc
      obtain ⟨y, t, h3, h4⟩ := pieces_cons d c (a ++ d :: b) hc
      rw [List.cons_append, h4, h2]
      rw [ih, h1] at h3
      simp only [List.cons_append, List.cons.injEq] at h3
      rw [← h3.1, ← h3.2]; rfl
theorem pieces_plain (d : UInt8) (l : List UInt8) (h : d ∉ l) : pieces d l = [l] := by
  induction l with
  | nil => rfl
  | cons c l ih =>
    simp only [List.mem_cons, not_or] at h
    obtain ⟨x, r, h1, h2⟩ := pieces_cons d c l (fun e => h.1 e.symm)
    rw [ih h.2] at h1
    simp only [List.cons.injEq] at h1
    rw [h2, ← h1.1, ← h1.2]
theorem joinL_cons2 (d : UInt8) (x y : List UInt8) (r : List (List UInt8)) : joinL d (x :: y :: r) = x ++ d :: joinL d (y :: r) := by
  unfold joinL
  rw [Lib.join_cons, Lib.join_cons]
  simp [Lib.joinTail]
theorem joinL_one (d : UInt8) (x : List UInt8) : joinL d [x] = x := Lib.join_one x _
theorem joinL_nil (d : UInt8) : joinL d [] = [] := by simp [joinL, Lib.join_nil]
theorem joinL_snoc (d : UInt8) (es : List (List UInt8)) (b : List UInt8) (h : es ≠ []) : joinL d (es ++ [b]) = joinL d es ++ d :: b := by
  induction es with
  | nil => exact absurd rfl h
  | cons x r ih =>
    cases r with
    | nil => rw [List.singleton_append, joinL_cons2, joinL_one, joinL_one]
    | cons y r => rw [List.cons_append, List.cons_append, joinL_cons2, joinL_cons2, ← List.cons_append, ih (by simp)]; simp
theorem pieces_join (d : UInt8) (es : List (List UInt8)) (h : es ≠ []) (hs : ∀ x ∈ es, d ∉ x) : pieces d (joinL d es) = es := by
  induction es with
  | nil => exact absurd rfl h
  | cons x r ih =>
    cases r with
    | nil => rw [joinL_one, pieces_plain d x (hs x (by simp))]
    | cons y r => rw [joinL_cons2, pieces_app, pieces_plain d x (hs x (by simp)), ih (by simp) (fun z hz => hs z (by simp [hz]))]; rfl
theorem join_pieces (d : UInt8) (l : List UInt8) : joinL d (pieces d l) = l := by
  induction l with
  | nil => rfl
  | cons c l ih =>
    by_cases hc : c = d
    · subst hc
      rw [pieces, if_pos rfl]
      obtain ⟨x, r, h⟩ := List.exists_cons_of_ne_nil (pieces_ne c l)
      rw [h] at ih ⊢
      rw [joinL_cons2, ih]; rfl
    · obtain ⟨x, r, h1, h2⟩ := pieces_cons d c l hc
      rw [h2]
      rw [h1] at ih
      cases r with
      | nil => rw [joinL_one] at ih ⊢; rw [ih]
      | cons y r => rw [joinL_cons2] at ih ⊢; rw [List.cons_append, ih]
def sumL (es : List (List UInt8)) : Nat := (es.map (·.length + 1)).sum
theorem sumL_nil : sumL [] = 0 := rfl
theorem sumL_cons (x : List UInt8) (r : List (List UInt8)) : sumL (x :: r) = x.length + 1 + sumL r := by simp [sumL]
theorem sumL_app (a b : List (List UInt8)) : sumL (a ++ b) = sumL a + sumL b := by simp [sumL]
theorem sumL_pieces (d : UInt8) (l : List UInt8) : sumL (pieces d l) = l.length + 1 := by
  induction l with
  | nil => rfl
  | cons c l ih =>
    by_cases hc : c = d
    · rw [pieces, if_pos hc, sumL_cons, ih]; simp; omega
    · obtain ⟨x, r, h1, h2⟩ := pieces_cons d c l hc
      rw [h1, sumL_cons] at ih
      rw [h2, sumL_cons]; simp; omega
theorem sumL_join (d : UInt8) (es : List (List UInt8)) (h : es ≠ []) : (joinL d es).length + 1 = sumL es := by
  induction es with
  | nil => exact absurd rfl h
  | cons x r ih =>
    cases r with
    | nil => rw [joinL_one]; simp [sumL]
    | cons y r => rw [joinL_cons2, sumL_cons, ← ih (by simp)]; simp; omega
theorem len_le_sumL (es : List (List UInt8)) : es.length ≤ sumL es := by
  induction es with
  | nil => simp
  | cons x r ih => rw [sumL_cons]; simp; omega
theorem mem_le_sumL {es : List (List UInt8)} {x : List UInt8} (h : x ∈ es) : x.length + 1 ≤ sumL es := by
  induction es with
  | nil => simp at h
  | cons y r ih =>
    rw [sumL_cons]
    rcases List.mem_cons.1 h with rfl | h
    · omega
    · have := ih h; omega
theorem pieces_len (d : UInt8) (l : List UInt8) : (pieces d l).length ≤ l.length + 1 := by
  have := len_le_sumL (pieces d l); rw [sumL_pieces] at this; exact this
theorem pieces_mem {d : UInt8} {l x : List UInt8} (h : x ∈ pieces d l) : x.length ≤ l.length := by
  have := mem_le_sumL h; rw [sumL_pieces] at this; omega

/-! what strings.Split returns are the pieces -/
theorem splitK_pieces (d : UInt8) (l : List UInt8) : Lib.splitK [d] 0 (Lib.count l [d]) l = pieces d l := by
  induction l with
  | nil => rw [Lib.count_miss (by simp [Lib.index, List.isPrefixOf])]; rfl
  | cons c l ih =>
    by_cases hc : c = d
    · subst hc
      rw [Lib.count_cons_eq, pieces, if_pos rfl, Nat.add_comm, Lib.splitK]
      have hix : Lib.index (c :: l) [c] = ((0 : Nat) : Int) := by rw [Lib.index]; simp [List.isPrefixOf]
      rw [hix, if_neg (by decide)]
      simp only [Int.toNat_natCast, Nat.add_zero, List.take_zero, List.length_singleton, Nat.zero_add, List.drop_succ_cons, List.drop_zero]
      rw [ih]
    · obtain ⟨x, r, h1, h2⟩ := pieces_cons d c l hc
      rw [Lib.count_cons_ne c d l hc, h2]
      rw [h1] at ih
      have hp : ([d] : List UInt8).isPrefixOf (c :: l) = false := by simp [List.isPrefixOf, Ne.symm hc]
      have hi : Lib.index (c :: l) [d] = if Lib.index l [d] == -1 then -1 else Lib.index l [d] + 1 := by rw [Lib.index, hp]; simp
      by_cases hm : Lib.index l [d] = -1
      · rw [Lib.count_miss hm] at ih ⊢
        simp only [Lib.splitK, List.cons.injEq] at ih ⊢
        exact ⟨⟨trivial, ih.1⟩, ih.2⟩
      · have hge := Lib.index_ge l [d]
        obtain ⟨j, hj⟩ : ∃ j : Nat, Lib.index l [d] = j := ⟨(Lib.index l [d]).toNat, by omega⟩
        have hk := Lib.count_hit (sub := [d]) (by simp) hj
        rw [Nat.add_comm] at hk
        rw [hk] at ih ⊢
        rw [Lib.splitK, if_neg (by simpa using hm)] at ih
        rw [Lib.splitK, hi, if_neg (c := (Lib.index l [d] == -1) = true) (by simpa using hm), if_neg (by simp; omega)]
        rw [hj] at ih ⊢
        simp only [Int.toNat_natCast, Nat.add_zero, List.length_singleton] at ih
        rw [show ((j : Int) + 1).toNat = j + 1 by omega]
        simp only [Nat.add_zero, List.length_singleton, List.take_succ_cons, List.drop_succ_cons, List.cons.injEq] at ih ⊢
        exact ⟨⟨trivial, ih.1⟩, ih.2⟩
theorem splitB_pieces (d : UInt8) (s : ByteArray) : (Lib.splitB ⟨#[d]⟩ 0 (Lib.countB s ⟨#[d]⟩) s).map (·.data.toList) = pieces d s.data.toList := by
  rw [Lib.splitB_data]
  exact splitK_pieces d s.data.toList

/-! the two readings are one -/
theorem pline_app (x : List UInt8) : plineL (x ++ [10]) = lineL x := by unfold plineL; rw [if_pos (by simp)]; simp
theorem pline_none {x : List UInt8} (h : (10 : UInt8) ∉ x) : plineL x = none := by
  unfold plineL
  rw [if_neg]
  intro e
  exact h (List.mem_of_getLast? e)
theorem run_lines (p : List (List UInt8)) (hp : ∀ x ∈ p, (10 : UInt8) ∉ x) (acc : List U) : runL (linesOf p) acc = prs p acc := by
  induction p generalizing acc with
  | nil => rfl
  | cons x r ih =>
    cases r with
    | nil =>
      simp only [linesOf, prs]
      by_cases hx : x = []
      · rw [if_pos hx, if_pos hx]; rfl
      · rw [if_neg hx, if_neg hx, runL, pline_none (hp x (by simp))]
    | cons y r =>
      simp only [linesOf, prs]
      rw [runL, pline_app]
      cases lineL x with
      | none => rfl
      | some u => exact ih (fun z hz => hp z (by simp [hz])) _
theorem parse_lines (s : List UInt8) : runL (linesL s) [] = parseL s := run_lines _ (pieces_nod 10 s) []
theorem lines_nil : linesL [] = [] := rfl
theorem lines_hit (a b : List UInt8) (h : (10 : UInt8) ∉ a) : linesL (a ++ 10 :: b) = (a ++ [10]) :: linesL b := by
  unfold linesL
  rw [pieces_app, pieces_plain 10 a h]
  obtain ⟨x, r, hx⟩ := List.exists_cons_of_ne_nil (pieces_ne 10 b)
  rw [hx]; rfl
theorem lines_last {a : List UInt8} (h : (10 : UInt8) ∉ a) (ha : a ≠ []) : linesL a = [a] := by
  unfold linesL
  rw [pieces_plain 10 a h]
  simp [linesOf, ha]
end Go.Proofs.YtogjkkijejgggaaDoor
