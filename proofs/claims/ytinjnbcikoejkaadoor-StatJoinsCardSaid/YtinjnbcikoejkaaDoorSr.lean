/-
  Reading once more: the reference's Get over texts that are read apart. No walk in this text.
-/
import Derived.Test.YtinjnbcikoejkaaDoorSq
import Derived.Test.YtinjnbcikoejkaaDoorSo
namespace Go.Proofs.YtinjnbcikoejkaaDoor
open Go.RowKit

/-- The description whose numbers are those of t, its texts those of d. -/
def rdD (f : List UInt8 → Int) (t : List UInt8) (d : DD) : DD :=
  ⟨f (cut t 0 2), f (cut t 2 4), f (cut t 6 1), f (cut t 7 4), f (cut t 11 8), f (cut t 19 4), f (cut t 23 8), f (cut t 31 8), f (cut t 39 8), d.nm, d.ui, d.gi, d.mu⟩
theorem rdD_noD (f : List UInt8 → Int) (t : List UInt8) : rdD f t noD = decN f t 9 := rfl
theorem rdD_set (f : List UInt8 → Int) (t : List UInt8) (d : DD) {k : Nat} (hk : k < 4) (x : List UInt8) : setT (rdD f t d) k x = rdD f t (setT d k x) := by
  rcases k4 hk with rfl | rfl | rfl | rfl <;> rfl
theorem cut_drop (t : List UInt8) (a k : Nat) : cut (t.drop 47) a k = cut t (47 + a) k := by unfold cut; rw [List.drop_drop]
theorem textAt_drop {t : List UInt8} (h : 47 ≤ t.length) (a : Nat) : textAt t (47 + a) = (textAt (t.drop 47) a).map fun p => (p.1, 47 + p.2) := by
  unfold textAt
  rw [cut_drop, List.length_drop, cut_drop]
  by_cases h1 : t.length < 47 + a + 2
  · rw [if_pos h1, if_pos (by omega)]; rfl
  · have h1' : ¬ t.length - 47 < a + 2 := by omega
    rw [if_neg h1, if_neg h1']
    by_cases h2 : t.length < 47 + a + 2 + val (cut t (47 + a) 2)
    · have h2' : t.length - 47 < a + 2 + val (cut t (47 + a) 2) := by omega
      rw [if_pos h2, if_pos h2']; rfl
    · have h2' : ¬ t.length - 47 < a + 2 + val (cut t (47 + a) 2) := by omega
      rw [if_neg h2, if_neg h2']
      simp only [Option.map_some, Nat.add_assoc]
theorem decT_txT {f : List UInt8 → Int} {t : List UInt8} (h : 47 ≤ t.length) : ∀ k, k ≤ 4 → decT f t k = (txT (t.drop 47) k).map fun p => (rdD f t p.1, 47 + p.2)
  | 0, _ => rfl
  | k + 1, hk => by
    rw [decT, txT, decT_txT h k (by omega)]
    rcases txT (t.drop 47) k with _ | ⟨d, a⟩
    · rfl
    · simp only [Option.map_some]
      rw [textAt_drop h]
      rcases textAt (t.drop 47) a with _ | ⟨x, c⟩
      · rfl
      · simp only [Option.map_some]
        rw [rdD_set f t d (by omega)]
theorem decX_rd {f : List UInt8 → Int} {t : List UInt8} (h : 47 ≤ t.length) : (decX f t).2 = txX (t.drop 47) ∧ ∀ d a, txT (t.drop 47) 4 = some (d, a) → (decX f t).1 = rdD f t d := by
  unfold decX txX
  rw [if_neg (by omega), decT_txT h 4 (by omega)]
  rcases txT (t.drop 47) 4 with _ | ⟨d, a⟩
  · exact ⟨rfl, fun d a h => by cases h⟩
  · simp only [Option.map_some]
    refine ⟨?_, ?_⟩
    · rw [Bool.eq_iff_iff, decide_eq_true_iff, decide_eq_true_iff, List.length_drop]; omega
    · rintro d' a' h'
      injection h' with h'
      injection h' with h1 h2
      rw [h1]
theorem txT_big {s : List UInt8} (hs : s.length ≤ maxLen) : ∀ (k : Nat) (d : DD) (a : Nat), k ≤ 4 → txT s k = some (d, a) → bigD d
  | 0, d, a, _, h => by
    simp only [txT, Option.some.injEq, Prod.mk.injEq] at h
    obtain ⟨rfl, _⟩ := h
    exact bigD_noD
  | k + 1, d, a, hk, h => by
    rw [txT] at h
    rcases h1 : txT s k with _ | ⟨d', a'⟩
    · rw [h1] at h; cases h
    · rw [h1] at h
      simp only at h
      rcases h2 : textAt s a' with _ | ⟨t, c⟩
      · rw [h2] at h; cases h
      · rw [h2] at h
        simp only [Option.some.injEq, Prod.mk.injEq] at h
        obtain ⟨rfl, rfl⟩ := h
        have i2 := txT_big hs k d' a' (by omega) h1
        have hl := (textAt_le h2).2.2
        exact fun j hj => by
          rw [txt_setT d' (by omega) hj]
          split
          · omega
          · exact i2 j hj
theorem numQ_in (l : List UInt8) : inI (numQ l) := by
  unfold numQ
  split
  · exact ⟨by decide, by decide⟩
  · split
    · exact ⟨by decide, by decide⟩
    · exact ⟨by omega, by omega⟩
theorem rdD_in (t : List UInt8) (d : DD) : inD (rdD numQ t d) := fun k hk => by
  rcases k9 hk with rfl | rfl | rfl | rfl | rfl | rfl | rfl | rfl | rfl <;> exact numQ_in _
theorem rdD_big {t : List UInt8} {d : DD} (h : bigD d) : bigD (rdD numQ t d) := fun k hk => by
  have := h k hk
  rcases k4 hk with rfl | rfl | rfl | rfl <;> exact this

/-! ### The two readings of a number are the same to Check -/
theorem numPQ (l : List UInt8) : numP l = numQ l ∨ (numP l = -2 ∧ numQ l = 9223372036854775807) := by
  unfold numP numQ
  split
  · exact .inl rfl
  · split
    · exact .inr ⟨rfl, rfl⟩
    · exact .inl rfl
theorem okN_PQ {k : Nat} (hk : k < 9) (l : List UInt8) : okN k (numP l) = okN k (numQ l) := by
  rcases numPQ l with h | ⟨h1, h2⟩
  · rw [h]
  · rw [h1, h2, okN_low (by omega), okN_big hk (by omega)]
theorem okN_same {k : Nat} {l : List UInt8} (h : okN k (numP l) = true) : numP l = numQ l := by
  rcases numPQ l with e | ⟨h1, _⟩
  · exact e
  · rw [h1, okN_low (by omega)] at h; cases h
theorem check_PQ (t : List UInt8) (d : DD) : checkR (rdD numP t d) = checkR (rdD numQ t d) := by
  unfold checkR
  have ha : allN (rdD numP t d) = allN (rdD numQ t d) := by
    unfold allN
    simp only [rdD]
    rw [okN_PQ (by omega), okN_PQ (by omega), okN_PQ (by omega), okN_PQ (by omega), okN_PQ (by omega), okN_PQ (by omega), okN_PQ (by omega), okN_PQ (by omega), okN_PQ (by omega)]
  rw [ha]; rfl
theorem rdD_PQ {t : List UInt8} {d : DD} (h : checkR (rdD numP t d) = 0) : rdD numP t d = rdD numQ t d := by
  have ha := (checkR_0.1 h).1
  have e := fun {k : Nat} (hk : k < 9) => allN_at ha hk
  have e0 := okN_same (e (k := 0) (by omega))
  have e1 := okN_same (e (k := 1) (by omega))
  have e2 := okN_same (e (k := 2) (by omega))
  have e3 := okN_same (e (k := 3) (by omega))
  have e4 := okN_same (e (k := 4) (by omega))
  have e5 := okN_same (e (k := 5) (by omega))
  have e6 := okN_same (e (k := 6) (by omega))
  have e7 := okN_same (e (k := 7) (by omega))
  have e8 := okN_same (e (k := 8) (by omega))
  simp only [rdD, num] at *
  rw [e0, e1, e2, e3, e4, e5, e6, e7, e8]
theorem getS_PQ (l : List UInt8) (a : Int) : getS numP l a = getS numQ l a := by
  unfold getS
  by_cases h : (getTextR l a).2.2 ≠ 0
  · rw [if_pos h, if_pos h]
  · rw [if_neg h, if_neg h]
    generalize (getTextR l a).1 = t
    by_cases hl : 47 ≤ t.length
    · obtain ⟨p2, p1⟩ := decX_rd (f := numP) hl
      obtain ⟨q2, q1⟩ := decX_rd (f := numQ) hl
      rw [p2, q2]
      cases hx : txX (t.drop 47)
      · rw [if_pos rfl, if_pos rfl]
      · have e1 : ¬ (true = false) := by decide
        rw [if_neg e1, if_neg e1]
        have hs : ∃ d a, txT (t.drop 47) 4 = some (d, a) := by
          unfold txX at hx
          rcases ht : txT (t.drop 47) 4 with _ | ⟨d, a⟩
          · rw [ht] at hx; cases hx
          · exact ⟨d, a, rfl⟩
        obtain ⟨d, a', ht⟩ := hs
        rw [p1 d a' ht, q1 d a' ht, check_PQ]
        by_cases hc : checkR (rdD numQ t d) = 0
        · have e2 : ¬ (checkR (rdD numQ t d) ≠ 0) := by simpa using hc
          rw [if_neg e2, if_neg e2, rdD_PQ (by rw [check_PQ]; exact hc)]
        · rw [if_pos hc, if_pos hc]
    · have e : ∀ f, decX f t = (noD, false) := fun f => by unfold decX; rw [if_pos (by omega)]
      rw [e, e]

/-! ### What the reference's Get decides -/
theorem getQ_arg {l : List UInt8} {a : Int} (h : a < 0 ∨ (l.length : Int) < a) : getS numQ l a = (noD, 0, 1) := by
  have e : getTextR l a = ([], 0, 1) := by
    have : getR l a 2 = (0, 0, 1) := by rw [getR, if_pos (by omega)]
    rw [getTextR, this, if_pos (by decide)]
  rw [getS_err (by rw [e]; decide), e]
theorem getQ_short {l : List UInt8} {a : Nat} (ha : a ≤ l.length) (h : textAt l a = none) : getS numQ l (a : Int) = (noD, 0, 3) := by
  have e := getTextR_none ha h
  rw [getS_err (by rw [e]; decide), e]
theorem getQ_form {l t : List UInt8} {a c : Nat} (h : textAt l a = some (t, c)) (h2 : t.length < 47 ∨ txX (t.drop 47) = false) : getS numQ l (a : Int) = (noD, 0, 2) := by
  have e := getTextR_some h
  refine getS_form (by rw [e]) ?_
  rw [e]
  show (decX numQ t).2 = false
  by_cases hl : t.length < 47
  · unfold decX; rw [if_pos hl]
  · rw [(decX_rd (by omega)).1]
    rcases h2 with h2 | h2
    · omega
    · exact h2
theorem getQ_check {l t : List UInt8} {a c a' : Nat} {d : DD} (h : textAt l a = some (t, c)) (hl : 47 ≤ t.length) (h2 : txX (t.drop 47) = true) (h3 : txT (t.drop 47) 4 = some (d, a')) (h4 : checkR (rdD numQ t d) ≠ 0) :
    getS numQ l (a : Int) = (noD, 0, checkR (rdD numQ t d)) := by
  have e := getTextR_some h
  obtain ⟨q2, q1⟩ := decX_rd (f := numQ) hl
  have hq := q1 d a' h3
  rw [getS_check (by rw [e]) (by rw [e]; exact q2.trans h2) (by rw [e]; rw [hq]; exact h4), e]
  rw [hq]
theorem getQ_ok {l t : List UInt8} {a c a' : Nat} {d : DD} (h : textAt l a = some (t, c)) (hl : 47 ≤ t.length) (h2 : txX (t.drop 47) = true) (h3 : txT (t.drop 47) 4 = some (d, a')) (h4 : checkR (rdD numQ t d) = 0) :
    getS numQ l (a : Int) = (rdD numQ t d, (c : Int), 0) := by
  have e := getTextR_some h
  obtain ⟨q2, q1⟩ := decX_rd (f := numQ) hl
  have hq := q1 d a' h3
  rw [getS_ok (by rw [e]) (by rw [e]; exact q2.trans h2) (by rw [e]; rw [hq]; exact h4), e]
  rw [hq]
theorem number_lit (b : List UInt8) (a k : Nat) (ai ki : Int) (ha : ai = (a : Int)) (hk : ki = (k : Int)) (h1 : 1 ≤ k) (h8 : k ≤ 8) (hs : a + k ≤ (mk b).size) (hb : (mk b).size ≤ 1000000) (w : World) :
    Calls Tryd.prog 39 #[.string (mk b), .int .i64 ai, .int .i64 ki] w fun e w' => e = .returned (.int .i64 (numQ (cut b a k))) ∧ w = w' := by
  rw [ha, hk]; exact number_any b a k h1 h8 hs hb w
theorem mk_drop {t : List UInt8} (h : 47 ≤ t.length) : (mk t).extract 47 (mk t).size = mk (t.drop 47) := by
  have := mk_cut t 47 (t.length - 47)
  rw [show 47 + (t.length - 47) = (mk t).size by rw [mk_size]; omega] at this
  rw [this]
  unfold cut
  rw [List.take_of_length_le (by rw [List.length_drop]; omega)]
end Go.Proofs.YtinjnbcikoejkaaDoor
