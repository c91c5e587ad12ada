/-
  Split of a piece, and then of the rest with the next piece. No walk in this text.
-/
import Derived.Test.YtlfdmbfbfadifaaGreatDoorVa
import Derived.Test.YtlfdmbfbfadifaaGreatDoorZq
namespace Go.Proofs.YtlfdmbfbfadifaaGreatDoor
open Go.RowKit

/-- At a a message m begins that ends at x. -/
def StepAt (l : List UInt8) (lim : Int) (a : Nat) (m : MM) (x : Nat) : Prop :=
  ∃ q : Nat, x = a + q ∧ a + q ≤ l.length ∧ val (cut l a 4) = q ∧ 7 ≤ q ∧ (q : Int) ≤ lim ∧ getW l (a : Int) = (m, (x : Int), 0)
def Chain (l : List UInt8) (lim : Int) : List MM → Nat → Nat → Prop
  | [], a, c => a = c
  | m :: L, a, c => ∃ x, StepAt l lim a m x ∧ Chain l lim L x c
def StopAt (l : List UInt8) (lim : Int) (c : Nat) : Prop :=
  l.length < c + 4 ∨ (7 ≤ val (cut l c 4) ∧ ((val (cut l c 4) : Nat) : Int) ≤ lim ∧ l.length < c + val (cut l c 4))

theorem getR4_val {l : List UInt8} {a : Nat} (h : a + 4 ≤ l.length) : getR l (a : Int) 4 = (((val (cut l a 4) : Nat) : Int), (a : Int) + 4, 0) := getR_ok l a 4 (by omega) h
theorem getW_here {l : List UInt8} {a q : Nat} (hl : a + q ≤ l.length) (h7 : 7 ≤ q) (hq : val (cut l a 4) = q) : (getW l (a : Int)).1 = (getW (cut l a q) 0).1 ∧ (getW l (a : Int)).2.2 = (getW (cut l a q) 0).2.2 ∧ ((getW l (a : Int)).2.2 = 0 → (getW l (a : Int)).2.1 = ((a + q : Nat) : Int)) := by
  have e1 := getR4_val (l := l) (a := a) (by omega)
  have hcl := cut_len l a q hl
  have e2 := getR4_val (l := cut l a q) (a := 0) (by omega)
  rw [cut_cut0 l a q 4 (by omega), hq] at e2
  rw [hq] at e1
  rw [show ((0 : Nat) : Int) = 0 from rfl] at e2
  by_cases h8 : 8192 < (q : Int)
  · have s1 : sizeR l (a : Int) = (0, 4) := by unfold sizeR; rw [e1, if_neg (by simp), if_pos (by exact h8)]
    have s2 : sizeR (cut l a q) 0 = (0, 4) := by unfold sizeR; rw [e2, if_neg (by simp), if_pos (by exact h8)]
    unfold getW
    rw [s1, s2, if_pos (by decide), if_pos (by decide)]
    exact ⟨rfl, rfl, fun h => absurd h (by show ¬ ((4 : Int) = 0); decide)⟩
  · have s1 : sizeR l (a : Int) = ((q : Int), 0) := by unfold sizeR; rw [e1, if_neg (by simp), if_neg (by exact h8), if_neg (by dsimp only; omega), if_neg (by dsimp only; omega)]
    have s2 : sizeR (cut l a q) 0 = ((q : Int), 0) := by unfold sizeR; rw [e2, if_neg (by simp), if_neg (by exact h8), if_neg (by dsimp only; omega), if_neg (by dsimp only; rw [hcl]; omega)]
    have hcc := cut_cut l a q 4 (q - 4) (by omega)
    unfold getW
    rw [s1, s2, if_neg (show ¬ (((q : Int), (0 : Int)).2 ≠ 0) by simp), if_neg (show ¬ (((q : Int), (0 : Int)).2 ≠ 0) by simp)]
    dsimp only
    rw [Int.toNat_natCast, Int.toNat_natCast, show (0 : Int).toNat + 4 = 4 from rfl, hcc]
    by_cases he : (getB (cut l (a + 4) (q - 4))).2 ≠ 0
    · rw [if_pos he, if_pos he]
      exact ⟨rfl, rfl, fun h => absurd h he⟩
    · rw [if_neg he, if_neg he]
      exact ⟨rfl, rfl, fun _ => by dsimp only; omega⟩
/-- A message is one wherever its bytes stand. -/
theorem StepAt.move {l l' : List UInt8} {lim : Int} {a a' : Nat} {m : MM} {x : Nat} (h : StepAt l lim a m x) (hc : ∀ q, x = a + q → a' + q ≤ l'.length ∧ cut l' a' q = cut l a q) : StepAt l' lim a' m (a' + (x - a)) := by
  obtain ⟨q, rfl, h1, h2, h3, h4, h5⟩ := h
  obtain ⟨g1, g2⟩ := hc q rfl
  have hv : val (cut l' a' 4) = q := by
    rw [← cut_cut0 l' a' q 4 (by omega), g2, cut_cut0 l a q 4 (by omega), h2]
  obtain ⟨e1, e2, e3⟩ := getW_here h1 h3 h2
  obtain ⟨f1, f2, f3⟩ := getW_here g1 h3 hv
  rw [g2] at f1 f2
  rw [h5] at e1 e2
  have f2' : (getW l' (a' : Int)).2.2 = 0 := f2.trans e2.symm
  refine ⟨q, by omega, g1, hv, h3, h4, ?_⟩
  refine Prod.ext (f1.trans e1.symm) (Prod.ext ?_ f2')
  rw [f3 f2']
  dsimp only
  omega
theorem splR_chain {l : List UInt8} {lim : Int} : ∀ (n : Nat) (acc : List MM) (a : Nat) (L : List MM) (r : List UInt8), l.length < a + n → splR l lim n acc a = (L, r, 0) → ∃ M c, L = acc ++ M ∧ Chain l lim M a c ∧ StopAt l lim c ∧ r = l.drop c := by
  intro n
  induction n with
  | zero =>
    intro acc a L r hn h
    rw [splR] at h
    injection h with h1 h
    injection h with h2 _
    exact ⟨[], a, by simp [h1], rfl, .inl (by omega), h2.symm⟩
  | succ n ih =>
    intro acc a L r hn h
    by_cases c1 : l.length < a + 4
    · rw [splR_end c1] at h
      injection h with h1 h
      injection h with h2 _
      exact ⟨[], a, by simp [h1], rfl, .inl c1, h2.symm⟩
    have e := getR4_val (l := l) (a := a) (by omega)
    by_cases c2 : lim < (getR l (a : Int) 4).1 ∨ (getR l (a : Int) 4).1 < 7
    · rw [splR_bad (by omega) c1 c2] at h
      injection h with _ h
      injection h with _ h
      exact absurd h (by decide)
    by_cases c3 : (l.length : Int) - (a : Int) < (getR l (a : Int) 4).1
    · rw [splR_part (by omega) c1 c2 c3] at h
      injection h with h1 h
      injection h with h2 _
      rw [e] at c2 c3
      dsimp only at c2 c3
      exact ⟨[], a, by simp [h1], rfl, .inr ⟨by omega, by omega, by omega⟩, h2.symm⟩
    rcases hg : getW l (a : Int) with ⟨m, x, er⟩
    by_cases c4 : er = 0
    · subst c4
      rw [splR_step (by omega) c1 c2 c3 hg, Nat.add_sub_cancel] at h
      rw [e] at c2 c3
      dsimp only at c2 c3
      obtain ⟨g1, g2, g3⟩ := getW_here (l := l) (a := a) (q := val (cut l a 4)) (by omega) (by omega) rfl
      rw [hg] at g3
      have hx := g3 rfl
      dsimp only at hx
      subst hx
      rw [Int.toNat_natCast] at h
      obtain ⟨M, c, e1, e2, e3, e4⟩ := ih (acc ++ [m]) (a + val (cut l a 4)) L r (by omega) h
      exact ⟨m :: M, c, by rw [e1]; simp, ⟨_, ⟨val (cut l a 4), rfl, by omega, rfl, by omega, by omega, hg⟩, e2⟩, e3, e4⟩
    · rw [splR_err (by omega) c1 c2 c3 hg c4] at h
      injection h with _ h
      injection h with _ h
      exact absurd h c4
theorem chain_splR {l : List UInt8} {lim : Int} {c : Nat} (hs : StopAt l lim c) : ∀ (M : List MM) (n : Nat) (acc : List MM) (a : Nat), l.length < a + n → Chain l lim M a c → splR l lim n acc a = (acc ++ M, l.drop c, 0) := by
  intro M
  induction M with
  | nil =>
    intro n acc a hn h
    have h : a = c := h
    subst h
    by_cases c1 : l.length < a + 4
    · rw [splR_end c1, List.append_nil]
    · have e := getR4_val (l := l) (a := a) (by omega)
      rcases hs with hs | ⟨h1, h2, h3⟩
      · exact absurd hs c1
      · rw [splR_part (by omega) c1 (by rw [e]; dsimp only; omega) (by rw [e]; dsimp only; omega), List.append_nil]
  | cons m M ih =>
    intro n acc a hn h
    obtain ⟨x, ⟨q, rfl, h1, h2, h3, h4, h5⟩, h6⟩ := h
    have e := getR4_val (l := l) (a := a) (by omega)
    rw [splR_step (by omega) (by omega) (by rw [e]; dsimp only; omega) (by rw [e]; dsimp only; omega) h5, Int.toNat_natCast, ih (n - 1) (acc ++ [m]) (a + q) (by omega) h6]
    simp
theorem cut_take {l : List UInt8} {t a q : Nat} (h : a + q ≤ t) : cut (l.take t) a q = cut l a q := by
  unfold cut
  rw [List.drop_take, List.take_take]
  congr 1
  omega
theorem chain_cut {l : List UInt8} {lim : Int} {t c : Nat} (ht : t ≤ l.length) (hs : StopAt l lim c) : ∀ (L : List MM) (a : Nat), a ≤ t → Chain l lim L a c → ∃ A B d, L = A ++ B ∧ d ≤ t ∧ Chain (l.take t) lim A a d ∧ StopAt (l.take t) lim d ∧ Chain l lim B d c := by
  have hlen : (l.take t).length = t := by rw [List.length_take]; omega
  intro L
  induction L with
  | nil =>
    intro a ha h
    have h : a = c := h
    subst h
    refine ⟨[], [], a, rfl, ha, rfl, ?_, rfl⟩
    unfold StopAt at *
    rw [hlen]
    by_cases c1 : t < a + 4
    · exact .inl c1
    · rw [cut_take (by omega)]
      rcases hs with hs | ⟨h1, h2, h3⟩
      · omega
      · exact .inr ⟨h1, h2, by omega⟩
  | cons m L ih =>
    intro a ha h
    obtain ⟨x, hst, h6⟩ := h
    by_cases hx : x ≤ t
    · obtain ⟨A, B, d, rfl, hd, e1, e2, e3⟩ := ih x hx h6
      have hax : a ≤ x := by obtain ⟨q, rfl, _⟩ := hst; omega
      have hm := hst.move (l' := l.take t) (a' := a) (fun q hq => ⟨by omega, cut_take (by omega)⟩)
      rw [show a + (x - a) = x by omega] at hm
      exact ⟨m :: A, B, d, rfl, hd, ⟨x, hm, e1⟩, e2, e3⟩
    · refine ⟨[], m :: L, a, rfl, ha, rfl, ?_, ⟨x, hst, h6⟩⟩
      obtain ⟨q, rfl, h1, h2, h3, h4, h5⟩ := hst
      unfold StopAt
      rw [hlen]
      by_cases c1 : t < a + 4
      · exact .inl c1
      · rw [cut_take (by omega), h2]
        exact .inr ⟨h3, h4, by omega⟩
theorem chain_le {l : List UInt8} {lim : Int} : ∀ (L : List MM) (a c : Nat), Chain l lim L a c → a ≤ c
  | [], a, c, h => by have h : a = c := h; omega
  | m :: L, a, c, h => by
    obtain ⟨x, ⟨q, rfl, _⟩, h6⟩ := h
    have := chain_le L _ _ h6
    omega
theorem chain_drop {l : List UInt8} {lim : Int} {d : Nat} : ∀ (L : List MM) (a c : Nat), d ≤ a → Chain l lim L a c → Chain (l.drop d) lim L (a - d) (c - d)
  | [], a, c, _, h => by have h : a = c := h; subst h; rfl
  | m :: L, a, c, hd, h => by
    obtain ⟨x, hst, h6⟩ := h
    have hax : a ≤ x := by obtain ⟨q, rfl, _⟩ := hst; omega
    have hxl : x ≤ l.length := by obtain ⟨q, rfl, h, _⟩ := hst; omega
    have hm := hst.move (l' := l.drop d) (a' := a - d) (fun q hq => ⟨by rw [List.length_drop]; omega, by rw [cut_drop]; congr 1; omega⟩)
    rw [show a - d + (x - a) = x - d by omega] at hm
    exact ⟨x - d, hm, chain_drop L x c (by omega) h6⟩
theorem splW_pieces {l : List UInt8} {t : Nat} {ms : Int} {L : List MM} {r : List UInt8} (ht : t ≤ l.length) (h : splW l ms = (L, r, 0)) :
    ∃ A left B, splW (l.take t) ms = (A, left, 0) ∧ splW (left ++ l.drop t) ms = (B, r, 0) ∧ L = A ++ B ∧ left.length ≤ l.length ∧ (left ++ l.drop t).length ≤ l.length := by
  unfold splW at *
  obtain ⟨M, c, hM, h1, h2, rfl⟩ := splR_chain _ _ _ _ _ (by omega) h
  rw [List.nil_append] at hM
  subst hM
  obtain ⟨A, B, d, rfl, hd, e1, e2, e3⟩ := chain_cut ht h2 L 0 (Nat.zero_le _) h1
  have hl : (l.take t).drop d ++ l.drop t = l.drop d := by
    rw [List.drop_take]
    have : l.drop t = (l.drop d).drop (t - d) := by rw [List.drop_drop]; congr 1; omega
    rw [this, List.take_append_drop]
  have hdc := chain_le _ _ _ e3
  refine ⟨A, (l.take t).drop d, B, ?_, ?_, by simp, by simp; omega, by rw [hl, List.length_drop]; omega⟩
  · have := chain_splR e2 A ((l.take t).length + 1) [] 0 (by omega) e1
    simpa using this
  · rw [hl]
    have hst : StopAt (l.drop d) (limR ms) (c - d) := by
      unfold StopAt at *
      rw [List.length_drop, cut_drop, show d + (c - d) = c by omega]
      omega
    have hch := chain_drop B d c (Nat.le_refl _) e3
    rw [Nat.sub_self] at hch
    have := chain_splR hst B ((l.drop d).length + 1) [] 0 (by omega) hch
    rw [List.drop_drop, show d + (c - d) = c by omega] at this
    simpa using this
end Go.Proofs.YtlfdmbfbfadifaaGreatDoor
