/-
  What Get accepts is Put of it. No walk in this text.
-/
import Derived.Test.YtlfdmbfbfadifaaGreatDoorYa
namespace Go.Proofs.YtlfdmbfbfadifaaGreatDoor
open Go.RowKit

theorem cut_more (b : List UInt8) (a n m : Nat) : cut b a (n + m) = cut b a n ++ cut b (a + n) m := by
  unfold cut; rw [List.take_add, List.drop_drop]
theorem cut_none (b : List UInt8) (a : Nat) : cut b a 0 = [] := by unfold cut; simp

/-! ### Descriptions -/
theorem leZ_numP {k : Nat} {c : List UInt8} (h : okN k (numP c) = true) : leZ c.length (numP c) = c := by
  unfold numP at *
  split
  · rename_i h1
    rw [leZ_keep]; exact h1.symm
  · rename_i h1
    rw [if_neg h1] at h
    split
    · rename_i h2
      rw [if_pos h2, okN_low (by decide)] at h
      cases h
    · rw [leZ_nat, le_val]
theorem num_setT (d : DD) (k : Nat) (x : List UInt8) (j : Nat) : num (setT d k x) j = num d j := by
  unfold setT; split <;> rfl
theorem txt_setT_same (d : DD) {k : Nat} (hk : k < 4) (x : List UInt8) : txt (setT d k x) k = x := by
  rcases k4 hk with rfl | rfl | rfl | rfl <;> rfl
theorem txt_setT_other (d : DD) {k j : Nat} (h : j < k) (x : List UInt8) : txt (setT d k x) j = txt d j := by
  unfold setT
  split
  · omega
  · have : j = 0 := by omega
    subst this; rfl
  · have : j = 0 ∨ j = 1 := by omega
    rcases this with rfl | rfl <;> rfl
  · have : j = 0 ∨ j = 1 ∨ j = 2 := by omega
    rcases this with rfl | rfl | rfl <;> rfl
  · rfl
theorem tailB_setT (d : DD) (k : Nat) (x : List UInt8) : ∀ j, j ≤ k → tailB (setT d k x) j = tailB d j
  | 0, _ => rfl
  | j + 1, h => by rw [tailB, tailB, tailB_setT d k x j (by omega), txt_setT_other d (by omega)]
theorem num_decN (f : List UInt8 → Int) (b : List UInt8) {k : Nat} (hk : k < 9) : num (decN f b 9) k = f (cut b (off k) (fW k)) := by
  rcases k9 hk with rfl | rfl | rfl | rfl | rfl | rfl | rfl | rfl | rfl <;> rfl
theorem counted_cut {b t : List UInt8} {a c : Nat} (h : textAt b a = some (t, c)) : ∃ n, c = a + n ∧ a + n ≤ b.length ∧ counted t = cut b a n := by
  unfold textAt at h
  split at h
  · cases h
  · split at h
    · cases h
    · rename_i h1 h2
      simp only [Option.some.injEq, Prod.mk.injEq] at h
      obtain ⟨rfl, rfl⟩ := h
      refine ⟨2 + val (cut b a 2), by omega, by omega, ?_⟩
      unfold counted
      rw [cut_len b (a + 2) _ (by omega), cut_more]
      have := le_val (cut b a 2)
      rw [cut_len b a 2 (by omega)] at this
      rw [this]
theorem decT_inv {f : List UInt8 → Int} {t : List UInt8} (ht : 47 ≤ t.length) : ∀ k d a, k ≤ 4 → decT f t k = some (d, a) → (∀ j, j < 9 → num d j = f (cut t (off j) (fW j))) ∧ ∃ n, a = 47 + n ∧ 47 + n ≤ t.length ∧ tailB d k = cut t 47 n := by
  intro k
  induction k with
  | zero =>
    intro d a _ h
    simp only [decT, Option.some.injEq, Prod.mk.injEq] at h
    obtain ⟨rfl, rfl⟩ := h
    exact ⟨fun j hj => num_decN f t hj, 0, rfl, ht, by rw [cut_none]; rfl⟩
  | succ k ih =>
    intro d a hk h
    rw [decT] at h
    rcases h0 : decT f t k with _ | ⟨d0, a0⟩
    · rw [h0] at h; cases h
    · rw [h0] at h
      rcases h1 : textAt t a0 with _ | ⟨x, c⟩
      · simp only [h1] at h; cases h
      · simp only [h1, Option.some.injEq, Prod.mk.injEq] at h
        obtain ⟨rfl, rfl⟩ := h
        obtain ⟨g1, n, rfl, g2, g3⟩ := ih d0 a0 (by omega) h0
        obtain ⟨m, rfl, g4, g5⟩ := counted_cut h1
        refine ⟨fun j hj => by rw [num_setT]; exact g1 j hj, n + m, by omega, by omega, ?_⟩
        rw [tailB, tailB_setT d0 k x k (Nat.le_refl _), txt_setT_same d0 (by omega), g3, g5, cut_more]
theorem body_of {t : List UInt8} {d : DD} (h : decX numP t = (d, true)) (hc : checkR d = 0) : body d = t := by
  unfold decX at h
  split at h
  · cases h
  · rename_i h1
    split at h
    · cases h
    · rename_i d' a h2
      simp only [Prod.mk.injEq, decide_eq_true_eq] at h
      obtain ⟨rfl, rfl⟩ := h
      obtain ⟨g1, n, g2, g3, g4⟩ := decT_inv (by omega) 4 _ _ (Nat.le_refl _) h2
      have hall := (checkR_0.1 hc).1
      have hd : ∀ k, k ≤ 9 → headB d' k = cut t 0 (off k) := by
        intro k
        induction k with
        | zero => intro _; rw [show off 0 = 0 from rfl, cut_none]; rfl
        | succ k ih =>
          intro hk
          have ho := off_mono (show k < 9 by omega)
          have e : off (k + 1) = off k + fW k := rfl
          have hl := cut_len t (off k) (fW k) (by omega)
          have hz := leZ_numP (k := k) (c := cut t (off k) (fW k)) (by rw [← g1 k (by omega)]; exact allN_at hall (by omega))
          rw [hl, ← g1 k (by omega)] at hz
          rw [headB, ih (by omega), hz, e, cut_more, Nat.zero_add]
      unfold body
      rw [hd 9 (Nat.le_refl _), g4, off_9]
      have := cut_more t 0 47 n
      rw [Nat.zero_add] at this
      rw [← this, ← g2]
      unfold cut
      simp
theorem textAt_of {b : List UInt8} {a : Nat} (h : (getTextR b (a : Int)).2.2 = 0) : ∃ t c, textAt b a = some (t, c) := by
  by_cases ha : a ≤ b.length
  · rcases hx : textAt b a with _ | ⟨t, c⟩
    · rw [getTextR_none ha hx] at h; exact absurd h (by show ¬ ((3 : Int) = 0); decide)
    · exact ⟨t, c, rfl⟩
  · have : getR b (a : Int) 2 = (0, 0, 1) := by rw [getR, if_pos (by omega)]
    rw [getTextR, this, if_pos (by decide)] at h
    exact absurd h (by show ¬ ((1 : Int) = 0); decide)
theorem putS_of {b : List UInt8} {a : Nat} {d : DD} {c : Int} (h : getS numP b (a : Int) = (d, c, 0)) : checkR d = 0 ∧ ∃ n, c = ((a + n : Nat) : Int) ∧ a + n ≤ b.length ∧ (putS d).1 = cut b a n := by
  have h0 : (getTextR b (a : Int)).2.2 = 0 := by
    apply Decidable.byContradiction
    intro hn
    unfold getS at h
    rw [if_pos hn] at h
    injection h with _ h
    injection h with _ h
    exact hn h
  obtain ⟨t, e, ht⟩ := textAt_of h0
  rw [getS_some ht] at h
  rcases afterT_cases numP t with ⟨x, hx, h2⟩ | ⟨d', hd, hx, h2⟩
  · rw [h2] at h
    injection h with _ h
    injection h with _ h
    exact absurd h hx
  · rw [h2] at h
    injection h with h3 h
    injection h with h4 _
    subst h3 h4
    obtain ⟨n, rfl, h5, h6⟩ := counted_cut ht
    refine ⟨hd, n, rfl, h5, ?_⟩
    unfold putS
    rw [if_pos hd, body_of hx hd, h6]

/-! ### Fields -/
/-- From s to s' the bytes x have been read. -/
def Seg (b : List UInt8) (s s' : RS) (x : List UInt8) : Prop := s'.bad = false → s.bad = false ∧ ∃ n, s'.at' = s.at' + n ∧ (s.at' ≤ b.length → s.at' + n ≤ b.length) ∧ x = cut b s.at' n
theorem Seg.refl (b : List UInt8) (s : RS) : Seg b s s [] := fun h => ⟨h, 0, rfl, fun h => h, (cut_none b s.at').symm⟩
theorem Seg.trans {b : List UInt8} {s s1 s2 : RS} {x y : List UInt8} (h : Seg b s s1 x) (h' : Seg b s1 s2 y) : Seg b s s2 (x ++ y) := fun hb => by
  obtain ⟨b1, m, e1, l1, rfl⟩ := h' hb
  obtain ⟨b0, n, e0, l0, rfl⟩ := h b1
  refine ⟨b0, n + m, by omega, fun hs => ?_, ?_⟩
  · have := l0 hs
    have := l1 (by omega)
    omega
  · rw [cut_more, e0]
theorem getR_seg {b : List UInt8} {a w : Nat} (h : (getR b (a : Int) (w : Int)).2.2 = 0) : a + w ≤ b.length ∧ getR b (a : Int) (w : Int) = (((val (cut b a w) : Nat) : Int), (a : Int) + w, 0) := by
  unfold getR at h ⊢
  split at h
  · exact absurd h (by show ¬ ((1 : Int) = 0); decide)
  · rename_i h1
    rw [if_neg h1]
    split at h
    · exact absurd h (by show ¬ ((3 : Int) = 0); decide)
    · rename_i h2
      rw [if_neg h2]
      split at h
      · exact absurd h (by show ¬ ((5 : Int) = 0); decide)
      · rename_i h3
        rw [if_neg h3]
        exact ⟨by omega, rfl⟩
theorem rdN_seg (b : List UInt8) (s : RS) (w : Nat) : Seg b s (rdN b s w).2 (le w (rdN b s w).1.toNat) := by
  intro hb
  unfold rdN moveR at *
  by_cases h0 : (getR b (s.at' : Int) (w : Int)).2.2 = 0
  · obtain ⟨h1, h2⟩ := getR_seg h0
    simp only [h2] at hb ⊢
    refine ⟨hb, w, by simp; omega, fun _ => h1, ?_⟩
    have := le_val (cut b s.at' w)
    rw [cut_len b s.at' w h1] at this
    rw [Int.toNat_natCast, this]
  · rw [if_neg h0] at hb; cases hb
theorem rdT_seg (b : List UInt8) (s : RS) : Seg b s (rdT b s).2 (counted (rdT b s).1) := by
  intro hb
  unfold rdT moveR at *
  by_cases h0 : (getTextR b (s.at' : Int)).2.2 = 0
  · obtain ⟨t, c, ht⟩ := textAt_of h0
    have e := getTextR_some ht
    obtain ⟨n, rfl, h1, h2⟩ := counted_cut ht
    simp only [e] at hb ⊢
    exact ⟨hb, n, by simp; omega, fun _ => h1, h2⟩
  · rw [if_neg h0] at hb; cases hb
theorem rdNs_seg (b : List UInt8) (c : Nat) : ∀ (n : Nat) (acc : List (List UInt8)) (s : RS), acc.length ≤ c → c < acc.length + n → ∃ M, (rdNs b c n acc s).1 = acc ++ M ∧ Seg b s (rdNs b c n acc s).2 (M.flatMap counted) ∧ ((rdNs b c n acc s).2.bad = false → (acc ++ M).length = c) := by
  intro n
  induction n with
  | zero => intro acc s h1 h2; omega
  | succ n ih =>
    intro acc s h1 h2
    rw [rdNs]
    split
    · rename_i h
      obtain ⟨M, e1, e2, e3⟩ := ih (acc ++ [(rdT b s).1]) (rdT b s).2 (by simp; omega) (by simp; omega)
      refine ⟨(rdT b s).1 :: M, by rw [e1]; simp, ?_, fun hb => by rw [← e3 hb]; simp⟩
      rw [List.flatMap_cons]
      exact (rdT_seg b s).trans e2
    · rename_i h
      refine ⟨[], by simp, Seg.refl b s, fun hb => ?_⟩
      have : ¬ ((acc.length : Int) < c) := fun hl => h ⟨hl, hb⟩
      simp; omega
theorem rdNames_seg (b : List UInt8) (s : RS) : Seg b s (rdNames b s).2 (le 2 (rdNames b s).1.length ++ (rdNames b s).1.flatMap counted) := by
  have hN := rdN_seg b s 2
  have hp : 0 ≤ (rdN b s 2).1 := (getR_val b s.at' 2).1
  unfold rdNames
  generalize rdN b s 2 = p at *
  obtain ⟨c, s1⟩ := p
  obtain ⟨k, rfl⟩ := Int.eq_ofNat_of_zero_le hp
  dsimp only at hN ⊢
  rw [Int.toNat_natCast] at hN ⊢
  obtain ⟨M, e1, e2, e3⟩ := rdNs_seg b k (k + 1) [] s1 (Nat.zero_le _) (by simp)
  rw [e1, List.nil_append]
  intro hb
  rw [List.nil_append] at e3
  rw [e3 hb]
  exact hN.trans e2 hb
theorem rdQ_seg (b : List UInt8) (s : RS) : Seg b s (rdQ b s).2 (encQ (rdQ b s).1) :=
  (rdN_seg b s 1).trans ((rdN_seg b _ 4).trans (rdN_seg b _ 8))
theorem rdQs_seg (b : List UInt8) (c : Nat) : ∀ (n : Nat) (acc : List QQ) (s : RS), acc.length ≤ c → c < acc.length + n → ∃ M, (rdQs b c n acc s).1 = acc ++ M ∧ Seg b s (rdQs b c n acc s).2 (M.flatMap encQ) ∧ ((rdQs b c n acc s).2.bad = false → (acc ++ M).length = c) := by
  intro n
  induction n with
  | zero => intro acc s h1 h2; omega
  | succ n ih =>
    intro acc s h1 h2
    rw [rdQs]
    split
    · rename_i h
      obtain ⟨M, e1, e2, e3⟩ := ih (acc ++ [(rdQ b s).1]) (rdQ b s).2 (by simp; omega) (by simp; omega)
      refine ⟨(rdQ b s).1 :: M, by rw [e1]; simp, ?_, fun hb => by rw [← e3 hb]; simp⟩
      rw [List.flatMap_cons]
      exact (rdQ_seg b s).trans e2
    · rename_i h
      refine ⟨[], by simp, Seg.refl b s, fun hb => ?_⟩
      have : ¬ ((acc.length : Int) < c) := fun hl => h ⟨hl, hb⟩
      simp; omega
theorem rdQids_seg (b : List UInt8) (s : RS) : Seg b s (rdQids b s).2 (le 2 (rdQids b s).1.length ++ (rdQids b s).1.flatMap encQ) := by
  have hN := rdN_seg b s 2
  have hp : 0 ≤ (rdN b s 2).1 := (getR_val b s.at' 2).1
  unfold rdQids
  generalize rdN b s 2 = p at *
  obtain ⟨c, s1⟩ := p
  obtain ⟨k, rfl⟩ := Int.eq_ofNat_of_zero_le hp
  dsimp only at hN ⊢
  rw [Int.toNat_natCast] at hN ⊢
  obtain ⟨M, e1, e2, e3⟩ := rdQs_seg b k (k + 1) [] s1 (Nat.zero_le _) (by simp)
  rw [e1, List.nil_append]
  intro hb
  rw [List.nil_append] at e3
  rw [e3 hb]
  exact hN.trans e2 hb
theorem rdDa_seg (b old : List UInt8) (s : RS) : Seg b s (rdDa b old s).2 (le 4 (rdDa b old s).1.length ++ (rdDa b old s).1) := by
  have hN := rdN_seg b s 4
  have hp : 0 ≤ (rdN b s 4).1 := (getR_val b s.at' 4).1
  unfold rdDa daR
  generalize rdN b s 4 = p at *
  obtain ⟨c, s1⟩ := p
  obtain ⟨k, rfl⟩ := Int.eq_ofNat_of_zero_le hp
  dsimp only at hN ⊢
  rw [Int.toNat_natCast] at hN ⊢
  split
  · intro hb; cases hb
  · rename_i h
    rw [cut_len b s1.at' k (by omega)]
    refine hN.trans ?_
    intro hb
    exact ⟨hb, k, rfl, fun _ => by omega, rfl⟩
theorem rdD_seg (b : List UInt8) (s : RS) : Seg b s (rdD b s).2 (le 2 (putS (rdD b s).1).1.length ++ (putS (rdD b s).1).1) := by
  have hN := rdN_seg b s 2
  have hp : 0 ≤ (rdN b s 2).1 := (getR_val b s.at' 2).1
  unfold rdD dirR
  generalize rdN b s 2 = p at *
  obtain ⟨c, s1⟩ := p
  obtain ⟨k, rfl⟩ := Int.eq_ofNat_of_zero_le hp
  dsimp only at hN ⊢
  rw [Int.toNat_natCast] at hN
  intro hb
  obtain ⟨hb1, hb2⟩ := orBad_bad.1 hb
  rw [decide_eq_true_eq] at hb2
  have h0 : (getS numP b (s1.at' : Int)).2.2 = 0 := by
    apply Decidable.byContradiction
    intro hn
    unfold moveR at hb1
    rw [if_neg hn] at hb1
    cases hb1
  rcases hg : getS numP b (s1.at' : Int) with ⟨d, x, e⟩
  rw [hg] at hb h0 hb2 hb1
  dsimp only at h0 hb2
  subst h0
  obtain ⟨_, n, hx, hl, hs⟩ := putS_of hg
  have hn : n = k := by omega
  subst hn
  have hseg : Seg b s1 (orBad (moveR s1 x 0) (decide (x = (s1.at' : Int) + (n : Int)))) (cut b s1.at' n) := by
    intro hb
    refine ⟨?_, n, ?_, fun _ => hl, rfl⟩
    · unfold moveR at hb1; rw [if_pos rfl] at hb1; exact hb1
    · rw [orBad_at]; unfold moveR; rw [if_pos rfl]; dsimp only; omega
  dsimp only
  rw [hs, cut_len b s1.at' n hl]
  exact hN.trans hseg hb
theorem findFrom_eq {t : List UInt8} : ∀ (n j : Nat), (Ft.findFrom t j n).2 = true → Ft.textL (Ft.findFrom t j n).1 = t := by
  intro n
  induction n with
  | zero => intro j h; rw [Ft.findFrom] at h; cases h
  | succ n ih =>
    intro j h
    rw [Ft.findFrom] at h ⊢
    split
    · rename_i hx; exact hx
    · rename_i hx; rw [if_neg hx] at h; exact ih _ h
theorem rdE_seg (b : List UInt8) (s : RS) : Seg b s (rdE b s).2 (counted (Ft.textL (rdE b s).1)) := by
  intro hb
  unfold rdE at *
  obtain ⟨hb1, hb2⟩ := orBad_bad.1 hb
  have e := findFrom_eq 59 1 hb2
  have h := rdT_seg b s hb1
  rw [orBad_at]
  dsimp only
  rw [show Ft.findL (rdT b s).1 = Ft.findFrom (rdT b s).1 1 59 from rfl, e]
  exact h
theorem rdF_seg (b : List UInt8) (m : MM) (s : RS) {f : Nat} (hf : f < 23) : Seg b s (rdF b m s f).2 (encF (rdF b m s f).1 f) := by
  rcases k23 hf with rfl | rfl | rfl | rfl | rfl | rfl | rfl | rfl | rfl | rfl | rfl | rfl | rfl | rfl | rfl | rfl | rfl | rfl | rfl | rfl | rfl | rfl | rfl
  case inr.inr.inr.inr.inr.inr.inr.inr.inl => exact rdNames_seg b s
  case inr.inr.inr.inr.inr.inr.inr.inr.inr.inl => exact rdQids_seg b s
  case inr.inr.inr.inr.inr.inr.inr.inr.inr.inr.inl => exact rdQ_seg b s
  case inr.inr.inr.inr.inr.inr.inr.inr.inr.inr.inr.inr.inr.inr.inr.inr.inr.inl => exact rdDa_seg b m.da s
  case inr.inr.inr.inr.inr.inr.inr.inr.inr.inr.inr.inr.inr.inr.inr.inr.inr.inr.inl => exact rdD_seg b s
  case inr.inr.inr.inr.inr.inr.inr.inr.inr.inr.inr.inr.inr.inr.inr.inr.inr.inr.inr.inl => exact rdE_seg b s
  all_goals first | exact rdT_seg b s | exact rdN_seg b s 4 | exact rdN_seg b s 2 | exact rdN_seg b s 1 | exact rdN_seg b s 8

/-! ### The whole -/
theorem fieldsL_nodup (k : Int) : (fieldsL k).Nodup := by
  unfold fieldsL fieldsN
  split <;> decide
set_option maxHeartbeats 1600000 in
theorem encF_other (b : List UInt8) (m : MM) (s : RS) {f g : Nat} (hf : f < 23) (hg : g < 23) (h : f ≠ g) : encF (rdF b m s f).1 g = encF m g := by
  rcases k23 hf with rfl | rfl | rfl | rfl | rfl | rfl | rfl | rfl | rfl | rfl | rfl | rfl | rfl | rfl | rfl | rfl | rfl | rfl | rfl | rfl | rfl | rfl | rfl <;>
    rcases k23 hg with rfl | rfl | rfl | rfl | rfl | rfl | rfl | rfl | rfl | rfl | rfl | rfl | rfl | rfl | rfl | rfl | rfl | rfl | rfl | rfl | rfl | rfl | rfl <;>
    first | rfl | exact absurd rfl h
theorem vF_kd (b : List UInt8) (m : MM) (s : RS) {f : Nat} (hf : f < 23) : (rdF b m s f).1.kd = m.kd ∧ (rdF b m s f).1.tg = m.tg := by
  rcases k23 hf with rfl | rfl | rfl | rfl | rfl | rfl | rfl | rfl | rfl | rfl | rfl | rfl | rfl | rfl | rfl | rfl | rfl | rfl | rfl | rfl | rfl | rfl | rfl <;> exact ⟨rfl, rfl⟩
theorem vTo_kd (b : List UInt8) : ∀ k, (rdTo b k).1.kd = (headR b).1.kd ∧ (rdTo b k).1.tg = (headR b).1.tg
  | 0 => ⟨rfl, rfl⟩
  | k + 1 => ⟨(vF_kd b _ _ (fld_lt _ _)).1.trans (vTo_kd b k).1, (vF_kd b _ _ (fld_lt _ _)).2.trans (vTo_kd b k).2⟩
theorem take_nodup {L : List Nat} (h : L.Nodup) {k : Nat} (hk : k < L.length) {g : Nat} (hg : g ∈ L.take k) : L.getD k 0 ≠ g := by
  intro e
  rw [List.getD_eq_getElem?_getD, List.getElem?_eq_getElem hk] at e
  obtain ⟨j, hj, rfl⟩ := List.getElem_of_mem hg
  rw [List.length_take] at hj
  rw [List.getElem_take] at e
  have := (List.getElem_inj h).1 e
  omega
theorem bodyTo_other {b : List UInt8} {m : MM} {s : RS} {k : Nat} (hk : k < (fieldsL m.kd).length) (hl : ∀ f ∈ fieldsL m.kd, f < 23) : bodyTo (rdF b m s ((fieldsL m.kd).getD k 0)).1 k = bodyTo m k := by
  obtain ⟨e1, e2⟩ := vF_kd b m s (fld_lt m.kd k)
  unfold bodyTo
  rw [e1, e2]
  congr 1
  refine congrArg List.flatten (List.map_congr_left fun g hg => ?_)
  exact encF_other b m s (fld_lt m.kd k) (hl g (List.mem_of_mem_take hg)) (take_nodup (fieldsL_nodup m.kd) hk hg)
theorem rdTo_seg (b : List UInt8) (hkd : kindB (headR b).1.kd = true) : ∀ k, k ≤ (fieldsL (headR b).1.kd).length → Seg b ⟨0, false⟩ (rdTo b k).2 (bodyTo (rdTo b k).1 k) := by
  intro k
  induction k with
  | zero =>
    intro _
    rw [bodyTo_zero]
    exact (rdN_seg b ⟨0, false⟩ 1).trans (rdN_seg b _ 2)
  | succ k ih =>
    intro hk
    obtain ⟨e1, e2⟩ := vTo_kd b k
    obtain ⟨e3, e4⟩ := vTo_kd b (k + 1)
    have hs := ih (by omega)
    have hf := rdF_seg b (rdTo b k).1 (rdTo b k).2 (fld_lt (headR b).1.kd k)
    have ho : bodyTo (rdTo b (k + 1)).1 k = bodyTo (rdTo b k).1 k := by
      have := bodyTo_other (b := b) (m := (rdTo b k).1) (s := (rdTo b k).2) (k := k) (by rw [e1]; omega) (by rw [e1]; exact (fieldsL_le hkd).2)
      rw [e1] at this
      exact this
    rw [bodyTo_succ (by rw [e3]; omega), ho, e3]
    exact hs.trans hf
theorem bodyW_rd {b : List UInt8} (h : okR b = true) : bodyW (rdAll b).1 = b := by
  unfold okR at h
  simp only [Bool.and_eq_true, Bool.not_eq_true', decide_eq_true_eq] at h
  obtain ⟨h1, h2, h3⟩ := h
  obtain ⟨_, n, e1, e2, e3⟩ := rdTo_seg b h1 _ (Nat.le_refl _) h2
  have hk : (rdAll b).1.kd = (headR b).1.kd := (vTo_kd b _).1
  unfold bodyW
  rw [hk]
  show bodyTo (rdTo b (fieldsL (headR b).1.kd).length).1 _ = b
  rw [e3]
  have hn : n = b.length := by
    have h3 : (rdTo b (fieldsL (headR b).1.kd).length).2.at' = b.length := h3
    rw [e1] at h3; simpa using h3
  subst hn
  unfold cut
  simp
theorem sizeR_of {l : List UInt8} {a : Int} (h : (sizeR l a).2 = 0) : ∃ n k : Nat, a = n ∧ (sizeR l a).1 = k ∧ 7 ≤ k ∧ k ≤ 8192 ∧ n + k ≤ l.length ∧ le 4 k = cut l n 4 := by
  unfold sizeR at h ⊢
  split at h
  · rename_i h0; exact absurd h h0
  · rename_i h0
    have h0' : (getR l a 4).2.2 = 0 := by simpa using h0
    rw [if_neg h0]
    have ha : 0 ≤ a := by
      apply Decidable.byContradiction
      intro hn
      unfold getR at h0'
      rw [if_pos (by omega)] at h0'
      exact absurd h0' (by show ¬ ((1 : Int) = 0); decide)
    obtain ⟨n, rfl⟩ := Int.eq_ofNat_of_zero_le ha
    obtain ⟨g1, g2⟩ := getR_seg (b := l) (a := n) (w := 4) h0'
    rw [show ((4 : Nat) : Int) = 4 from rfl] at g2
    split at h
    · exact absurd h (by show ¬ ((4 : Int) = 0); decide)
    · rename_i h1
      rw [if_neg h1]
      split at h
      · exact absurd h (by show ¬ ((2 : Int) = 0); decide)
      · rename_i h2
        rw [if_neg h2]
        split at h
        · exact absurd h (by show ¬ ((3 : Int) = 0); decide)
        · rename_i h3
          rw [if_neg h3]
          rw [g2] at h1 h2 h3 ⊢
          dsimp only at h1 h2 h3 ⊢
          have := le_val (cut l n 4)
          rw [cut_len l n 4 g1] at this
          exact ⟨n, _, rfl, rfl, by omega, by omega, by omega, this⟩
/-- What Get accepts is Put of its result. -/
theorem put_of_get {l : List UInt8} {a : Int} {m : MM} {x : Int} (h : getW l a = (m, x, 0)) : ∃ n k : Nat, a = n ∧ x = (n : Int) + (k : Int) ∧ n + k ≤ l.length ∧ putW m = (cut l n k, 0) := by
  unfold getW at h
  split at h
  · rename_i h0; injection h with _ h; injection h with _ h; exact absurd h h0
  · rename_i h0
    obtain ⟨n, k, rfl, e2, h7, h8, hl, hle⟩ := sizeR_of (by simpa using h0)
    split at h
    · rename_i h1; injection h with _ h; injection h with _ h; exact absurd h h1
    · rename_i h1
      rw [e2] at h h1
      rw [Int.toNat_natCast, Int.toNat_natCast] at h h1
      injection h with hm h
      injection h with hx _
      refine ⟨n, k, rfl, hx.symm, hl, ?_⟩
      have hb := cut_len l (n + 4) (k - 4) (by omega)
      generalize hB : cut l (n + 4) (k - 4) = b at *
      unfold getB at hm h1
      split at hm
      · rename_i h2; rw [if_pos h2] at h1; exact absurd h1 (by show ¬ ¬ ((2 : Int) ≠ 0); decide)
      · rename_i h2
        rw [if_neg h2] at h1
        split at hm
        · rename_i h3; rw [if_pos h3] at h1; exact absurd h3 h1
        · rename_i h3
          have hbw := bodyW_rd (b := b) (by simpa using h2)
          dsimp only at hm
          rw [hm] at hbw h3
          unfold putW
          rw [if_neg h3, hbw, if_neg (by omega), hb, show 4 + (k - 4) = k by omega, hle, ← hB, ← cut_more, show 4 + (k - 4) = k by omega]
end Go.Proofs.YtlfdmbfbfadifaaGreatDoor
