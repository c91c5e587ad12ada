/-
  Get of what Put gives, between other bytes. No walk in this text.
-/
import Derived.Test.YtinjnbcikoejkaaDoorSr
namespace Go.Proofs.YtinjnbcikoejkaaDoor
open Go.RowKit

theorem cut_mid (p x q : List UInt8) : cut (p ++ (x ++ q)) p.length x.length = x := by
  unfold cut
  rw [List.drop_left, List.take_left]
theorem textAt_counted (p x q : List UInt8) (h : x.length < 65536) : textAt (p ++ (counted x ++ q)) p.length = some (x, p.length + (counted x).length) := by
  have h1 : cut (p ++ (counted x ++ q)) p.length 2 = le 2 x.length := by
    unfold counted
    rw [List.append_assoc]
    have := cut_mid p (le 2 x.length) (x ++ q)
    rwa [le_len] at this
  have hv : val (le 2 x.length) = x.length := val_le 2 x.length (by omega)
  have hc := counted_len x
  have h2 : cut (p ++ (counted x ++ q)) (p.length + 2) x.length = x := by
    unfold counted
    have e : p ++ ((le 2 x.length ++ x) ++ q) = (p ++ le 2 x.length) ++ (x ++ q) := by simp [List.append_assoc]
    rw [e]
    have := cut_mid (p ++ le 2 x.length) x q
    rwa [List.length_append, le_len] at this
  unfold textAt
  rw [h1, hv, h2, hc]
  have hl : (p ++ (counted x ++ q)).length = p.length + (x.length + 2 + q.length) := by simp [hc]
  rw [if_neg (by omega), if_neg (by omega)]
  congr 2
  omega

theorem val_ff (w : Nat) : val (List.replicate w 255) + 1 = 256 ^ w := by
  induction w with
  | zero => rfl
  | succ w ih =>
    rw [List.replicate_succ, val, Nat.pow_succ]
    have : (255 : UInt8).toNat = 255 := rfl
    omega
theorem numP_leZ {k : Nat} (hk : k < 9) {n : Int} (h : okN k n = true) : numP (leZ (fW k) n) = n := by
  rcases okN_cases h with rfl | ⟨h0, h1⟩
  · unfold numP
    rw [leZ_len, leZ_keep, if_pos rfl]
  · obtain ⟨m, rfl⟩ := Int.eq_ofNat_of_zero_le h0
    have hG := fG_lt hk
    have hF := fG_fits hk
    have hK := fG_keep hk
    have e : leZ (fW k) ((m : Nat) : Int) = le (fW k) m := leZ_nat (fW k) m
    have hv := val_le (fW k) m (by omega)
    have hff := val_ff (fW k)
    show numP (leZ (fW k) ((m : Nat) : Int)) = ((m : Nat) : Int)
    unfold numP
    rw [e, le_len, hv, if_neg, if_neg (by omega)]
    intro he
    rw [he] at hv
    omega
theorem head_split (d : DD) {k : Nat} (hk : k < 9) : ∃ q, headB d 9 = headB d k ++ (leZ (fW k) (num d k) ++ q) := by
  have key : ∀ j, ∃ q, headB d (k + 1 + j) = headB d k ++ (leZ (fW k) (num d k) ++ q) := by
    intro j
    induction j with
    | zero => exact ⟨[], by simp [headB]⟩
    | succ j ih =>
      obtain ⟨q, h⟩ := ih
      refine ⟨q ++ leZ (fW (k + 1 + j)) (num d (k + 1 + j)), ?_⟩
      rw [show k + 1 + (j + 1) = (k + 1 + j) + 1 by omega, headB, h]
      simp [List.append_assoc]
  obtain ⟨q, h⟩ := key (8 - k)
  rw [show k + 1 + (8 - k) = 9 by omega] at h
  exact ⟨q, h⟩
theorem cut_body (d : DD) {k : Nat} (hk : k < 9) : cut (body d) (off k) (fW k) = leZ (fW k) (num d k) := by
  obtain ⟨q, h⟩ := head_split d hk
  unfold body
  rw [h]
  have := cut_mid (headB d k) (leZ (fW k) (num d k)) (q ++ tailB d 4)
  rw [headB_len, leZ_len] at this
  rw [show headB d k ++ (leZ (fW k) (num d k) ++ q) ++ tailB d 4 = headB d k ++ (leZ (fW k) (num d k) ++ (q ++ tailB d 4)) by simp [List.append_assoc]]
  exact this
def textsD (d : DD) : DD := setT (setT (setT (setT noD 0 d.nm) 1 d.ui) 2 d.gi) 3 d.mu
theorem txT_tail {d : DD} (h : checkR d = 0) : txT (tailB d 4) 4 = some (textsD d, (tailB d 4).length) := by
  have t0 := txt_le h (k := 0) (by omega)
  have t1 := txt_le h (k := 1) (by omega)
  have t2 := txt_le h (k := 2) (by omega)
  have t3 := txt_le h (k := 3) (by omega)
  simp only [txt] at t0 t1 t2 t3
  have e : tailB d 4 = ((counted d.nm ++ counted d.ui) ++ counted d.gi) ++ counted d.mu := by simp [tailB, txt]
  have h0 : txT (tailB d 4) 0 = some (noD, 0) := rfl
  have h1 := txT_step h0 (t := d.nm) (c := (counted d.nm).length) (by
    have := textAt_counted [] d.nm ((counted d.ui ++ counted d.gi) ++ counted d.mu) (by omega)
    rw [e]
    simpa [List.append_assoc] using this)
  have h2 := txT_step h1 (t := d.ui) (c := (counted d.nm).length + (counted d.ui).length) (by
    have := textAt_counted (counted d.nm) d.ui (counted d.gi ++ counted d.mu) (by omega)
    rw [e]
    simpa [List.append_assoc] using this)
  have h3 := txT_step h2 (t := d.gi) (c := (counted d.nm).length + (counted d.ui).length + (counted d.gi).length) (by
    have := textAt_counted (counted d.nm ++ counted d.ui) d.gi (counted d.mu) (by omega)
    rw [e]
    rw [List.length_append] at this
    simpa [List.append_assoc] using this)
  have h4 := txT_step h3 (t := d.mu) (c := (counted d.nm).length + (counted d.ui).length + (counted d.gi).length + (counted d.mu).length) (by
    have := textAt_counted (counted d.nm ++ counted d.ui ++ counted d.gi) d.mu [] (by omega)
    rw [e]
    rw [List.length_append, List.length_append] at this
    simpa [List.append_assoc] using this)
  rw [h4, e]
  simp [List.length_append, textsD]
  omega
theorem rdD_body {d : DD} (h : checkR d = 0) : rdD numP (body d) (textsD d) = d := by
  have ha := (checkR_0.1 h).1
  have e := fun {k : Nat} (hk : k < 9) => (congrArg numP (cut_body d hk)).trans (numP_leZ hk (allN_at ha hk))
  have e0 : numP (cut (body d) 0 2) = d.ty := e (k := 0) (by omega)
  have e1 : numP (cut (body d) 2 4) = d.dv := e (k := 1) (by omega)
  have e2 : numP (cut (body d) 6 1) = d.qt := e (k := 2) (by omega)
  have e3 : numP (cut (body d) 7 4) = d.qv := e (k := 3) (by omega)
  have e4 : numP (cut (body d) 11 8) = d.qp := e (k := 4) (by omega)
  have e5 : numP (cut (body d) 19 4) = d.mo := e (k := 5) (by omega)
  have e6 : numP (cut (body d) 23 8) = d.ai := e (k := 6) (by omega)
  have e7 : numP (cut (body d) 31 8) = d.mi := e (k := 7) (by omega)
  have e8 : numP (cut (body d) 39 8) = d.ln := e (k := 8) (by omega)
  unfold rdD
  rw [e0, e1, e2, e3, e4, e5, e6, e7, e8]
  rfl
theorem decX_body {d : DD} (h : checkR d = 0) : decX numP (body d) = (d, true) := by
  have hl : 47 ≤ (body d).length := by rw [body, List.length_append, headB_len, off_9]; omega
  have hd : (body d).drop 47 = tailB d 4 := by
    unfold body
    rw [List.drop_left' (by rw [headB_len, off_9])]
  obtain ⟨q2, q1⟩ := decX_rd (f := numP) hl
  rw [hd] at q1 q2
  have ht := txT_tail h
  have hx : txX (tailB d 4) = true := by rw [txX_end ht]; simp
  refine Prod.ext ?_ ?_
  · rw [q1 _ _ ht, rdD_body h]
  · rw [q2, hx]
/-- Get between other bytes. -/
theorem get_put {d : DD} (h : checkR d = 0) (p q : List UInt8) : getS numP (p ++ ((putS d).1 ++ q)) (p.length : Int) = (d, ((p.length + (putS d).1.length : Nat) : Int), 0) := by
  have hb := body_le h
  have e : (putS d).1 = counted (body d) := by unfold putS; rw [if_pos h]
  rw [e]
  have ht := textAt_counted p (body d) q (by omega)
  have hg := getTextR_some ht
  have hd := decX_body h
  rw [getS_ok (by rw [hg]) (by rw [hg]; simp only; rw [hd]) (by rw [hg]; simp only; rw [hd]; exact h), hg]
  simp only
  rw [hd]
end Go.Proofs.YtinjnbcikoejkaaDoor
