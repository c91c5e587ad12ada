/-
  Get of what Put gives, between other bytes. No walk in this text.
-/
import Derived.Test.YtlfdmbfbfadifaaDoorVa
namespace Go.Proofs.YtlfdmbfbfadifaaDoor
open Go.RowKit

/-! ### Bytes -/
theorem cut_at (X x q : List UInt8) {a n : Nat} (ha : a = X.length) (hn : n = x.length) : cut (X ++ (x ++ q)) a n = x := by
  subst ha hn
  unfold cut
  rw [List.drop_left, List.take_left]
theorem rdN_fwd (X q : List UInt8) {n : Int} {w : Nat} (hw : 1 ≤ w ∧ w ≤ 8) (h0 : 0 ≤ n) (h1 : n < 9223372036854775808) (h2 : n.toNat < 256 ^ w) : rdN (X ++ (le w n.toNat ++ q)) ⟨X.length, false⟩ w = (n, ⟨X.length + w, false⟩) := by
  obtain ⟨m, rfl⟩ := Int.eq_ofNat_of_zero_le h0
  rw [Int.toNat_natCast] at *
  have hc := cut_at X (le w m) q (a := X.length) (n := w) rfl (by rw [le_len])
  have hv := val_le w m h2
  have hl : (X ++ (le w m ++ q)).length = X.length + (w + q.length) := by simp [le_len]
  have hg : getR (X ++ (le w m ++ q)) (X.length : Int) (w : Int) = ((m : Int), (X.length : Int) + w, 0) := by
    have e : (List.drop (X.length : Int).toNat (X ++ (le w m ++ q))).take (w : Int).toNat = le w m := hc
    unfold getR
    rw [if_neg (by omega), if_neg (by omega), e, hv, if_neg (by omega)]
  unfold rdN moveR
  rw [hg]
  rfl
theorem textAt_cnt (p x q : List UInt8) (h : x.length < 65536) : textAt (p ++ (counted x ++ q)) p.length = some (x, p.length + (counted x).length) := by
  have h1 : cut (p ++ (counted x ++ q)) p.length 2 = le 2 x.length := by
    unfold counted
    rw [List.append_assoc]
    exact cut_at p (le 2 x.length) (x ++ q) rfl (by rw [le_len])
  have hv : val (le 2 x.length) = x.length := val_le 2 x.length (by omega)
  have hc := counted_len x
  have h2 : cut (p ++ (counted x ++ q)) (p.length + 2) x.length = x := by
    unfold counted
    have e : p ++ ((le 2 x.length ++ x) ++ q) = (p ++ le 2 x.length) ++ (x ++ q) := by simp [List.append_assoc]
    rw [e]
    exact cut_at (p ++ le 2 x.length) x q (by simp [le_len]) rfl
  unfold textAt
  rw [h1, hv, h2, hc]
  have hl : (p ++ (counted x ++ q)).length = p.length + (x.length + 2 + q.length) := by simp [hc]
  rw [if_neg (by omega), if_neg (by omega)]
  congr 2
  omega
/-! ### Descriptions -/
theorem val_255 (w : Nat) : val (List.replicate w 255) + 1 = 256 ^ w := by
  induction w with
  | zero => rfl
  | succ w ih =>
    rw [List.replicate_succ, val, Nat.pow_succ]
    have : (255 : UInt8).toNat = 255 := rfl
    omega
theorem numP_of_leZ {k : Nat} (hk : k < 9) {n : Int} (h : okN k n = true) : numP (leZ (fW k) n) = n := by
  rcases okN_cases h with rfl | ⟨h0, h1⟩
  · unfold numP
    rw [leZ_len, leZ_keep, if_pos rfl]
  · obtain ⟨m, rfl⟩ := Int.eq_ofNat_of_zero_le h0
    have hG := fG_lt hk
    have hF := fG_fits hk
    have hK := fG_keep hk
    have e : leZ (fW k) ((m : Nat) : Int) = le (fW k) m := leZ_nat (fW k) m
    have hv := val_le (fW k) m (by omega)
    have hff := val_255 (fW k)
    show numP (leZ (fW k) ((m : Nat) : Int)) = ((m : Nat) : Int)
    unfold numP
    rw [e, le_len, hv, if_neg, if_neg (by omega)]
    intro he
    rw [he] at hv
    omega
theorem head_parts (d : DD) {k : Nat} (hk : k < 9) : ∃ q, headB d 9 = headB d k ++ (leZ (fW k) (num d k) ++ q) := by
  have key : ∀ j, ∃ q, headB d (k + 1 + j) = headB d k ++ (leZ (fW k) (num d k) ++ q) := by
    intro j
    induction j with
    | zero => exact ⟨[], by simp [headB]⟩
    | succ j ih =>
      obtain ⟨q, h⟩ := ih
      refine ⟨q ++ leZ (fW (k + 1 + j)) (num d (k + 1 + j)), ?_⟩
      rw [show k + 1 + (j + 1) = (k + 1 + j) + 1 by omega, headB, h]
      simp [List.append_assoc]
  obtain ⟨q, h⟩ := key (8 - k)
  rw [show k + 1 + (8 - k) = 9 by omega] at h
  exact ⟨q, h⟩
theorem tail_parts (d : DD) {k : Nat} (hk : k < 4) : ∃ q, tailB d 4 = tailB d k ++ (counted (txt d k) ++ q) := by
  have key : ∀ j, ∃ q, tailB d (k + 1 + j) = tailB d k ++ (counted (txt d k) ++ q) := by
    intro j
    induction j with
    | zero => exact ⟨[], by simp [tailB]⟩
    | succ j ih =>
      obtain ⟨q, h⟩ := ih
      refine ⟨q ++ counted (txt d (k + 1 + j)), ?_⟩
      rw [show k + 1 + (j + 1) = (k + 1 + j) + 1 by omega, tailB, h]
      simp [List.append_assoc]
  obtain ⟨q, h⟩ := key (3 - k)
  rw [show k + 1 + (3 - k) = 4 by omega] at h
  exact ⟨q, h⟩
/-- The numbers, and then the first k texts of d. -/
def decTo (b : List UInt8) (d : DD) : Nat → DD
  | 0 => decN numP b 9
  | k + 1 => setT (decTo b d k) k (txt d k)
theorem decT_to {d : DD} (h : checkR d = 0) : ∀ k, k ≤ 4 → decT numP (body d) k = some (decTo (body d) d k, 47 + (tailB d k).length) := by
  intro k
  induction k with
  | zero => intro _; rfl
  | succ k ih =>
    intro hk
    obtain ⟨q, hq⟩ := tail_parts d (k := k) (by omega)
    have ht := txt_le h (k := k) (by omega)
    have hx := textAt_cnt (headB d 9 ++ tailB d k) (txt d k) q (by omega)
    rw [List.length_append, headB_len, off_9, List.append_assoc, ← hq] at hx
    have := decT_step (ih (by omega)) hx
    rw [this, decTo, tailB, List.length_append, Nat.add_assoc]
theorem num_decTo (b : List UInt8) (d : DD) (j : Nat) : ∀ k, num (decTo b d k) j = num (decN numP b 9) j
  | 0 => rfl
  | k + 1 => by rw [decTo, num_setT, num_decTo b d j k]
theorem txt_decTo (b : List UInt8) (d : DD) : ∀ k, k ≤ 4 → ∀ j, j < k → txt (decTo b d k) j = txt d j
  | 0, _, j, h => absurd h (Nat.not_lt_zero _)
  | k + 1, hk, j, h => by
    rw [decTo]
    by_cases e : j = k
    · subst e; exact txt_setT_same _ (by omega) _
    · rw [txt_setT_other _ (by omega), txt_decTo b d k (by omega) j (by omega)]
theorem DD_ext {a b : DD} (h : ∀ j, j < 9 → num a j = num b j) (h' : ∀ j, j < 4 → txt a j = txt b j) : a = b := by
  have a0 := h 0 (by omega)
  have a1 := h 1 (by omega)
  have a2 := h 2 (by omega)
  have a3 := h 3 (by omega)
  have a4 := h 4 (by omega)
  have a5 := h 5 (by omega)
  have a6 := h 6 (by omega)
  have a7 := h 7 (by omega)
  have a8 := h 8 (by omega)
  have b0 := h' 0 (by omega)
  have b1 := h' 1 (by omega)
  have b2 := h' 2 (by omega)
  have b3 := h' 3 (by omega)
  cases a
  cases b
  simp only [num, txt] at a0 a1 a2 a3 a4 a5 a6 a7 a8 b0 b1 b2 b3
  subst a0 a1 a2 a3 a4 a5 a6 a7 a8 b0 b1 b2 b3
  rfl
theorem decTo_4 {d : DD} (h : checkR d = 0) : decTo (body d) d 4 = d := by
  have ha := (checkR_0.1 h).1
  refine DD_ext (fun j hj => ?_) (fun j hj => ?_)
  · rw [num_decTo, num_decN numP (body d) hj]
    obtain ⟨q, hq⟩ := head_parts d hj
    have hc : cut (body d) (off j) (fW j) = leZ (fW j) (num d j) := by
      unfold body
      rw [hq, List.append_assoc, List.append_assoc]
      exact cut_at (headB d j) _ _ (by rw [headB_len]) (by rw [leZ_len])
    rw [hc]
    exact numP_of_leZ hj (allN_at ha hj)
  · exact txt_decTo (body d) d 4 (Nat.le_refl _) j hj
theorem decX_of_body {d : DD} (h : checkR d = 0) : decX numP (body d) = (d, true) := by
  have hl : (body d).length = 47 + (tailB d 4).length := by rw [body, List.length_append, headB_len, off_9]
  rw [decX_some (by omega) (decT_to h 4 (Nat.le_refl _)), decTo_4 h, decide_eq_true (by omega)]
theorem getS_putS {d : DD} (h : checkR d = 0) (p q : List UInt8) : getS numP (p ++ ((putS d).1 ++ q)) (p.length : Int) = (d, ((p.length + (putS d).1.length : Nat) : Int), 0) := by
  have hb := body_le h
  have e : (putS d).1 = counted (body d) := by unfold putS; rw [if_pos h]
  rw [e, getS_some (textAt_cnt p (body d) q (by omega))]
  unfold afterT
  rw [decX_of_body h, if_neg (by simp), if_neg (by simp [h])]

/-! ### Fields, read -/
theorem rdT_fwd (X q : List UInt8) {t : List UInt8} (h : t.length < 65536) : rdT (X ++ (counted t ++ q)) ⟨X.length, false⟩ = (t, ⟨X.length + (counted t).length, false⟩) := by
  unfold rdT moveR
  rw [getTextR_some (textAt_cnt X t q h)]
  rfl
theorem rdNs_fwd (c : Nat) : ∀ (L acc : List (List UInt8)) (n : Nat) (X q : List UInt8), acc.length + L.length = c → L.length < n → (∀ l ∈ L, l.length < 65536) →
    rdNs (X ++ (L.flatMap counted ++ q)) c n acc ⟨X.length, false⟩ = (acc ++ L, ⟨X.length + (L.flatMap counted).length, false⟩) := by
  intro L
  induction L with
  | nil =>
    intro acc n X q h1 h2 _
    obtain ⟨k, rfl⟩ : ∃ k, n = k + 1 := ⟨n - 1, by simp at h2; omega⟩
    rw [rdNs, if_neg (by simp at h1; omega)]
    simp
  | cons x L ih =>
    intro acc n X q h1 h2 h3
    obtain ⟨k, rfl⟩ : ∃ k, n = k + 1 := ⟨n - 1, by omega⟩
    rw [List.length_cons] at h1 h2
    rw [rdNs, if_pos ⟨by omega, rfl⟩, List.flatMap_cons, List.append_assoc, rdT_fwd X _ (h3 x (List.mem_cons_self ..))]
    have := ih (acc ++ [x]) k (X ++ counted x) q (by simp; omega) (by omega) (fun l hl => h3 l (List.mem_cons_of_mem _ hl))
    rw [List.append_assoc, List.length_append] at this
    dsimp only
    rw [this]
    simp [Nat.add_assoc]
theorem rdNames_fwd (X q : List UInt8) {L : List (List UInt8)} (h : L.length < 65536) (hL : ∀ l ∈ L, l.length < 65536) : rdNames (X ++ ((le 2 L.length ++ L.flatMap counted) ++ q)) ⟨X.length, false⟩ = (L, ⟨X.length + (le 2 L.length ++ L.flatMap counted).length, false⟩) := by
  have e := rdN_fwd X (L.flatMap counted ++ q) (n := (L.length : Int)) (w := 2) (by omega) (by omega) (by omega) (by rw [Int.toNat_natCast]; omega)
  rw [Int.toNat_natCast] at e
  unfold rdNames
  rw [List.append_assoc, e]
  dsimp only
  rw [Int.toNat_natCast]
  have := rdNs_fwd L.length L [] (L.length + 1) (X ++ le 2 L.length) q (by simp) (by omega) hL
  rw [List.append_assoc, List.length_append, le_len] at this
  rw [this]
  simp [le_len, Nat.add_assoc]
theorem qidB_fits {q : QQ} (h : qidB q = true) : (0 ≤ q.t ∧ q.t.toNat < 256 ^ 1) ∧ (0 ≤ q.v ∧ q.v.toNat < 256 ^ 4) ∧ (0 ≤ q.p ∧ q.p.toNat < 256 ^ 8) := by
  have := qidB_in h
  rw [show 256 ^ 1 = 256 from rfl, show 256 ^ 4 = 4294967296 from rfl, show 256 ^ 8 = 18446744073709551616 from rfl]
  omega
theorem rdQ_fwd (X q : List UInt8) {x : QQ} (h : qidB x = true) : rdQ (X ++ (encQ x ++ q)) ⟨X.length, false⟩ = (x, ⟨X.length + (encQ x).length, false⟩) := by
  have hb := qidB_in h
  obtain ⟨h1, h2, h3⟩ := qidB_fits h
  have e1 := rdN_fwd X (le 4 x.v.toNat ++ (le 8 x.p.toNat ++ q)) (w := 1) (by omega) h1.1 (by omega) h1.2
  have e2 := rdN_fwd (X ++ le 1 x.t.toNat) (le 8 x.p.toNat ++ q) (w := 4) (by omega) h2.1 (by omega) h2.2
  have e3 := rdN_fwd ((X ++ le 1 x.t.toNat) ++ le 4 x.v.toNat) q (w := 8) (by omega) h3.1 (by omega) h3.2
  rw [List.append_assoc, List.length_append, le_len] at e2
  rw [List.append_assoc, List.append_assoc, List.length_append, List.length_append, le_len, le_len] at e3
  have hx : X ++ (encQ x ++ q) = X ++ (le 1 x.t.toNat ++ (le 4 x.v.toNat ++ (le 8 x.p.toNat ++ q))) := by simp [encQ]
  unfold rdQ
  rw [hx, e1]
  dsimp only
  rw [e2]
  dsimp only
  rw [e3, encQ_len]
theorem rdQs_fwd (c : Nat) : ∀ (L acc : List QQ) (n : Nat) (X q : List UInt8), acc.length + L.length = c → L.length < n → (∀ l ∈ L, qidB l = true) →
    rdQs (X ++ (L.flatMap encQ ++ q)) c n acc ⟨X.length, false⟩ = (acc ++ L, ⟨X.length + (L.flatMap encQ).length, false⟩) := by
  intro L
  induction L with
  | nil =>
    intro acc n X q h1 h2 _
    obtain ⟨k, rfl⟩ : ∃ k, n = k + 1 := ⟨n - 1, by simp at h2; omega⟩
    rw [rdQs, if_neg (by simp at h1; omega)]
    simp
  | cons x L ih =>
    intro acc n X q h1 h2 h3
    obtain ⟨k, rfl⟩ : ∃ k, n = k + 1 := ⟨n - 1, by omega⟩
    rw [List.length_cons] at h1 h2
    rw [rdQs, if_pos ⟨by omega, rfl⟩, List.flatMap_cons, List.append_assoc, rdQ_fwd X _ (h3 x (List.mem_cons_self ..))]
    have := ih (acc ++ [x]) k (X ++ encQ x) q (by simp; omega) (by omega) (fun l hl => h3 l (List.mem_cons_of_mem _ hl))
    rw [List.append_assoc, List.length_append] at this
    dsimp only
    rw [this]
    simp [Nat.add_assoc]
theorem rdQids_fwd (X q : List UInt8) {L : List QQ} (h : L.length < 65536) (hL : ∀ l ∈ L, qidB l = true) : rdQids (X ++ ((le 2 L.length ++ L.flatMap encQ) ++ q)) ⟨X.length, false⟩ = (L, ⟨X.length + (le 2 L.length ++ L.flatMap encQ).length, false⟩) := by
  have e := rdN_fwd X (L.flatMap encQ ++ q) (n := (L.length : Int)) (w := 2) (by omega) (by omega) (by omega) (by rw [Int.toNat_natCast]; omega)
  rw [Int.toNat_natCast] at e
  unfold rdQids
  rw [List.append_assoc, e]
  dsimp only
  rw [Int.toNat_natCast]
  have := rdQs_fwd L.length L [] (L.length + 1) (X ++ le 2 L.length) q (by simp) (by omega) hL
  rw [List.append_assoc, List.length_append, le_len] at this
  rw [this]
  simp [le_len, Nat.add_assoc]
theorem rdDa_fwd (X q old : List UInt8) {t : List UInt8} (h : t.length ≤ 8168) : rdDa (X ++ ((le 4 t.length ++ t) ++ q)) old ⟨X.length, false⟩ = (t, ⟨X.length + (le 4 t.length ++ t).length, false⟩) := by
  have e := rdN_fwd X (t ++ q) (n := (t.length : Int)) (w := 4) (by omega) (by omega) (by omega) (by rw [Int.toNat_natCast]; omega)
  rw [Int.toNat_natCast] at e
  unfold rdDa daR
  rw [List.append_assoc, e]
  dsimp only
  rw [if_neg (by simp [le_len]; omega), Int.toNat_natCast]
  have := cut_at (X ++ le 4 t.length) t q (a := X.length + 4) (n := t.length) (by simp [le_len]) rfl
  rw [List.append_assoc] at this
  rw [this]
  simp [le_len, Nat.add_assoc]
theorem rdD_fwd (X q : List UInt8) {d : DD} (h : checkR d = 0) : rdD (X ++ ((le 2 (putS d).1.length ++ (putS d).1) ++ q)) ⟨X.length, false⟩ = (d, ⟨X.length + (le 2 (putS d).1.length ++ (putS d).1).length, false⟩) := by
  have hp := (putS_len h).1
  have e := rdN_fwd X ((putS d).1 ++ q) (n := ((putS d).1.length : Int)) (w := 2) (by omega) (by omega) (by omega) (by rw [Int.toNat_natCast]; omega)
  rw [Int.toNat_natCast] at e
  have g := getS_putS h (X ++ le 2 (putS d).1.length) q
  rw [List.append_assoc, List.length_append, le_len] at g
  unfold rdD dirR moveR
  rw [List.append_assoc, e]
  dsimp only
  rw [g]
  dsimp only
  unfold orBad
  rw [if_pos rfl, if_pos (by simp)]
  refine Prod.ext rfl ?_
  show RS.mk _ _ = RS.mk _ _
  congr 1
  simp [le_len]
  omega
theorem rdE_fwd (X q : List UInt8) {e : Int} (h : 1 ≤ e ∧ e ≤ 59) : rdE (X ++ (counted (Ft.textL e) ++ q)) ⟨X.length, false⟩ = (e, ⟨X.length + (counted (Ft.textL e)).length, false⟩) := by
  have hl := Ft.textL_len e
  have hf : Ft.findL (Ft.textL e) = (e, true) := by
    rw [Ft.findL_text, if_neg]
    rcases Ft.textL_cases e with ⟨_, hx⟩ | ⟨k, _, hx⟩
    · omega
    · rw [hx]; exact (Ft.plainText k).1
  unfold rdE
  rw [rdT_fwd X q (by omega)]
  dsimp only
  rw [hf]
  rfl

/-! ### Fields -/
/-- x with the field f of m. -/
def setF (x m : MM) : Nat → MM
  | 0 => { x with fi := m.fi } | 1 => { x with nf := m.nf } | 2 => { x with af := m.af } | 3 => { x with ot := m.ot } | 4 => { x with ms := m.ms }
  | 5 => { x with ve := m.ve } | 6 => { x with us := m.us } | 7 => { x with ac := m.ac } | 8 => { x with nl := m.nl } | 9 => { x with ql := m.ql } | 10 => { x with qd := m.qd }
  | 11 => { x with io := m.io } | 12 => { x with mo := m.mo } | 13 => { x with pe := m.pe } | 14 => { x with na := m.na }
  | 15 => { x with os := m.os } | 16 => { x with co := m.co } | 17 => { x with da := m.da } | 18 => { x with st := m.st } | 19 => { x with er := m.er }
  | 20 => { x with lz := m.lz } | 21 => { x with te := m.te } | _ => { x with se := m.se }
theorem rdF_fwd (X q : List UInt8) (x : MM) {m : MM} {f : Nat} (hf : f < 23) (h : Fit m f) : rdF (X ++ (encF m f ++ q)) x ⟨X.length, false⟩ f = (setF x m f, ⟨X.length + (encF m f).length, false⟩) := by
  have p1 : 256 ^ 1 = 256 := rfl
  have p2 : 256 ^ 2 = 65536 := rfl
  have p4 : 256 ^ 4 = 4294967296 := rfl
  have p8 : 256 ^ 8 = 18446744073709551616 := rfl
  rcases k23 hf with rfl | rfl | rfl | rfl | rfl | rfl | rfl | rfl | rfl | rfl | rfl | rfl | rfl | rfl | rfl | rfl | rfl | rfl | rfl | rfl | rfl | rfl | rfl
  · have h : 0 ≤ m.fi ∧ m.fi ≤ 4294967294 := h
    have := rdN_fwd X q (n := m.fi) (w := 4) (by omega) h.1 (by omega) (by omega)
    simp only [rdF, encF, setF, this, le_len]
  · have h : 0 ≤ m.nf ∧ m.nf ≤ 4294967294 := h
    have := rdN_fwd X q (n := m.nf) (w := 4) (by omega) h.1 (by omega) (by omega)
    simp only [rdF, encF, setF, this, le_len]
  · have h : 0 ≤ m.af ∧ m.af ≤ 4294967295 := h
    have := rdN_fwd X q (n := m.af) (w := 4) (by omega) h.1 (by omega) (by omega)
    simp only [rdF, encF, setF, this, le_len]
  · have h : 0 ≤ m.ot ∧ m.ot ≤ 65534 := h
    have := rdN_fwd X q (n := m.ot) (w := 2) (by omega) h.1 (by omega) (by omega)
    simp only [rdF, encF, setF, this, le_len]
  · have h : 0 ≤ m.ms ∧ m.ms ≤ 4294967295 := h
    have := rdN_fwd X q (n := m.ms) (w := 4) (by omega) h.1 (by omega) (by omega)
    simp only [rdF, encF, setF, this, le_len]
  · have h : m.ve.length ≤ 64 := h
    have := rdT_fwd X q (t := m.ve) (by omega)
    simp only [rdF, encF, setF, this]
  · have h : m.us.length ≤ 32 := h
    have := rdT_fwd X q (t := m.us) (by omega)
    simp only [rdF, encF, setF, this]
  · have h : m.ac.length ≤ 1024 := h
    have := rdT_fwd X q (t := m.ac) (by omega)
    simp only [rdF, encF, setF, this]
  · have h : m.nl.length ≤ 16 ∧ ∀ l ∈ m.nl, l.length ≤ 64 := h
    have := rdNames_fwd X q (L := m.nl) (by omega) (fun l hl => by have := h.2 l hl; omega)
    simp only [rdF, encF, setF, this]
  · have h : m.ql.length ≤ 16 ∧ ∀ q ∈ m.ql, qidB q = true := h
    have := rdQids_fwd X q (L := m.ql) (by omega) h.2
    simp only [rdF, encF, setF, this]
  · have := rdQ_fwd X q (x := m.qd) h
    simp only [rdF, encF, setF, this]
  · have h : 0 ≤ m.io ∧ m.io ≤ 8192 := h
    have := rdN_fwd X q (n := m.io) (w := 4) (by omega) h.1 (by omega) (by omega)
    simp only [rdF, encF, setF, this, le_len]
  · have h : 0 ≤ m.mo ∧ m.mo ≤ 255 := h
    have := rdN_fwd X q (n := m.mo) (w := 1) (by omega) h.1 (by omega) (by omega)
    simp only [rdF, encF, setF, this, le_len]
  · have h : 0 ≤ m.pe ∧ m.pe ≤ 4294967295 := h
    have := rdN_fwd X q (n := m.pe) (w := 4) (by omega) h.1 (by omega) (by omega)
    simp only [rdF, encF, setF, this, le_len]
  · have h : m.na.length ≤ 64 := h
    have := rdT_fwd X q (t := m.na) (by omega)
    simp only [rdF, encF, setF, this]
  · have h : 0 ≤ m.os ∧ m.os ≤ 9007199254740991 := h
    have := rdN_fwd X q (n := m.os) (w := 8) (by omega) h.1 (by omega) (by omega)
    simp only [rdF, encF, setF, this, le_len]
  · have h : 0 ≤ m.co ∧ m.co ≤ 8192 := h
    have := rdN_fwd X q (n := m.co) (w := 4) (by omega) h.1 (by omega) (by omega)
    simp only [rdF, encF, setF, this, le_len]
  · have h : m.da.length ≤ 8168 := h
    have := rdDa_fwd X q x.da (t := m.da) h
    simp only [rdF, encF, setF, this]
  · have h : checkR m.st = 0 := h
    have := rdD_fwd X q (d := m.st) h
    simp only [rdF, encF, setF, this]
  · have h : 1 ≤ m.er ∧ m.er ≤ 59 := h
    have := rdE_fwd X q (e := m.er) h
    simp only [rdF, encF, setF, this]
  · have h : 0 ≤ m.lz ∧ m.lz ≤ 2 := h
    have := rdN_fwd X q (n := m.lz) (w := 1) (by omega) h.1 (by omega) (by omega)
    simp only [rdF, encF, setF, this, le_len]
  · have h : 0 ≤ m.te ∧ m.te ≤ 1048576 := h
    have := rdN_fwd X q (n := m.te) (w := 4) (by omega) h.1 (by omega) (by omega)
    simp only [rdF, encF, setF, this, le_len]
  · have h : m.se.length ≤ 64 := h
    have := rdT_fwd X q (t := m.se) (by omega)
    simp only [rdF, encF, setF, this]
/-- A field is the same in both. -/
def EqF (a b : MM) : Nat → Prop
  | 0 => a.fi = b.fi | 1 => a.nf = b.nf | 2 => a.af = b.af | 3 => a.ot = b.ot | 4 => a.ms = b.ms | 5 => a.ve = b.ve | 6 => a.us = b.us | 7 => a.ac = b.ac
  | 8 => a.nl = b.nl | 9 => a.ql = b.ql | 10 => a.qd = b.qd | 11 => a.io = b.io | 12 => a.mo = b.mo | 13 => a.pe = b.pe | 14 => a.na = b.na | 15 => a.os = b.os | 16 => a.co = b.co
  | 17 => a.da = b.da | 18 => a.st = b.st | 19 => a.er = b.er | 20 => a.lz = b.lz | 21 => a.te = b.te | _ => a.se = b.se
theorem EqF_same (x m : MM) (f : Nat) (hf : f < 23) : EqF (setF x m f) m f := by
  rcases k23 hf with rfl | rfl | rfl | rfl | rfl | rfl | rfl | rfl | rfl | rfl | rfl | rfl | rfl | rfl | rfl | rfl | rfl | rfl | rfl | rfl | rfl | rfl | rfl <;> exact rfl
set_option maxHeartbeats 1600000 in
theorem EqF_keep {x m : MM} {f g : Nat} (hf : f < 23) (hg : g < 23) (h : EqF x m g) : EqF (setF x m f) m g := by
  by_cases e : f = g
  · subst e; exact EqF_same x m f hf
  · rcases k23 hf with rfl | rfl | rfl | rfl | rfl | rfl | rfl | rfl | rfl | rfl | rfl | rfl | rfl | rfl | rfl | rfl | rfl | rfl | rfl | rfl | rfl | rfl | rfl <;>
      rcases k23 hg with rfl | rfl | rfl | rfl | rfl | rfl | rfl | rfl | rfl | rfl | rfl | rfl | rfl | rfl | rfl | rfl | rfl | rfl | rfl | rfl | rfl | rfl | rfl <;>
      first | exact h | exact absurd rfl e
theorem EqF_zero {m : MM} (k t : Int) {f : Nat} (hf : f < 23) (h : zeroB m f = true) : EqF { noM with kd := k, tg := t } m f := by
  rcases k23 hf with rfl | rfl | rfl | rfl | rfl | rfl | rfl | rfl | rfl | rfl | rfl | rfl | rfl | rfl | rfl | rfl | rfl | rfl | rfl | rfl | rfl | rfl | rfl
  case inr.inr.inr.inr.inr.inr.inr.inr.inl =>
    have h : (m.nl.length == 0) = true := h
    show [] = m.nl
    exact (List.eq_nil_of_length_eq_zero (by simpa using h)).symm
  case inr.inr.inr.inr.inr.inr.inr.inr.inr.inl =>
    have h : (m.ql.length == 0) = true := h
    show [] = m.ql
    exact (List.eq_nil_of_length_eq_zero (by simpa using h)).symm
  case inr.inr.inr.inr.inr.inr.inr.inr.inr.inr.inl =>
    have h : isNo m.qd = true := h
    show noQ = m.qd
    unfold isNo at h
    rcases hq : m.qd with ⟨a, b, c⟩
    rw [hq] at h
    simp only [Bool.and_eq_true, beq_iff_eq] at h
    obtain ⟨rfl, rfl, rfl⟩ := h
    rfl
  case inr.inr.inr.inr.inr.inr.inr.inr.inr.inr.inr.inr.inr.inr.inr.inr.inr.inr.inl =>
    have h : eqDD m.st noD = true := h
    show noD = m.st
    unfold eqDD at h
    rcases hq : m.st with ⟨a1, a2, a3, a4, a5, a6, a7, a8, a9, b1, b2, b3, b4⟩
    rw [hq] at h
    simp only [Bool.and_eq_true, beq_iff_eq] at h
    obtain ⟨rfl, rfl, ⟨rfl, rfl, rfl⟩, rfl, rfl, rfl, rfl, rfl, rfl, rfl, rfl⟩ := h
    rfl
  all_goals exact (eq_of_beq h).symm
/-- The first k fields are set. -/
def accF (m : MM) : Nat → MM
  | 0 => { noM with kd := m.kd, tg := m.tg }
  | k + 1 => setF (accF m k) m ((fieldsL m.kd).getD k 0)
theorem setF_kd (x m : MM) (f : Nat) : (setF x m f).kd = x.kd ∧ (setF x m f).tg = x.tg ∧ (setF x m f).nv = x.nv ∧ (setF x m f).qv = x.qv := by
  unfold setF; split <;> exact ⟨rfl, rfl, rfl, rfl⟩
theorem accF_kd (m : MM) : ∀ k, (accF m k).kd = m.kd ∧ (accF m k).tg = m.tg ∧ (accF m k).nv = .slice none 0 0 ∧ (accF m k).qv = .slice none 0 0
  | 0 => ⟨rfl, rfl, rfl, rfl⟩
  | k + 1 => by
    obtain ⟨e1, e2, e3, e4⟩ := setF_kd (accF m k) m ((fieldsL m.kd).getD k 0)
    obtain ⟨h1, h2, h3, h4⟩ := accF_kd m k
    exact ⟨e1.trans h1, e2.trans h2, e3.trans h3, e4.trans h4⟩
theorem accF_eq {m : MM} : ∀ k, k ≤ (fieldsL m.kd).length → ∀ f, f < 23 → (f ∈ (fieldsL m.kd).take k ∨ zeroB m f = true) → EqF (accF m k) m f := by
  intro k
  induction k with
  | zero =>
    intro _ f hf h
    rcases h with h | h
    · simp at h
    · exact EqF_zero _ _ hf h
  | succ k ih =>
    intro hk f hf h
    have hlt : k < (fieldsL m.kd).length := by omega
    have hg : (fieldsL m.kd).getD k 0 = (fieldsL m.kd)[k] := by rw [List.getD_eq_getElem?_getD, List.getElem?_eq_getElem hlt]; rfl
    rw [accF]
    rcases h with h | h
    · rw [List.take_succ_eq_append_getElem hlt, List.mem_append, List.mem_singleton] at h
      rcases h with h | h
      · exact EqF_keep (fld_lt _ _) hf (ih (by omega) f hf (.inl h))
      · rw [hg, ← h]; exact EqF_same _ _ f hf
    · exact EqF_keep (fld_lt _ _) hf (ih (by omega) f hf (.inr h))
/-- The message without its slices. -/
def bare (m : MM) : MM := { m with nv := .slice none 0 0, qv := .slice none 0 0 }
theorem accF_all {m : MM} (h : checkM m = 0) : accF m (fieldsL m.kd).length = bare m := by
  obtain ⟨hk, _, ho, _⟩ := check_used h
  have key : ∀ f, f < 23 → EqF (accF m (fieldsL m.kd).length) m f := fun f hf => by
    refine accF_eq _ (Nat.le_refl _) f hf ?_
    rw [List.take_length]
    by_cases hm : f ∈ fieldsL m.kd
    · exact .inl hm
    · refine .inr ?_
      have hb : badF m f = false := by
        cases hx : badF m f with
        | false => rfl
        | true => rw [othersB_yes hf hx] at ho; cases ho
      unfold badF at hb
      have hc : (fieldsL m.kd).contains f = false := by simpa using hm
      rw [hc] at hb
      simpa using hb
  obtain ⟨e1, e2, e3, e4⟩ := accF_kd m (fieldsL m.kd).length
  generalize accF m (fieldsL m.kd).length = x at *
  have k0 := key 0 (by omega)
  have k1 := key 1 (by omega)
  have k2 := key 2 (by omega)
  have k3 := key 3 (by omega)
  have k4 := key 4 (by omega)
  have k5 := key 5 (by omega)
  have k6 := key 6 (by omega)
  have k7 := key 7 (by omega)
  have k8 := key 8 (by omega)
  have k9 := key 9 (by omega)
  have k10 := key 10 (by omega)
  have k11 := key 11 (by omega)
  have k12 := key 12 (by omega)
  have k13 := key 13 (by omega)
  have k14 := key 14 (by omega)
  have k15 := key 15 (by omega)
  have k16 := key 16 (by omega)
  have k17 := key 17 (by omega)
  have k18 := key 18 (by omega)
  have k19 := key 19 (by omega)
  have k20 := key 20 (by omega)
  have k21 := key 21 (by omega)
  have k22 := key 22 (by omega)
  unfold EqF at k0 k1 k2 k3 k4 k5 k6 k7 k8 k9 k10 k11 k12 k13 k14 k15 k16 k17 k18 k19 k20 k21 k22
  cases x
  dsimp only at *
  subst e1 e2 e3 e4 k0 k1 k2 k3 k4 k5 k6 k7 k8 k9 k10 k11 k12 k13 k14 k15 k16 k17 k18 k19 k20 k21 k22
  rfl
theorem bodyTo_split (m : MM) {k : Nat} (hk : k ≤ (fieldsL m.kd).length) : ∃ r, bodyW m = bodyTo m k ++ r := by
  obtain ⟨j, hj⟩ : ∃ j, (fieldsL m.kd).length = k + j := ⟨_, (Nat.add_sub_of_le hk).symm⟩
  unfold bodyW
  rw [hj]
  have : ∀ j, k + j ≤ (fieldsL m.kd).length → ∃ r, bodyTo m (k + j) = bodyTo m k ++ r := by
    intro j
    induction j with
    | zero => intro _; exact ⟨[], by simp⟩
    | succ j ih =>
      intro h
      obtain ⟨r, hr⟩ := ih (by omega)
      refine ⟨r ++ encF m ((fieldsL m.kd).getD (k + j) 0), ?_⟩
      rw [← Nat.add_assoc, bodyTo_succ (by omega), hr, List.append_assoc]
  exact this j (by omega)
theorem headR_put {m : MM} (h : checkM m = 0) : headR (bodyW m) = (accF m 0, ⟨(bodyTo m 0).length, false⟩) := by
  obtain ⟨hk, ht, _, _⟩ := check_used h
  have hk' : 100 ≤ m.kd ∧ m.kd ≤ 131 := by unfold kindB at hk; simp only [decide_eq_true_eq] at hk; omega
  have ht' := tagB_le ht
  obtain ⟨r, hr⟩ := bodyTo_split m (k := 0) (Nat.zero_le _)
  rw [bodyTo_zero] at hr ⊢
  have e1 := rdN_fwd [] (le 2 m.tg.toNat ++ r) (n := m.kd) (w := 1) (by omega) (by omega) (by omega) (by rw [show 256 ^ 1 = 256 from rfl]; omega)
  have e2 := rdN_fwd (le 1 m.kd.toNat) r (n := m.tg) (w := 2) (by omega) (by omega) (by omega) (by rw [show 256 ^ 2 = 65536 from rfl]; omega)
  rw [le_len] at e2
  rw [List.nil_append, List.length_nil, Nat.zero_add] at e1
  unfold headR
  rw [hr, List.append_assoc, e1]
  dsimp only
  rw [e2, List.length_append, le_len, le_len]
  rfl
theorem rdTo_put {m : MM} (h : checkM m = 0) : ∀ k, k ≤ (fieldsL m.kd).length → rdTo (bodyW m) k = (accF m k, ⟨(bodyTo m k).length, false⟩) := by
  intro k
  induction k with
  | zero => intro _; exact headR_put h
  | succ k ih =>
    intro hk
    obtain ⟨r, hr⟩ := bodyTo_split m (k := k + 1) hk
    have hs := bodyTo_succ (m := m) (k := k) (by omega)
    have hf := rdF_fwd (bodyTo m k) r (accF m k) (m := m) (fld_lt m.kd k) (fits h (by omega))
    rw [rdTo, ih (by omega), headR_put h]
    dsimp only
    rw [(accF_kd m 0).1]
    have hb : bodyW m = bodyTo m k ++ (encF m ((fieldsL m.kd).getD k 0) ++ r) := by rw [hr, hs, List.append_assoc]
    rw [hb, hf, hs, List.length_append]
    rfl
theorem bare_check (m : MM) : checkM (bare m) = checkM m := rfl
theorem getB_put {m : MM} (h : checkM m = 0) : getB (bodyW m) = (bare m, 0) := by
  have hk := (check_used h).1
  have hkd : (headR (bodyW m)).1.kd = m.kd := by rw [headR_put h]; exact (accF_kd m 0).1
  have hall : rdAll (bodyW m) = (bare m, ⟨(bodyW m).length, false⟩) := by
    unfold rdAll
    rw [hkd, rdTo_put h _ (Nat.le_refl _), accF_all h]
    rfl
  have hok : okR (bodyW m) = true := by
    unfold okR
    rw [hkd, hk, hall]
    simp
  unfold getB
  rw [hok, hall, if_neg (by simp), if_neg (by rw [bare_check]; simp [h])]
/-- What Put gives is read back. -/
theorem get_of_put {m : MM} {s : List UInt8} (h : putW m = (s, 0)) (p q : List UInt8) : s.length ≤ 8192 ∧ getW (p ++ (s ++ q)) (p.length : Int) = (bare m, (p.length : Int) + (s.length : Int), 0) := by
  unfold putW at h
  split at h
  · rename_i hc; injection h with _ h; exact absurd h hc
  · rename_i hc
    have hc : checkM m = 0 := by simpa using hc
    split at h
    · injection h with _ h; exact absurd h (by decide)
    · rename_i hl
      injection h with hs _
      have h3 : 3 ≤ (bodyW m).length := by
        obtain ⟨r, hr⟩ := bodyTo_split m (k := 0) (Nat.zero_le _)
        rw [hr, bodyTo_zero]; simp [le_len]; omega
      have hlen : s.length = 4 + (bodyW m).length := by rw [← hs]; simp [le_len]
      refine ⟨by omega, ?_⟩
      have hv := val_le 4 (4 + (bodyW m).length) (by rw [show 256 ^ 4 = 4294967296 from rfl]; omega)
      have hc4 : cut (p ++ (s ++ q)) p.length 4 = le 4 (4 + (bodyW m).length) := by
        rw [← hs, List.append_assoc]
        exact cut_at p _ _ rfl (by rw [le_len])
      have hcb : cut (p ++ (s ++ q)) (p.length + 4) (bodyW m).length = bodyW m := by
        rw [← hs]
        have := cut_at (p ++ le 4 (4 + (bodyW m).length)) (bodyW m) q (a := p.length + 4) (n := (bodyW m).length) (by simp [le_len]) rfl
        rw [show p ++ ((le 4 (4 + (bodyW m).length) ++ bodyW m) ++ q) = p ++ le 4 (4 + (bodyW m).length) ++ (bodyW m ++ q) by simp [List.append_assoc]]
        exact this
      have hg : getR (p ++ (s ++ q)) (p.length : Int) 4 = (((4 + (bodyW m).length : Nat) : Int), (p.length : Int) + 4, 0) := by
        have := getR_ok (p ++ (s ++ q)) p.length 4 (by omega) (by simp; omega)
        rw [hc4, hv] at this
        exact this
      have hsz : sizeR (p ++ (s ++ q)) (p.length : Int) = (((4 + (bodyW m).length : Nat) : Int), 0) := by
        unfold sizeR
        rw [hg, if_neg (by simp), if_neg (by dsimp only; omega), if_neg (by dsimp only; omega), if_neg (by simp; omega)]
      unfold getW
      rw [hsz, if_neg (by simp)]
      dsimp only
      rw [Int.toNat_natCast, Int.toNat_natCast, show 4 + (bodyW m).length - 4 = (bodyW m).length by omega, hcb, getB_put hc, if_neg (by simp), hlen]
end Go.Proofs.YtlfdmbfbfadifaaDoor
