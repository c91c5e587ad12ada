/-
  Messages as bytes: plain functions and lemmas. No walk in this text.
  Messages read from bytes, as the program reads them and as the reference does: plain functions; that they agree.
  The two readers agree on whole messages. No walk in this text.
-/
import Derived.Test.YtlfdmbfbfadifaaGreatDoorWa
import Derived.Test.YtlfdmbfbfadifaaGreatDoorFa
namespace Go.Proofs.YtlfdmbfbfadifaaGreatDoor
open Go.RowKit

/-! ### The encoding -/
def encQ (q : QQ) : List UInt8 := le 1 q.t.toNat ++ (le 4 q.v.toNat ++ le 8 q.p.toNat)
/-- The bytes of a field. -/
def encF (m : MM) : Nat → List UInt8
  | 0 => le 4 m.fi.toNat | 1 => le 4 m.nf.toNat | 2 => le 4 m.af.toNat | 3 => le 2 m.ot.toNat | 4 => le 4 m.ms.toNat
  | 5 => counted m.ve | 6 => counted m.us | 7 => counted m.ac
  | 8 => le 2 m.nl.length ++ m.nl.flatMap counted | 9 => le 2 m.ql.length ++ m.ql.flatMap encQ | 10 => encQ m.qd
  | 11 => le 4 m.io.toNat | 12 => le 1 m.mo.toNat | 13 => le 4 m.pe.toNat | 14 => counted m.na
  | 15 => le 8 m.os.toNat | 16 => le 4 m.co.toNat | 17 => le 4 m.da.length ++ m.da | 18 => le 2 (putS m.st).1.length ++ (putS m.st).1
  | 19 => counted (Ft.textL m.er) | 20 => le 1 m.lz.toNat | 21 => le 4 m.te.toNat | _ => counted m.se
/-- The bytes behind the size, up to the k-th field. -/
def bodyTo (m : MM) (k : Nat) : List UInt8 := le 1 m.kd.toNat ++ le 2 m.tg.toNat ++ ((fieldsL m.kd).take k).flatMap (encF m)
def bodyW (m : MM) : List UInt8 := bodyTo m (fieldsL m.kd).length
def putW (m : MM) : List UInt8 × Int := if checkM m ≠ 0 then ([], checkM m) else if 8192 < 4 + (bodyW m).length then ([], 4) else (le 4 (4 + (bodyW m).length) ++ bodyW m, 0)

theorem bodyTo_succ {m : MM} {k : Nat} (h : k < (fieldsL m.kd).length) : bodyTo m (k + 1) = bodyTo m k ++ encF m ((fieldsL m.kd).getD k 0) := by
  unfold bodyTo
  rw [List.take_succ_eq_append_getElem h, List.flatMap_append, List.append_assoc _ _ (List.flatMap _ _), ← List.append_assoc, List.append_assoc]
  simp [List.getElem?_eq_getElem h]
theorem bodyTo_zero (m : MM) : bodyTo m 0 = le 1 m.kd.toNat ++ le 2 m.tg.toNat := by simp [bodyTo]

/-! ### What Check says of a field that is used -/
theorem firstE_zero {g : Nat → Int} {L : List Nat} (h : firstE g L = 0) : ∀ f ∈ L, g f = 0 := by
  induction L with
  | nil => simp
  | cons x l ih =>
    rw [firstE] at h
    intro f hf
    split at h
    · rename_i hx
      rcases List.mem_cons.1 hf with rfl | hf
      · exact hx
      · exact ih h f hf
    · rename_i hx; exact absurd h hx
theorem check_used {m : MM} (h : checkM m = 0) : kindB m.kd = true ∧ tagB m.kd m.tg = true ∧ othersB m = false ∧ ∀ f ∈ fieldsL m.kd, faultP m f = 0 := by
  obtain ⟨h1, h2⟩ := checkM_parts h
  unfold checkM at h
  rw [if_neg (by rw [h1]; decide), if_neg (by rw [h2]; decide)] at h
  split at h
  · cases h
  · rename_i h3
    exact ⟨h1, h2, by simpa using h3, firstE_zero h⟩
theorem numI_0 {n : Int} {g : Nat} (h : numI n g = 0) : 0 ≤ n ∧ n ≤ (g : Int) := by
  unfold numI at h; split at h
  · assumption
  · cases h
theorem txtI_0 {l : List UInt8} {g : Nat} (h : txtI l g = 0) : l.length ≤ g := by
  unfold txtI at h; split at h
  · assumption
  · cases h
theorem wordB_le {l : List UInt8} (h : wordB l = true) : l.length ≤ 64 := by
  unfold wordB at h
  simp only [Bool.or_eq_true, decide_eq_true_eq] at h
  rcases h with rfl | h
  · decide
  · exact validL_le h
theorem qidB_in {q : QQ} (h : qidB q = true) : (0 ≤ q.t ∧ q.t ≤ 255) ∧ (0 ≤ q.v ∧ q.v ≤ 2147483647) ∧ (0 ≤ q.p ∧ q.p ≤ 1099511627776) := by
  unfold qidB typB at h
  simp only [Bool.and_eq_true, decide_eq_true_eq] at h
  omega
theorem qidI_ok {q : QQ} (h : qidI q = 0) : qidB q = true := by
  unfold qidI at h; split at h
  · assumption
  · cases h
theorem wordsI_0 {L : List (List UInt8)} (h : wordsI L = 0) : L.length ≤ 16 ∧ ∀ l ∈ L, l.length ≤ 64 := by
  unfold wordsI at h; split at h
  · cases h
  · split at h
    · rename_i h1 h2
      exact ⟨by omega, fun l hl => wordB_le (List.all_eq_true.1 h2 l hl)⟩
    · cases h
theorem qidsI_0 {L : List QQ} (h : qidsI L = 0) : L.length ≤ 16 ∧ ∀ q ∈ L, qidB q = true := by
  unfold qidsI at h; split at h
  · cases h
  · split at h
    · rename_i h1 h2
      exact ⟨by omega, fun l hl => List.all_eq_true.1 h2 l hl⟩
    · cases h
theorem errI_0 {e : Int} (h : errI e = 0) : 1 ≤ e ∧ e ≤ 59 := by
  unfold errI at h; split at h
  · assumption
  · cases h
/-- What a field that is used holds. -/
def Fit (m : MM) : Nat → Prop
  | 0 => 0 ≤ m.fi ∧ m.fi ≤ 4294967294 | 1 => 0 ≤ m.nf ∧ m.nf ≤ 4294967294 | 2 => 0 ≤ m.af ∧ m.af ≤ 4294967295 | 3 => 0 ≤ m.ot ∧ m.ot ≤ 65534 | 4 => 0 ≤ m.ms ∧ m.ms ≤ 4294967295
  | 5 => m.ve.length ≤ 64 | 6 => m.us.length ≤ 32 | 7 => m.ac.length ≤ 1024
  | 8 => m.nl.length ≤ 16 ∧ ∀ l ∈ m.nl, l.length ≤ 64 | 9 => m.ql.length ≤ 16 ∧ ∀ q ∈ m.ql, qidB q = true | 10 => qidB m.qd = true
  | 11 => 0 ≤ m.io ∧ m.io ≤ 8192 | 12 => 0 ≤ m.mo ∧ m.mo ≤ 255 | 13 => 0 ≤ m.pe ∧ m.pe ≤ 4294967295 | 14 => m.na.length ≤ 64
  | 15 => 0 ≤ m.os ∧ m.os ≤ 9007199254740991 | 16 => 0 ≤ m.co ∧ m.co ≤ 8192 | 17 => m.da.length ≤ 8168 | 18 => checkR m.st = 0
  | 19 => 1 ≤ m.er ∧ m.er ≤ 59 | 20 => 0 ≤ m.lz ∧ m.lz ≤ 2 | 21 => 0 ≤ m.te ∧ m.te ≤ 1048576 | _ => m.se.length ≤ 64
theorem fit_of {m : MM} {f : Nat} (hf : f < 23) (h : faultP m f = 0) : Fit m f := by
  unfold faultP at h
  have ha : authP m.kd ≤ 4294967295 := by unfold authP; split <;> omega
  generalize authP m.kd = A at *
  rcases k23 hf with rfl | rfl | rfl | rfl | rfl | rfl | rfl | rfl | rfl | rfl | rfl | rfl | rfl | rfl | rfl | rfl | rfl | rfl | rfl | rfl | rfl | rfl | rfl
  case inr.inr.inl => have := numI_0 (g := A) h; show _ ∧ _; omega
  case inr.inr.inr.inr.inr.inr.inr.inr.inl => exact wordsI_0 h
  case inr.inr.inr.inr.inr.inr.inr.inr.inr.inl => exact qidsI_0 h
  case inr.inr.inr.inr.inr.inr.inr.inr.inr.inr.inl => exact qidI_ok h
  case inr.inr.inr.inr.inr.inr.inr.inr.inr.inr.inr.inr.inr.inr.inl =>
    have h : (if validL m.na then 0 else (6 : Int)) = 0 := h
    split at h
    · rename_i hv; exact validL_le hv
    · cases h
  case inr.inr.inr.inr.inr.inr.inr.inr.inr.inr.inr.inr.inr.inr.inr.inr.inr.inr.inl => exact h
  case inr.inr.inr.inr.inr.inr.inr.inr.inr.inr.inr.inr.inr.inr.inr.inr.inr.inr.inr.inl => exact errI_0 h
  all_goals first | exact numI_0 h | exact txtI_0 h
theorem fits {m : MM} (h : checkM m = 0) {k : Nat} (hk : k < (fieldsL m.kd).length) : Fit m ((fieldsL m.kd).getD k 0) := by
  obtain ⟨h1, _, _, h4⟩ := check_used h
  have hm : (fieldsL m.kd).getD k 0 ∈ fieldsL m.kd := by
    rw [List.getD_eq_getElem?_getD, List.getElem?_eq_getElem hk]; exact List.getElem_mem hk
  exact fit_of ((fieldsL_le h1).2 _ hm) (h4 _ hm)
theorem fieldsL_lt {k : Int} (h : kindB k = true) {j : Nat} (hj : j < (fieldsL k).length) : (fieldsL k).getD j 0 < 23 := by
  refine (fieldsL_le h).2 _ ?_
  rw [List.getD_eq_getElem?_getD, List.getElem?_eq_getElem hj]; exact List.getElem_mem hj
theorem flatMap_le {α : Type} {L : List α} {g : α → List UInt8} {n : Nat} (h : ∀ x ∈ L, (g x).length ≤ n) : (L.flatMap g).length ≤ L.length * n := by
  induction L with
  | nil => simp
  | cons x l ih =>
    rw [List.flatMap_cons, List.length_append, List.length_cons, Nat.succ_mul]
    have := h x (List.mem_cons_self ..)
    have := ih fun y hy => h y (List.mem_cons_of_mem _ hy)
    omega
theorem encQ_len (q : QQ) : (encQ q).length = 13 := by simp [encQ, le_len]
theorem encF_le {m : MM} {f : Nat} (hf : f < 23) (h : Fit m f) : (encF m f).length ≤ 8200 := by
  rcases k23 hf with rfl | rfl | rfl | rfl | rfl | rfl | rfl | rfl | rfl | rfl | rfl | rfl | rfl | rfl | rfl | rfl | rfl | rfl | rfl | rfl | rfl | rfl | rfl
  case inr.inr.inr.inr.inr.inr.inr.inr.inl =>
    have h : m.nl.length ≤ 16 ∧ ∀ l ∈ m.nl, l.length ≤ 64 := h
    show (le 2 m.nl.length ++ m.nl.flatMap counted).length ≤ 8200
    have := flatMap_le (L := m.nl) (g := counted) (n := 66) fun l hl => by rw [counted_len]; have := h.2 l hl; omega
    rw [List.length_append, le_len]; omega
  case inr.inr.inr.inr.inr.inr.inr.inr.inr.inl =>
    have h : m.ql.length ≤ 16 ∧ ∀ q ∈ m.ql, qidB q = true := h
    show (le 2 m.ql.length ++ m.ql.flatMap encQ).length ≤ 8200
    have := flatMap_le (L := m.ql) (g := encQ) (n := 13) fun l hl => by rw [encQ_len]; omega
    rw [List.length_append, le_len]; omega
  case inr.inr.inr.inr.inr.inr.inr.inr.inr.inr.inl => show (encQ m.qd).length ≤ 8200; rw [encQ_len]; omega
  case inr.inr.inr.inr.inr.inr.inr.inr.inr.inr.inr.inr.inr.inr.inr.inr.inr.inl =>
    have h : m.da.length ≤ 8168 := h
    show (le 4 m.da.length ++ m.da).length ≤ 8200
    rw [List.length_append, le_len]; omega
  case inr.inr.inr.inr.inr.inr.inr.inr.inr.inr.inr.inr.inr.inr.inr.inr.inr.inr.inl =>
    have h : checkR m.st = 0 := h
    have := putS_len h
    show (le 2 (putS m.st).1.length ++ (putS m.st).1).length ≤ 8200
    rw [List.length_append, le_len]; omega
  case inr.inr.inr.inr.inr.inr.inr.inr.inr.inr.inr.inr.inr.inr.inr.inr.inr.inr.inr.inl =>
    have := Ft.textL_len m.er
    show (counted (Ft.textL m.er)).length ≤ 8200
    rw [counted_len]; omega
  all_goals first
    | (show (le _ _).length ≤ 8200; rw [le_len]; omega)
    | (show (counted m.ve).length ≤ 8200; rw [counted_len]; have : m.ve.length ≤ 64 := h; omega)
    | (show (counted m.us).length ≤ 8200; rw [counted_len]; have : m.us.length ≤ 32 := h; omega)
    | (show (counted m.ac).length ≤ 8200; rw [counted_len]; have : m.ac.length ≤ 1024 := h; omega)
    | (show (counted m.na).length ≤ 8200; rw [counted_len]; have : m.na.length ≤ 64 := h; omega)
    | (show (counted m.se).length ≤ 8200; rw [counted_len]; have : m.se.length ≤ 64 := h; omega)
theorem bodyTo_le {m : MM} (h : checkM m = 0) {k : Nat} (hk : k ≤ (fieldsL m.kd).length) : (bodyTo m k).length ≤ 3 + k * 8200 := by
  induction k with
  | zero => rw [bodyTo_zero, List.length_append, le_len, le_len]; omega
  | succ k ih =>
    have := ih (by omega)
    have := encF_le (fieldsL_lt (check_used h).1 (show k < _ by omega)) (fits h (show k < _ by omega))
    rw [bodyTo_succ (by omega), List.length_append]; omega
theorem bodyW_le {m : MM} (h : checkM m = 0) : (bodyW m).length ≤ 32803 := by
  have h1 := (fieldsL_le (check_used h).1).1
  have := bodyTo_le h (Nat.le_refl _)
  unfold bodyW; omega
end Go.Proofs.YtlfdmbfbfadifaaGreatDoor

namespace Go.Proofs.YtlfdmbfbfadifaaGreatDoor
open Go.RowKit

/-! ### The program's reader -/
structure RS where
  at' : Nat
  bad : Bool
def moveR (s : RS) (next e : Int) : RS := if e = 0 then ⟨next.toNat, s.bad⟩ else ⟨s.at', true⟩
def rdN (b : List UInt8) (s : RS) (w : Nat) : Int × RS := ((getR b s.at' w).1, moveR s (getR b s.at' w).2.1 (getR b s.at' w).2.2)
def rdT (b : List UInt8) (s : RS) : List UInt8 × RS := ((getTextR b s.at').1, moveR s (getTextR b s.at').2.1 (getTextR b s.at').2.2)
def daR (b old : List UInt8) (x : Int × RS) : List UInt8 × RS :=
  if (b.length : Int) - (x.2.at' : Int) < x.1 then (old, ⟨x.2.at', true⟩) else (cut b x.2.at' x.1.toNat, ⟨x.2.at' + x.1.toNat, x.2.bad⟩)
def rdDa (b old : List UInt8) (s : RS) : List UInt8 × RS := daR b old (rdN b s 4)
/-- Names, until there are c of them; n: at most so many more. -/
def rdNs (b : List UInt8) (c : Int) : Nat → List (List UInt8) → RS → List (List UInt8) × RS
  | 0, acc, s => (acc, s)
  | n + 1, acc, s => if (acc.length : Int) < c ∧ s.bad = false then rdNs b c n (acc ++ [(rdT b s).1]) (rdT b s).2 else (acc, s)
def rdNames (b : List UInt8) (s : RS) : List (List UInt8) × RS := rdNs b (rdN b s 2).1 ((rdN b s 2).1.toNat + 1) [] (rdN b s 2).2
def rdQ (b : List UInt8) (s : RS) : QQ × RS := (⟨(rdN b s 1).1, (rdN b (rdN b s 1).2 4).1, (rdN b (rdN b (rdN b s 1).2 4).2 8).1⟩, (rdN b (rdN b (rdN b s 1).2 4).2 8).2)
def rdQs (b : List UInt8) (c : Int) : Nat → List QQ → RS → List QQ × RS
  | 0, acc, s => (acc, s)
  | n + 1, acc, s => if (acc.length : Int) < c ∧ s.bad = false then rdQs b c n (acc ++ [(rdQ b s).1]) (rdQ b s).2 else (acc, s)
def rdQids (b : List UInt8) (s : RS) : List QQ × RS := rdQs b (rdN b s 2).1 ((rdN b s 2).1.toNat + 1) [] (rdN b s 2).2
def orBad (s : RS) (c : Bool) : RS := if c then s else ⟨s.at', true⟩
def dirR (b : List UInt8) (x : Int × RS) : DD × RS :=
  ((getS numP b x.2.at').1, orBad (moveR x.2 (getS numP b x.2.at').2.1 (getS numP b x.2.at').2.2) (decide ((getS numP b x.2.at').2.1 = (x.2.at' : Int) + x.1)))
def rdD (b : List UInt8) (s : RS) : DD × RS := dirR b (rdN b s 2)
def rdE (b : List UInt8) (s : RS) : Int × RS := ((Ft.findL (rdT b s).1).1, orBad (rdT b s).2 (Ft.findL (rdT b s).1).2)
/-- A field is read. -/
def rdF (b : List UInt8) (m : MM) (s : RS) : Nat → MM × RS
  | 0 => ({ m with fi := (rdN b s 4).1 }, (rdN b s 4).2) | 1 => ({ m with nf := (rdN b s 4).1 }, (rdN b s 4).2) | 2 => ({ m with af := (rdN b s 4).1 }, (rdN b s 4).2)
  | 3 => ({ m with ot := (rdN b s 2).1 }, (rdN b s 2).2) | 4 => ({ m with ms := (rdN b s 4).1 }, (rdN b s 4).2)
  | 5 => ({ m with ve := (rdT b s).1 }, (rdT b s).2) | 6 => ({ m with us := (rdT b s).1 }, (rdT b s).2) | 7 => ({ m with ac := (rdT b s).1 }, (rdT b s).2)
  | 8 => ({ m with nl := (rdNames b s).1 }, (rdNames b s).2) | 9 => ({ m with ql := (rdQids b s).1 }, (rdQids b s).2) | 10 => ({ m with qd := (rdQ b s).1 }, (rdQ b s).2)
  | 11 => ({ m with io := (rdN b s 4).1 }, (rdN b s 4).2) | 12 => ({ m with mo := (rdN b s 1).1 }, (rdN b s 1).2) | 13 => ({ m with pe := (rdN b s 4).1 }, (rdN b s 4).2)
  | 14 => ({ m with na := (rdT b s).1 }, (rdT b s).2)
  | 15 => ({ m with os := (rdN b s 8).1 }, (rdN b s 8).2) | 16 => ({ m with co := (rdN b s 4).1 }, (rdN b s 4).2)
  | 17 => ({ m with da := (rdDa b m.da s).1 }, (rdDa b m.da s).2) | 18 => ({ m with st := (rdD b s).1 }, (rdD b s).2) | 19 => ({ m with er := (rdE b s).1 }, (rdE b s).2)
  | 20 => ({ m with lz := (rdN b s 1).1 }, (rdN b s 1).2) | 21 => ({ m with te := (rdN b s 4).1 }, (rdN b s 4).2) | _ => ({ m with se := (rdT b s).1 }, (rdT b s).2)
/-- A message with nothing in it but its kind and its tag, read. -/
def headR (b : List UInt8) : MM × RS := ({ noM with kd := (rdN b ⟨0, false⟩ 1).1, tg := (rdN b (rdN b ⟨0, false⟩ 1).2 2).1 }, (rdN b (rdN b ⟨0, false⟩ 1).2 2).2)
/-- The first k fields are read. -/
def rdTo (b : List UInt8) : Nat → MM × RS
  | 0 => headR b
  | k + 1 => rdF b (rdTo b k).1 (rdTo b k).2 ((fieldsL (headR b).1.kd).getD k 0)
def rdAll (b : List UInt8) : MM × RS := rdTo b (fieldsL (headR b).1.kd).length
/-- What decode comes to. -/
def okR (b : List UInt8) : Bool := kindB (headR b).1.kd && (!(rdAll b).2.bad && decide ((rdAll b).2.at' = b.length))
/-- What Get comes to, behind the size and its tests. -/
def getB (b : List UInt8) : MM × Int := if okR b = false then (noM, 2) else if checkM (rdAll b).1 ≠ 0 then (noM, checkM (rdAll b).1) else ((rdAll b).1, 0)
def sizeR (l : List UInt8) (a : Int) : Int × Int :=
  if (getR l a 4).2.2 ≠ 0 then (0, (getR l a 4).2.2) else if 8192 < (getR l a 4).1 then (0, 4) else if (getR l a 4).1 < 7 then (0, 2) else if (l.length : Int) - a < (getR l a 4).1 then (0, 3) else ((getR l a 4).1, 0)
def getW (l : List UInt8) (a : Int) : MM × Int × Int :=
  if (sizeR l a).2 ≠ 0 then (noM, 0, (sizeR l a).2)
  else if (getB (cut l (a.toNat + 4) ((sizeR l a).1.toNat - 4))).2 ≠ 0 then (noM, 0, (getB (cut l (a.toNat + 4) ((sizeR l a).1.toNat - 4))).2)
  else ((getB (cut l (a.toNat + 4) ((sizeR l a).1.toNat - 4))).1, a + (sizeR l a).1, 0)

/-! ### The reference's reader -/
structure XS where
  S : List UInt8
  bad : Bool
def stopX : XS := ⟨[], true⟩
def qN (x : XS) (w : Nat) : Int × XS := if x.bad = true ∨ (getR x.S 0 w).2.2 ≠ 0 then (0, stopX) else ((getR x.S 0 w).1, ⟨x.S.drop (getR x.S 0 w).2.1.toNat, false⟩)
def qT (x : XS) : List UInt8 × XS := if x.bad = true ∨ (getTextR x.S 0).2.2 ≠ 0 then ([], stopX) else ((getTextR x.S 0).1, ⟨x.S.drop (getTextR x.S 0).2.1.toNat, false⟩)
def qRaw (y : Int × XS) : List UInt8 × XS := if y.2.bad = true ∨ (y.2.S.length : Int) < y.1 then ([], stopX) else (y.2.S.take y.1.toNat, ⟨y.2.S.drop y.1.toNat, false⟩)
def qNs : Nat → List (List UInt8) → XS → List (List UInt8) × XS
  | 0, acc, x => (acc, x)
  | n + 1, acc, x => if x.bad = false then qNs n (acc ++ [(qT x).1]) (qT x).2 else (acc, x)
def qNames (x : XS) : List (List UInt8) × XS := qNs (qN x 2).1.toNat [] (qN x 2).2
def qQ (x : XS) : QQ × XS := (⟨(qN x 1).1, (qN (qN x 1).2 4).1, (qN (qN (qN x 1).2 4).2 8).1⟩, (qN (qN (qN x 1).2 4).2 8).2)
def qQs : Nat → List QQ → XS → List QQ × XS
  | 0, acc, x => (acc, x)
  | n + 1, acc, x => if x.bad = false then qQs n (acc ++ [(qQ x).1]) (qQ x).2 else (acc, x)
def qQids (x : XS) : List QQ × XS := qQs (qN x 2).1.toNat [] (qN x 2).2
def qD (x : XS) : DD × XS :=
  ((getS numP (qRaw (qN x 2)).1 0).1, ⟨(qRaw (qN x 2)).2.S, (qRaw (qN x 2)).2.bad || (decide ((getS numP (qRaw (qN x 2)).1 0).2.2 ≠ 0) || decide ((getS numP (qRaw (qN x 2)).1 0).2.1 ≠ (qN x 2).1))⟩)
def qE (x : XS) : Int × XS := ((Ft.findL (qT x).1).1, ⟨(qT x).2.S, (qT x).2.bad || !(Ft.findL (qT x).1).2⟩)
def qF (m : MM) (x : XS) : Nat → MM × XS
  | 0 => ({ m with fi := (qN x 4).1 }, (qN x 4).2) | 1 => ({ m with nf := (qN x 4).1 }, (qN x 4).2) | 2 => ({ m with af := (qN x 4).1 }, (qN x 4).2)
  | 3 => ({ m with ot := (qN x 2).1 }, (qN x 2).2) | 4 => ({ m with ms := (qN x 4).1 }, (qN x 4).2)
  | 5 => ({ m with ve := (qT x).1 }, (qT x).2) | 6 => ({ m with us := (qT x).1 }, (qT x).2) | 7 => ({ m with ac := (qT x).1 }, (qT x).2)
  | 8 => ({ m with nl := (qNames x).1 }, (qNames x).2) | 9 => ({ m with ql := (qQids x).1 }, (qQids x).2) | 10 => ({ m with qd := (qQ x).1 }, (qQ x).2)
  | 11 => ({ m with io := (qN x 4).1 }, (qN x 4).2) | 12 => ({ m with mo := (qN x 1).1 }, (qN x 1).2) | 13 => ({ m with pe := (qN x 4).1 }, (qN x 4).2)
  | 14 => ({ m with na := (qT x).1 }, (qT x).2)
  | 15 => ({ m with os := (qN x 8).1 }, (qN x 8).2) | 16 => ({ m with co := (qN x 4).1 }, (qN x 4).2)
  | 17 => ({ m with da := (qRaw (qN x 4)).1 }, (qRaw (qN x 4)).2) | 18 => ({ m with st := (qD x).1 }, (qD x).2) | 19 => ({ m with er := (qE x).1 }, (qE x).2)
  | 20 => ({ m with lz := (qN x 1).1 }, (qN x 1).2) | 21 => ({ m with te := (qN x 4).1 }, (qN x 4).2) | _ => ({ m with se := (qT x).1 }, (qT x).2)
def headX (b : List UInt8) : MM × XS := ({ noM with kd := (qN ⟨b, false⟩ 1).1, tg := (qN (qN ⟨b, false⟩ 1).2 2).1 }, (qN (qN ⟨b, false⟩ 1).2 2).2)
def qTo (b : List UInt8) : Nat → MM × XS
  | 0 => headX b
  | k + 1 => qF (qTo b k).1 (qTo b k).2 ((fieldsL (headX b).1.kd).getD k 0)
def qAll (b : List UInt8) : MM × XS := qTo b (fieldsL (headX b).1.kd).length
def okX (b : List UInt8) : Bool := kindB (headX b).1.kd && (!(qAll b).2.bad && decide ((qAll b).2.S = []))

/-! ### They agree -/
/-- The two readers stand at the same place, or both have failed. -/
def Eqv (b : List UInt8) (s : RS) (x : XS) : Prop := s.at' ≤ b.length ∧ s.bad = x.bad ∧ (s.bad = false → x.S = b.drop s.at')

theorem cut_drop (b : List UInt8) (a k n : Nat) : cut (b.drop a) k n = cut b (a + k) n := by unfold cut; rw [List.drop_drop]
theorem getR_drop (b : List UInt8) {a : Nat} (ha : a ≤ b.length) (w : Nat) (hw : 1 ≤ w ∧ w ≤ 8) :
    (getR b a w).1 = (getR (b.drop a) 0 w).1 ∧ (getR b a w).2.2 = (getR (b.drop a) 0 w).2.2 ∧ ((getR b a w).2.2 = 0 → (getR b a w).2.1 = (a : Int) + (getR (b.drop a) 0 w).2.1 ∧ (getR b a w).2.1 = (a : Int) + w ∧ a + w ≤ b.length) := by
  unfold getR
  rw [List.length_drop]
  rw [if_neg (show ¬ ((w : Int) < 1 ∨ 8 < (w : Int) ∨ (a : Int) < 0 ∨ (b.length : Int) < (a : Int)) by omega), if_neg (show ¬ ((w : Int) < 1 ∨ 8 < (w : Int) ∨ (0 : Int) < 0 ∨ ((b.length - a : Nat) : Int) < 0) by omega)]
  by_cases h : (b.length : Int) - (a : Int) < w
  · rw [if_pos h, if_pos (show ((b.length - a : Nat) : Int) - 0 < (w : Int) by omega)]; exact ⟨rfl, rfl, fun h => absurd h (by show ¬ ((3 : Int) = 0); decide)⟩
  · rw [if_neg h, if_neg (show ¬ ((b.length - a : Nat) : Int) - 0 < (w : Int) by omega)]
    rw [List.drop_drop, show a + (0 : Int).toNat = (a : Int).toNat by simp]
    by_cases h9 : 9223372036854775808 ≤ val (List.take (w : Int).toNat (List.drop (a : Int).toNat b))
    · rw [if_pos h9, if_pos h9]; exact ⟨rfl, rfl, fun h => absurd h (by show ¬ ((5 : Int) = 0); decide)⟩
    · rw [if_neg h9, if_neg h9]; exact ⟨rfl, rfl, fun _ => ⟨by show (a : Int) + w = a + (0 + w); omega, rfl, by omega⟩⟩
theorem getR_val (b : List UInt8) (a : Int) (w : Int) : 0 ≤ (getR b a w).1 ∧ (getR b a w).1 < 9223372036854775808 ∧ ((getR b a w).2.2 ≠ 0 → (getR b a w).1 = 0 ∧ (getR b a w).2.1 = 0) := by
  unfold getR
  split
  · simp
  · split
    · simp
    · split
      · simp
      · refine ⟨by simp, ?_, fun h => absurd rfl h⟩
        simp only; omega
theorem rdN_eqv {b : List UInt8} {s : RS} {x : XS} (h : Eqv b s x) (w : Nat) (hw : 1 ≤ w ∧ w ≤ 8) : Eqv b (rdN b s w).2 (qN x w).2 ∧ ((rdN b s w).2.bad = false → s.bad = false ∧ (rdN b s w).1 = (qN x w).1) := by
  obtain ⟨h1, h2, h3⟩ := h
  obtain ⟨g1, g2, g3⟩ := getR_drop b h1 w hw
  unfold rdN qN moveR
  cases hb : s.bad with
  | true =>
    rw [if_pos (show x.bad = true ∨ (getR x.S 0 w).2.2 ≠ 0 from .inl (by rw [← h2]; exact hb))]
    dsimp only
    split
    · rename_i h0
      obtain ⟨e1, e2, e3⟩ := g3 h0
      exact ⟨⟨by dsimp only; omega, rfl, fun h => by cases h⟩, fun h => by cases h⟩
    · exact ⟨⟨h1, rfl, fun h => by cases h⟩, fun h => by cases h⟩
  | false =>
    rw [h3 hb, ← h2, hb]
    by_cases h0 : (getR b s.at' w).2.2 = 0
    · obtain ⟨e1, e2, e3⟩ := g3 h0
      rw [if_pos h0, if_neg (by rw [← g2]; simp [h0])]
      refine ⟨⟨by dsimp only; omega, rfl, fun _ => ?_⟩, fun _ => ⟨rfl, g1⟩⟩
      dsimp only
      rw [List.drop_drop]
      congr 1
      omega
    · rw [if_neg h0, if_pos (.inr (by rw [← g2]; exact h0))]
      exact ⟨⟨h1, rfl, fun h => by cases h⟩, fun h => by cases h⟩
theorem getTextR_drop (b : List UInt8) {a : Nat} (ha : a ≤ b.length) :
    (getTextR b a).1 = (getTextR (b.drop a) 0).1 ∧ (getTextR b a).2.2 = (getTextR (b.drop a) 0).2.2 ∧ ((getTextR b a).2.2 = 0 → (getTextR b a).2.1 = (a : Int) + (getTextR (b.drop a) 0).2.1 ∧ (a : Int) + 2 ≤ (getTextR b a).2.1 ∧ (getTextR b a).2.1 ≤ (b.length : Int)) := by
  obtain ⟨g1, g2, g3⟩ := getR_drop b ha 2 (by omega)
  have hv := getR_val b a 2
  unfold getTextR
  rw [show ((2 : Nat) : Int) = 2 from rfl] at g1 g2 g3
  rw [← g1, ← g2, List.length_drop]
  by_cases h0 : (getR b a 2).2.2 = 0
  · obtain ⟨e1, e2, e3⟩ := g3 h0
    have hz : ¬ ((getR b a 2).2.2 ≠ 0) := by simp [h0]
    rw [if_neg hz, if_neg hz]
    by_cases h1 : (b.length : Int) - ((a : Int) + 2) < (getR b a 2).1
    · rw [if_pos h1, if_pos (show ((b.length - a : Nat) : Int) - (0 + 2) < (getR b a 2).1 by omega)]; exact ⟨rfl, rfl, fun h => absurd h (by show ¬ ((3 : Int) = 0); decide)⟩
    · rw [if_neg h1, if_neg (show ¬ ((b.length - a : Nat) : Int) - (0 + 2) < (getR b a 2).1 by omega)]
      refine ⟨?_, rfl, fun _ => ⟨by dsimp only; omega, by dsimp only; omega, by dsimp only; omega⟩⟩
      dsimp only
      rw [List.drop_drop, show ((0 : Int) + 2).toNat = 2 from rfl, show ((a : Int) + 2).toNat = a + 2 by omega]
  · rw [if_pos h0, if_pos h0]; exact ⟨rfl, rfl, fun h => absurd h h0⟩
theorem rdT_eqv {b : List UInt8} {s : RS} {x : XS} (h : Eqv b s x) : Eqv b (rdT b s).2 (qT x).2 ∧ ((rdT b s).2.bad = false → s.bad = false ∧ (rdT b s).1 = (qT x).1) := by
  obtain ⟨h1, h2, h3⟩ := h
  obtain ⟨g1, g2, g3⟩ := getTextR_drop b h1
  unfold rdT qT moveR
  cases hb : s.bad with
  | true =>
    rw [if_pos (show x.bad = true ∨ (getTextR x.S 0).2.2 ≠ 0 from .inl (by rw [← h2]; exact hb))]
    dsimp only
    split
    · rename_i h0
      obtain ⟨e1, e2, e3⟩ := g3 h0
      exact ⟨⟨by dsimp only; omega, rfl, fun h => by cases h⟩, fun h => by cases h⟩
    · exact ⟨⟨h1, rfl, fun h => by cases h⟩, fun h => by cases h⟩
  | false =>
    rw [h3 hb, ← h2, hb]
    by_cases h0 : (getTextR b s.at').2.2 = 0
    · obtain ⟨e1, e2, e3⟩ := g3 h0
      rw [if_pos h0, if_neg (by rw [← g2]; simp [h0])]
      refine ⟨⟨by dsimp only; omega, rfl, fun _ => ?_⟩, fun _ => ⟨rfl, g1⟩⟩
      dsimp only
      rw [List.drop_drop]
      congr 1
      omega
    · rw [if_neg h0, if_pos (.inr (by rw [← g2]; exact h0))]
      exact ⟨⟨h1, rfl, fun h => by cases h⟩, fun h => by cases h⟩
theorem rdDa_eqv {b old : List UInt8} {s : RS} {x : XS} (h : Eqv b s x) : Eqv b (rdDa b old s).2 (qRaw (qN x 4)).2 ∧ ((rdDa b old s).2.bad = false → s.bad = false ∧ (rdDa b old s).1 = (qRaw (qN x 4)).1) := by
  obtain ⟨hE, hv⟩ := rdN_eqv h 4 (by omega)
  have hp : 0 ≤ (rdN b s 4).1 := (getR_val b s.at' 4).1
  unfold rdDa daR qRaw
  generalize rdN b s 4 = p at *
  generalize qN x 4 = q at *
  obtain ⟨n, t⟩ := p
  obtain ⟨k, y⟩ := q
  obtain ⟨h1, h2, h3⟩ := hE
  dsimp only at *
  cases hb : t.bad with
  | true =>
    rw [if_pos (show y.bad = true ∨ (y.S.length : Int) < k from .inl (by rw [← h2]; exact hb))]
    split
    · exact ⟨⟨h1, rfl, fun h => by cases h⟩, fun h => by cases h⟩
    · exact ⟨⟨by dsimp only; omega, rfl, fun h => by cases h⟩, fun h => by cases h⟩
  | false =>
    obtain ⟨hs, rfl⟩ := hv hb
    rw [h3 hb, ← h2, hb, List.length_drop]
    by_cases h0 : (b.length : Int) - (t.at' : Int) < n
    · rw [if_pos h0, if_pos (show false = true ∨ ((b.length - t.at' : Nat) : Int) < n from .inr (by omega))]
      exact ⟨⟨h1, rfl, fun h => by cases h⟩, fun h => by cases h⟩
    · rw [if_neg h0, if_neg (show ¬ (false = true ∨ ((b.length - t.at' : Nat) : Int) < n) by simp; omega)]
      refine ⟨⟨by dsimp only; omega, rfl, fun _ => ?_⟩, fun _ => ⟨hs, rfl⟩⟩
      dsimp only
      rw [List.drop_drop]
theorem rdNs_eqv {b : List UInt8} (c : Nat) : ∀ (n : Nat) (acc acc' : List (List UInt8)) (s : RS) (x : XS), Eqv b s x → (s.bad = false → acc = acc') → c ≤ acc.length + n → acc'.length ≤ c → acc.length = acc'.length →
    Eqv b (rdNs b c n acc s).2 (qNs (c - acc'.length) acc' x).2 ∧ ((rdNs b c n acc s).2.bad = false → s.bad = false ∧ (rdNs b c n acc s).1 = (qNs (c - acc'.length) acc' x).1) := by
  intro n
  induction n with
  | zero =>
    intro acc acc' s x h ha hc hc' hl
    rw [show c - acc'.length = 0 by omega]
    exact ⟨h, fun hb => ⟨hb, ha hb⟩⟩
  | succ n ih =>
    intro acc acc' s x h ha hc hc' hl
    obtain ⟨e1, e2⟩ := rdT_eqv h
    by_cases hlt : acc.length < c
    · rw [show c - acc'.length = (c - (acc'.length + 1)) + 1 by omega, rdNs, qNs]
      cases hb : s.bad with
      | true => rw [if_neg (by simp), if_neg (by rw [← h.2.1, hb]; simp)]; exact ⟨h, fun h => by rw [hb] at h; cases h⟩
      | false =>
        rw [if_pos ⟨by omega, rfl⟩, if_pos (by rw [← h.2.1]; exact hb)]
        have := ih (acc ++ [(rdT b s).1]) (acc' ++ [(qT x).1]) (rdT b s).2 (qT x).2 e1 (fun h => by rw [ha hb, (e2 h).2]) (by simp; omega) (by simp; omega) (by simp; omega)
        rw [List.length_append] at this
        exact ⟨this.1, fun h => ⟨rfl, (this.2 h).2⟩⟩
    · rw [show c - acc'.length = 0 by omega, rdNs, qNs, if_neg (by omega)]
      exact ⟨h, fun hb => ⟨hb, ha hb⟩⟩
theorem rdNames_eqv {b : List UInt8} {s : RS} {x : XS} (h : Eqv b s x) : Eqv b (rdNames b s).2 (qNames x).2 ∧ ((rdNames b s).2.bad = false → s.bad = false ∧ (rdNames b s).1 = (qNames x).1) := by
  obtain ⟨hE, hv⟩ := rdN_eqv h 2 (by omega)
  have hp : 0 ≤ (rdN b s 2).1 := (getR_val b s.at' 2).1
  unfold rdNames qNames
  generalize rdN b s 2 = p at *
  generalize qN x 2 = q at *
  obtain ⟨n, t⟩ := p
  obtain ⟨k, y⟩ := q
  dsimp only at *
  obtain ⟨c, rfl⟩ := Int.eq_ofNat_of_zero_le hp
  cases hb : t.bad with
  | true =>
    have a1 : ∀ j acc, rdNs b (c : Int) j acc t = (acc, t) := fun j acc => by cases j <;> simp [rdNs, hb]
    have a2 : ∀ j acc, qNs j acc y = (acc, y) := fun j acc => by cases j <;> simp [qNs, ← hE.2.1, hb]
    rw [a1, a2]
    exact ⟨hE, fun h => by rw [hb] at h; cases h⟩
  | false =>
    obtain ⟨hs, rfl⟩ := hv hb
    have := rdNs_eqv c ((c : Int).toNat + 1) [] [] t y hE (fun _ => rfl) (by simp) (by simp) rfl
    exact ⟨this.1, fun h => ⟨hs, (this.2 h).2⟩⟩
theorem rdQ_eqv {b : List UInt8} {s : RS} {x : XS} (h : Eqv b s x) : Eqv b (rdQ b s).2 (qQ x).2 ∧ ((rdQ b s).2.bad = false → s.bad = false ∧ (rdQ b s).1 = (qQ x).1) := by
  obtain ⟨e1, v1⟩ := rdN_eqv h 1 (by omega)
  obtain ⟨e2, v2⟩ := rdN_eqv e1 4 (by omega)
  obtain ⟨e3, v3⟩ := rdN_eqv e2 8 (by omega)
  refine ⟨e3, fun hb => ?_⟩
  obtain ⟨b3, w3⟩ := v3 hb
  obtain ⟨b2, w2⟩ := v2 b3
  obtain ⟨b1, w1⟩ := v1 b2
  refine ⟨b1, ?_⟩
  unfold rdQ qQ
  rw [w3, w2, w1]
theorem rdQs_eqv {b : List UInt8} (c : Nat) : ∀ (n : Nat) (acc acc' : List QQ) (s : RS) (x : XS), Eqv b s x → (s.bad = false → acc = acc') → c ≤ acc.length + n → acc'.length ≤ c → acc.length = acc'.length →
    Eqv b (rdQs b c n acc s).2 (qQs (c - acc'.length) acc' x).2 ∧ ((rdQs b c n acc s).2.bad = false → s.bad = false ∧ (rdQs b c n acc s).1 = (qQs (c - acc'.length) acc' x).1) := by
  intro n
  induction n with
  | zero =>
    intro acc acc' s x h ha hc hc' hl
    rw [show c - acc'.length = 0 by omega]
    exact ⟨h, fun hb => ⟨hb, ha hb⟩⟩
  | succ n ih =>
    intro acc acc' s x h ha hc hc' hl
    obtain ⟨e1, e2⟩ := rdQ_eqv h
    by_cases hlt : acc.length < c
    · rw [show c - acc'.length = (c - (acc'.length + 1)) + 1 by omega, rdQs, qQs]
      cases hb : s.bad with
      | true => rw [if_neg (by simp), if_neg (by rw [← h.2.1, hb]; simp)]; exact ⟨h, fun h => by rw [hb] at h; cases h⟩
      | false =>
        rw [if_pos ⟨by omega, rfl⟩, if_pos (by rw [← h.2.1]; exact hb)]
        have := ih (acc ++ [(rdQ b s).1]) (acc' ++ [(qQ x).1]) (rdQ b s).2 (qQ x).2 e1 (fun h => by rw [ha hb, (e2 h).2]) (by simp; omega) (by simp; omega) (by simp; omega)
        rw [List.length_append] at this
        exact ⟨this.1, fun h => ⟨rfl, (this.2 h).2⟩⟩
    · rw [show c - acc'.length = 0 by omega, rdQs, qQs, if_neg (by omega)]
      exact ⟨h, fun hb => ⟨hb, ha hb⟩⟩
theorem rdQids_eqv {b : List UInt8} {s : RS} {x : XS} (h : Eqv b s x) : Eqv b (rdQids b s).2 (qQids x).2 ∧ ((rdQids b s).2.bad = false → s.bad = false ∧ (rdQids b s).1 = (qQids x).1) := by
  obtain ⟨hE, hv⟩ := rdN_eqv h 2 (by omega)
  have hp : 0 ≤ (rdN b s 2).1 := (getR_val b s.at' 2).1
  unfold rdQids qQids
  generalize rdN b s 2 = p at *
  generalize qN x 2 = q at *
  obtain ⟨n, t⟩ := p
  obtain ⟨k, y⟩ := q
  dsimp only at *
  obtain ⟨c, rfl⟩ := Int.eq_ofNat_of_zero_le hp
  cases hb : t.bad with
  | true =>
    have a1 : ∀ j acc, rdQs b (c : Int) j acc t = (acc, t) := fun j acc => by cases j <;> simp [rdQs, hb]
    have a2 : ∀ j acc, qQs j acc y = (acc, y) := fun j acc => by cases j <;> simp [qQs, ← hE.2.1, hb]
    rw [a1, a2]
    exact ⟨hE, fun h => by rw [hb] at h; cases h⟩
  | false =>
    obtain ⟨hs, rfl⟩ := hv hb
    have := rdQs_eqv c ((c : Int).toNat + 1) [] [] t y hE (fun _ => rfl) (by simp) (by simp) rfl
    exact ⟨this.1, fun h => ⟨hs, (this.2 h).2⟩⟩
theorem rdE_eqv {b : List UInt8} {s : RS} {x : XS} (h : Eqv b s x) : Eqv b (rdE b s).2 (qE x).2 ∧ ((rdE b s).2.bad = false → s.bad = false ∧ (rdE b s).1 = (qE x).1) := by
  obtain ⟨⟨h1, h2, h3⟩, hv⟩ := rdT_eqv h
  unfold rdE qE
  generalize rdT b s = p at *
  generalize qT x = q at *
  obtain ⟨n, t⟩ := p
  obtain ⟨k, y⟩ := q
  dsimp only at *
  unfold orBad
  cases hb : t.bad with
  | true =>
    rw [← h2, hb, Bool.true_or]
    split
    · exact ⟨⟨h1, hb, fun h => by rw [hb] at h; cases h⟩, fun h => by rw [hb] at h; cases h⟩
    · exact ⟨⟨h1, rfl, fun h => by cases h⟩, fun h => by cases h⟩
  | false =>
    obtain ⟨hs, rfl⟩ := hv hb
    rw [← h2, hb, Bool.false_or]
    cases hf : (Ft.findL n).2 with
    | true => exact ⟨⟨h1, hb, fun _ => h3 hb⟩, fun _ => ⟨hs, rfl⟩⟩
    | false => exact ⟨⟨h1, rfl, fun h => by cases h⟩, fun h => by cases h⟩
theorem cut_cut (b : List UInt8) (a n i k : Nat) (h : i + k ≤ n) : cut (cut b a n) i k = cut b (a + i) k := by
  unfold cut
  rw [List.drop_take, List.take_take, List.drop_drop, Nat.min_eq_left (by omega)]
theorem cut_cut0 (b : List UInt8) (a n k : Nat) (h : k ≤ n) : cut (cut b a n) 0 k = cut b a k := by
  have := cut_cut b a n 0 k (by omega)
  rwa [Nat.add_zero] at this
theorem cut_size (b : List UInt8) (a n : Nat) (h : a + n ≤ b.length) : (cut b a n).length = n := by
  unfold cut; rw [List.length_take, List.length_drop]; omega
/-- A text within n bytes. -/
theorem textAt_cut {b : List UInt8} {a n : Nat} (h : a + n ≤ b.length) :
    (∀ t c, textAt (cut b a n) 0 = some (t, c) → textAt b a = some (t, a + c) ∧ c ≤ n) ∧ (∀ t c, textAt b a = some (t, c) → c ≤ a + n → textAt (cut b a n) 0 = some (t, c - a)) := by
  have hl := cut_size b a n h
  constructor
  · intro t c hc
    unfold textAt at hc ⊢
    rw [hl] at hc
    split at hc
    · cases hc
    · split at hc
      · cases hc
      · rename_i h1 h2
        rw [cut_cut0 b a n 2 (by omega)] at h2 hc
        rw [cut_cut b a n _ _ (by omega)] at hc
        simp only [Option.some.injEq, Prod.mk.injEq] at hc
        obtain ⟨rfl, rfl⟩ := hc
        rw [if_neg (by omega), if_neg (by omega)]
        refine ⟨?_, by omega⟩
        rw [show a + (0 + 2) = a + 2 by omega, show a + (0 + 2 + val (cut b a 2)) = a + 2 + val (cut b a 2) by omega]
  · intro t c hc hcn
    unfold textAt at hc ⊢
    rw [hl]
    split at hc
    · cases hc
    · split at hc
      · cases hc
      · rename_i h1 h2
        simp only [Option.some.injEq, Prod.mk.injEq] at hc
        obtain ⟨rfl, rfl⟩ := hc
        rw [if_neg (by omega), cut_cut0 b a n 2 (by omega), if_neg (by omega), cut_cut b a n _ _ (by omega)]
        rw [show a + (0 + 2) = a + 2 by omega, show a + 2 + val (cut b a 2) - a = 0 + 2 + val (cut b a 2) by omega]
/-- What Get of a description comes to behind its text. -/
def afterT (f : List UInt8 → Int) (t : List UInt8) (c : Int) : DD × Int × Int :=
  if (decX f t).2 = false then (noD, 0, 2) else if checkR (decX f t).1 ≠ 0 then (noD, 0, checkR (decX f t).1) else ((decX f t).1, c, 0)
theorem getS_some {f : List UInt8 → Int} {l t : List UInt8} {a c : Nat} (h : textAt l a = some (t, c)) : getS f l (a : Int) = afterT f t (c : Int) := by
  unfold getS afterT; rw [getTextR_some h, if_neg (by simp)]
theorem getS_none {f : List UInt8 → Int} {l : List UInt8} {a : Nat} (ha : a ≤ l.length) (h : textAt l a = none) : getS f l (a : Int) = (noD, 0, 3) := by
  unfold getS; rw [getTextR_none ha h, if_pos (by decide)]
theorem afterT_cases (f : List UInt8 → Int) (t : List UInt8) : (∃ e, e ≠ 0 ∧ ∀ c, afterT f t c = (noD, 0, e)) ∨ ∃ d, checkR d = 0 ∧ decX f t = (d, true) ∧ ∀ c, afterT f t c = (d, c, 0) := by
  unfold afterT
  rcases hx : decX f t with ⟨d, ok⟩
  cases ok with
  | false => exact .inl ⟨2, by decide, fun c => by simp⟩
  | true =>
    by_cases h : checkR d = 0
    · exact .inr ⟨d, h, rfl, fun c => by simp [h]⟩
    · exact .inl ⟨checkR d, h, fun c => by simp [h]⟩
theorem moveR_le {b : List UInt8} {s : RS} (h : s.at' ≤ b.length) {next e : Int} (h1 : e = 0 → next ≤ b.length) : (moveR s next e).at' ≤ b.length := by
  unfold moveR; split
  · rename_i h0; have := h1 h0; dsimp only; omega
  · exact h
theorem orBad_at (s : RS) (c : Bool) : (orBad s c).at' = s.at' := by unfold orBad; split <;> rfl
theorem orBad_bad {s : RS} {c : Bool} : (orBad s c).bad = false ↔ s.bad = false ∧ c = true := by
  unfold orBad; cases c <;> simp
theorem getS_le {f : List UInt8 → Int} {b : List UInt8} {a : Nat} (ha : a ≤ b.length) : (getS f b a).2.1 ≤ b.length := by
  rcases h : textAt b a with _ | ⟨t, c⟩
  · rw [getS_none ha h]; simp
  · rw [getS_some h]
    have := (textAt_le h).2.1
    rcases afterT_cases f t with ⟨e, he, h2⟩ | ⟨d, _, _, h2⟩ <;> rw [h2] <;> simp <;> omega
theorem rdD_eqv {b : List UInt8} {s : RS} {x : XS} (h : Eqv b s x) : Eqv b (rdD b s).2 (qD x).2 ∧ ((rdD b s).2.bad = false → s.bad = false ∧ (rdD b s).1 = (qD x).1) := by
  obtain ⟨hE, hv⟩ := rdN_eqv h 2 (by omega)
  have hp : 0 ≤ (rdN b s 2).1 := (getR_val b s.at' 2).1
  unfold rdD dirR qD
  generalize rdN b s 2 = p at *
  generalize qN x 2 = q at *
  obtain ⟨n, t⟩ := p
  obtain ⟨k, y⟩ := q
  obtain ⟨h1, h2, h3⟩ := hE
  dsimp only at *
  have hle : ∀ c, (orBad (moveR t (getS numP b t.at').2.1 (getS numP b t.at').2.2) c).at' ≤ b.length := fun c => by
    rw [orBad_at]; exact moveR_le h1 (fun _ => getS_le h1)
  unfold qRaw
  dsimp only
  cases hb : t.bad with
  | true =>
    rw [if_pos (show y.bad = true ∨ (y.S.length : Int) < k from .inl (by rw [← h2]; exact hb))]
    have hbad : ∀ n e c, (orBad (moveR t n e) c).bad = true := fun n e c => by unfold orBad moveR; split <;> split <;> first | rfl | exact hb
    exact ⟨⟨hle _, by rw [hbad]; rfl, fun h => by rw [hbad] at h; cases h⟩, fun h => by rw [hbad] at h; cases h⟩
  | false =>
    obtain ⟨hs, rfl⟩ := hv hb
    obtain ⟨m, rfl⟩ := Int.eq_ofNat_of_zero_le hp
    rw [h3 hb, ← h2, hb, List.length_drop]
    by_cases h0 : (b.length : Int) - (t.at' : Int) < m
    · rw [if_pos (show false = true ∨ ((b.length - t.at' : Nat) : Int) < m from .inr (by omega))]
      have hbad : (orBad (moveR t (getS numP b t.at').2.1 (getS numP b t.at').2.2) (decide ((getS numP b t.at').2.1 = (t.at' : Int) + m))).bad = true := by
        have := getS_le (f := numP) h1
        rw [decide_eq_false (by omega)]; rfl
      exact ⟨⟨hle _, by rw [hbad]; rfl, fun h => by rw [hbad] at h; cases h⟩, fun h => by rw [hbad] at h; cases h⟩
    · rw [if_neg (show ¬ (false = true ∨ ((b.length - t.at' : Nat) : Int) < m) by simp; omega)]
      dsimp only
      have hm : t.at' + m ≤ b.length := by omega
      obtain ⟨c1, c2⟩ := textAt_cut hm
      have hcl := cut_size b t.at' m hm
      rw [Int.toNat_natCast, show List.take m (List.drop t.at' b) = cut b t.at' m from rfl]
      have good : ∀ d, getS numP b t.at' = (d, ((t.at' + m : Nat) : Int), 0) → getS numP (cut b t.at' m) 0 = (d, (m : Int), 0) → Eqv b (orBad (moveR t (getS numP b t.at').2.1 (getS numP b t.at').2.2) (decide ((getS numP b t.at').2.1 = (t.at' : Int) + m))) ⟨List.drop m (List.drop t.at' b), false || (decide ((getS numP (cut b t.at' m) 0).2.2 ≠ 0) || decide ((getS numP (cut b t.at' m) 0).2.1 ≠ (m : Int)))⟩ ∧ ((orBad (moveR t (getS numP b t.at').2.1 (getS numP b t.at').2.2) (decide ((getS numP b t.at').2.1 = (t.at' : Int) + m))).bad = false → s.bad = false ∧ (getS numP b t.at').1 = (getS numP (cut b t.at' m) 0).1) := by
        intro d e1 e2
        rw [e1, e2]
        unfold moveR orBad
        rw [if_pos rfl, if_pos (by simp)]
        refine ⟨⟨by dsimp only; omega, by simp [hb], fun _ => ?_⟩, fun _ => ⟨hs, rfl⟩⟩
        dsimp only
        rw [List.drop_drop, Int.toNat_natCast]
      have poor : (getS numP b t.at').2.2 ≠ 0 ∨ (getS numP b t.at').2.1 ≠ (t.at' : Int) + m → (getS numP (cut b t.at' m) 0).2.2 ≠ 0 ∨ (getS numP (cut b t.at' m) 0).2.1 ≠ (m : Int) → Eqv b (orBad (moveR t (getS numP b t.at').2.1 (getS numP b t.at').2.2) (decide ((getS numP b t.at').2.1 = (t.at' : Int) + m))) ⟨List.drop m (List.drop t.at' b), false || (decide ((getS numP (cut b t.at' m) 0).2.2 ≠ 0) || decide ((getS numP (cut b t.at' m) 0).2.1 ≠ (m : Int)))⟩ ∧ ((orBad (moveR t (getS numP b t.at').2.1 (getS numP b t.at').2.2) (decide ((getS numP b t.at').2.1 = (t.at' : Int) + m))).bad = false → s.bad = false ∧ (getS numP b t.at').1 = (getS numP (cut b t.at' m) 0).1) := by
        intro e1 e2
        have hbad : (orBad (moveR t (getS numP b t.at').2.1 (getS numP b t.at').2.2) (decide ((getS numP b t.at').2.1 = (t.at' : Int) + m))).bad = true := by
          rcases e1 with e1 | e1
          · unfold moveR; rw [if_neg e1]; unfold orBad; split <;> rfl
          · rw [decide_eq_false e1]; rfl
        have hx : (false || (decide ((getS numP (cut b t.at' m) 0).2.2 ≠ 0) || decide ((getS numP (cut b t.at' m) 0).2.1 ≠ (m : Int)))) = true := by
          rcases e2 with e2 | e2 <;> simp [e2]
        rw [hbad, hx]
        exact ⟨⟨hle _, hbad, fun h => by rw [hbad] at h; cases h⟩, fun h => by cases h⟩
      rcases hT : textAt b t.at' with _ | ⟨tx, c⟩
      · have hU : textAt (cut b t.at' m) 0 = none := by
          rcases hU : textAt (cut b t.at' m) 0 with _ | ⟨u, c⟩
          · rfl
          · rw [(c1 u c hU).1] at hT; cases hT
        exact poor (.inl (by rw [getS_none h1 hT]; show (3 : Int) ≠ 0; decide)) (.inl (by rw [show (0 : Int) = ((0 : Nat) : Int) from rfl, getS_none (Nat.zero_le _) hU]; show (3 : Int) ≠ 0; decide))
      · have gT := getS_some (f := numP) hT
        by_cases hc : c ≤ t.at' + m
        · have hU := c2 tx c hT hc
          have gU := getS_some (f := numP) hU
          rw [show ((0 : Nat) : Int) = 0 from rfl] at gU
          have hta := (textAt_le hT).1
          rcases afterT_cases numP tx with ⟨e, he, h2⟩ | ⟨d, _, _, h2⟩
          · rw [h2] at gT gU
            exact poor (.inl (by rw [gT]; exact he)) (.inl (by rw [gU]; exact he))
          · rw [h2] at gT gU
            by_cases hcm : c = t.at' + m
            · subst hcm
              exact good d gT (by rw [gU]; congr 2; omega)
            · exact poor (.inr (by rw [gT]; show (c : Int) ≠ _; omega)) (.inr (by rw [gU]; show ((c - t.at' : Nat) : Int) ≠ _; omega))
        · have hU : textAt (cut b t.at' m) 0 = none := by
            rcases hU : textAt (cut b t.at' m) 0 with _ | ⟨u, c'⟩
            · rfl
            · obtain ⟨e1, e2⟩ := c1 u c' hU
              rw [e1] at hT
              simp only [Option.some.injEq, Prod.mk.injEq] at hT
              omega
          refine poor ?_ (.inl (by rw [show (0 : Int) = ((0 : Nat) : Int) from rfl, getS_none (Nat.zero_le _) hU]; show (3 : Int) ≠ 0; decide))
          rcases afterT_cases numP tx with ⟨e, he, h2⟩ | ⟨d, _, _, h2⟩
          · rw [h2] at gT; exact .inl (by rw [gT]; exact he)
          · rw [h2] at gT; exact .inr (by rw [gT]; show (c : Int) ≠ _; omega)
end Go.Proofs.YtlfdmbfbfadifaaGreatDoor

namespace Go.Proofs.YtlfdmbfbfadifaaGreatDoor
open Go.RowKit

theorem rdF_eqv {b : List UInt8} {m m' : MM} {s : RS} {x : XS} (h : Eqv b s x) (hm : s.bad = false → m = m') {f : Nat} (hf : f < 23) :
    Eqv b (rdF b m s f).2 (qF m' x f).2 ∧ ((rdF b m s f).2.bad = false → s.bad = false ∧ (rdF b m s f).1 = (qF m' x f).1) := by
  have n1 := rdN_eqv h 1 (by omega)
  have n2 := rdN_eqv h 2 (by omega)
  have n4 := rdN_eqv h 4 (by omega)
  have n8 := rdN_eqv h 8 (by omega)
  have t := rdT_eqv h
  rcases k23 hf with rfl | rfl | rfl | rfl | rfl | rfl | rfl | rfl | rfl | rfl | rfl | rfl | rfl | rfl | rfl | rfl | rfl | rfl | rfl | rfl | rfl | rfl | rfl
  case inr.inr.inr.inr.inr.inr.inr.inr.inl => exact ⟨(rdNames_eqv h).1, fun hb => ⟨((rdNames_eqv h).2 hb).1, by simp only [rdF, qF, hm ((rdNames_eqv h).2 hb).1, ((rdNames_eqv h).2 hb).2]⟩⟩
  case inr.inr.inr.inr.inr.inr.inr.inr.inr.inl => exact ⟨(rdQids_eqv h).1, fun hb => ⟨((rdQids_eqv h).2 hb).1, by simp only [rdF, qF, hm ((rdQids_eqv h).2 hb).1, ((rdQids_eqv h).2 hb).2]⟩⟩
  case inr.inr.inr.inr.inr.inr.inr.inr.inr.inr.inl => exact ⟨(rdQ_eqv h).1, fun hb => ⟨((rdQ_eqv h).2 hb).1, by simp only [rdF, qF, hm ((rdQ_eqv h).2 hb).1, ((rdQ_eqv h).2 hb).2]⟩⟩
  case inr.inr.inr.inr.inr.inr.inr.inr.inr.inr.inr.inr.inr.inr.inr.inr.inr.inl => exact ⟨(rdDa_eqv h).1, fun hb => ⟨((rdDa_eqv h).2 hb).1, by have e := ((rdDa_eqv h).2 hb).2; have em := hm ((rdDa_eqv h).2 hb).1; rw [show m.da = m'.da by rw [em]] at e; simp only [rdF, qF, em, e]⟩⟩
  case inr.inr.inr.inr.inr.inr.inr.inr.inr.inr.inr.inr.inr.inr.inr.inr.inr.inr.inl => exact ⟨(rdD_eqv h).1, fun hb => ⟨((rdD_eqv h).2 hb).1, by simp only [rdF, qF, hm ((rdD_eqv h).2 hb).1, ((rdD_eqv h).2 hb).2]⟩⟩
  case inr.inr.inr.inr.inr.inr.inr.inr.inr.inr.inr.inr.inr.inr.inr.inr.inr.inr.inr.inl => exact ⟨(rdE_eqv h).1, fun hb => ⟨((rdE_eqv h).2 hb).1, by simp only [rdF, qF, hm ((rdE_eqv h).2 hb).1, ((rdE_eqv h).2 hb).2]⟩⟩
  all_goals first
    | exact ⟨n4.1, fun hb => ⟨(n4.2 hb).1, by simp only [rdF, qF, hm (n4.2 hb).1, (n4.2 hb).2]⟩⟩
    | exact ⟨t.1, fun hb => ⟨(t.2 hb).1, by simp only [rdF, qF, hm (t.2 hb).1, (t.2 hb).2]⟩⟩
    | exact ⟨n1.1, fun hb => ⟨(n1.2 hb).1, by simp only [rdF, qF, hm (n1.2 hb).1, (n1.2 hb).2]⟩⟩
    | exact ⟨n2.1, fun hb => ⟨(n2.2 hb).1, by simp only [rdF, qF, hm (n2.2 hb).1, (n2.2 hb).2]⟩⟩
    | exact ⟨n8.1, fun hb => ⟨(n8.2 hb).1, by simp only [rdF, qF, hm (n8.2 hb).1, (n8.2 hb).2]⟩⟩

theorem head_eqv (b : List UInt8) : Eqv b (headR b).2 (headX b).2 ∧ ((headR b).2.bad = false → (headR b).1 = (headX b).1) := by
  have h0 : Eqv b ⟨0, false⟩ ⟨b, false⟩ := ⟨Nat.zero_le _, rfl, fun _ => rfl⟩
  obtain ⟨e1, v1⟩ := rdN_eqv h0 1 (by omega)
  obtain ⟨e2, v2⟩ := rdN_eqv e1 2 (by omega)
  refine ⟨e2, fun hb => ?_⟩
  obtain ⟨b1, w2⟩ := v2 hb
  obtain ⟨_, w1⟩ := v1 b1
  unfold headR headX
  rw [w1, w2]
/-- The head of bytes that are long enough. -/
theorem getR_ok (b : List UInt8) (a w : Nat) (hw : 1 ≤ w ∧ w ≤ 7) (h : a + w ≤ b.length) : getR b a w = (((val (cut b a w) : Nat) : Int), (a : Int) + w, 0) := by
  have hv := val_lt (cut b a w)
  rw [cut_size b a w h] at hv
  have h2 : 256 ^ w ≤ 256 ^ 7 := Nat.pow_le_pow_right (by omega) hw.2
  have h3 : (256 : Nat) ^ 7 < 9223372036854775808 := by decide
  unfold getR
  rw [if_neg (show ¬ ((w : Int) < 1 ∨ 8 < (w : Int) ∨ (a : Int) < 0 ∨ (b.length : Int) < (a : Int)) by omega), if_neg (show ¬ (b.length : Int) - (a : Int) < (w : Int) by omega), if_neg]
  · rfl
  · show ¬ 9223372036854775808 ≤ val (cut b a w); omega
theorem rdN_ok (b : List UInt8) (a w : Nat) (bad : Bool) (hw : 1 ≤ w ∧ w ≤ 7) (h : a + w ≤ b.length) : rdN b ⟨a, bad⟩ w = (((val (cut b a w) : Nat) : Int), ⟨a + w, bad⟩) := by
  unfold rdN moveR
  rw [getR_ok b a w hw h]
  rfl
theorem headR_ok {b : List UInt8} (h : 3 ≤ b.length) : headR b = ({ noM with kd := ((val (cut b 0 1) : Nat) : Int), tg := ((val (cut b 1 2) : Nat) : Int) }, ⟨3, false⟩) := by
  unfold headR
  have e1 : rdN b ⟨0, false⟩ 1 = (((val (cut b 0 1) : Nat) : Int), ⟨1, false⟩) := rdN_ok b 0 1 false (by omega) (by omega)
  have e2 : rdN b ⟨1, false⟩ 2 = (((val (cut b 1 2) : Nat) : Int), ⟨3, false⟩) := rdN_ok b 1 2 false (by omega) (by omega)
  rw [e1]
  dsimp only
  rw [e2]
theorem headX_eq {b : List UInt8} (h : 3 ≤ b.length) : (headX b).1 = (headR b).1 := ((head_eqv b).2 (by rw [headR_ok h])).symm
theorem fld_lt (k : Int) (j : Nat) : (fieldsL k).getD j 0 < 23 := by
  by_cases hk : kindB k = true
  · by_cases hj : j < (fieldsL k).length
    · exact fieldsL_lt hk hj
    · rw [List.getD_eq_getElem?_getD, List.getElem?_eq_none (by omega)]; decide
  · have : fieldsL k = [] := by
      unfold fieldsL fieldsN
      split <;> first | rfl | (exfalso; apply hk; unfold kindB; simp; omega)
    rw [this]; simp
theorem rdTo_eqv {b : List UInt8} (h : 3 ≤ b.length) : ∀ k, Eqv b (rdTo b k).2 (qTo b k).2 ∧ ((rdTo b k).2.bad = false → (rdTo b k).1 = (qTo b k).1) := by
  intro k
  induction k with
  | zero => exact head_eqv b
  | succ k ih =>
    rw [rdTo, qTo, headX_eq h]
    obtain ⟨e, v⟩ := rdF_eqv ih.1 (fun hb => ih.2 hb) (fld_lt (headR b).1.kd k)
    exact ⟨e, fun hb => (v hb).2⟩
theorem all_eqv {b : List UInt8} (h : 3 ≤ b.length) : okX b = okR b ∧ (okR b = true → (qAll b).1 = (rdAll b).1) := by
  have hl := rdTo_eqv h (fieldsL (headR b).1.kd).length
  unfold okX okR qAll rdAll
  rw [headX_eq h]
  generalize rdTo b (fieldsL (headR b).1.kd).length = p at *
  generalize qTo b (fieldsL (headR b).1.kd).length = q at *
  obtain ⟨⟨h1, h2, h3⟩, h4⟩ := hl
  rw [← h2]
  cases hb : p.2.bad with
  | true => exact ⟨by simp, fun h => by simp at h⟩
  | false =>
    rw [h3 hb]
    refine ⟨?_, fun _ => (h4 hb).symm⟩
    congr 2
    rw [Bool.eq_iff_iff]
    simp only [decide_eq_true_eq, List.drop_eq_nil_iff]
    omega
end Go.Proofs.YtlfdmbfbfadifaaGreatDoor
