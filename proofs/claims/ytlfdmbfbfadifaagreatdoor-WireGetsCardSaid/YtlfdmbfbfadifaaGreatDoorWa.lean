/-
  Messages as numbers, texts and lists: plain functions and lemmas. No walk in this text.
-/
import Derived.Test.YtlfdmbfbfadifaaGreatDoorSa
namespace Go.Proofs.YtlfdmbfbfadifaaGreatDoor
open Go.RowKit

structure QQ where
  t : Int
  v : Int
  p : Int
/-- A message; nv and qv are the slices that hold the lists nl and ql. -/
structure MM where
  kd : Int
  tg : Int
  fi : Int
  nf : Int
  af : Int
  ot : Int
  ms : Int
  ve : List UInt8
  us : List UInt8
  ac : List UInt8
  nv : Value
  qv : Value
  qd : QQ
  io : Int
  mo : Int
  pe : Int
  na : List UInt8
  os : Int
  co : Int
  da : List UInt8
  st : DD
  er : Int
  lz : Int
  te : Int
  se : List UInt8
  nl : List (List UInt8)
  ql : List QQ

/-! ### Kinds -/
def kindB (k : Int) : Bool := decide (100 ≤ k ∧ k ≤ 131 ∧ k ≠ 106)
def reqB (k : Int) : Bool := kindB k && decide (k % 2 = 0)
def repI (k : Int) : Int := if reqB k then k + 1 else 0
/-- The names of the subjects, two kinds each. -/
def subjN : Nat → List UInt8
  | 0 => [86, 101, 114, 115, 105, 111, 110]
  | 1 => [65, 117, 116, 104]
  | 2 => [65, 116, 116, 97, 99, 104]
  | 3 => [69, 114, 114, 111, 114]
  | 4 => [70, 108, 117, 115, 104]
  | 5 => [87, 97, 108, 107]
  | 6 => [79, 112, 101, 110]
  | 7 => [67, 114, 101, 97, 116, 101]
  | 8 => [82, 101, 97, 100]
  | 9 => [87, 114, 105, 116, 101]
  | 10 => [67, 108, 117, 110, 107]
  | 11 => [82, 101, 109, 111, 118, 101]
  | 12 => [83, 116, 97, 116]
  | 13 => [87, 115, 116, 97, 116]
  | 14 => [76, 101, 97, 115, 101]
  | 15 => [82, 101, 115, 117, 109, 101]
  | _ => []
def nameK (k : Int) : List UInt8 := if kindB k then (if k % 2 = 0 then 84 else 82) :: subjN ((k - 100) / 2).toNat else []
theorem kinds {k : Int} (h : kindB k = true) : k = 100 ∨ k = 101 ∨ k = 102 ∨ k = 103 ∨ k = 104 ∨ k = 105 ∨ k = 107 ∨ k = 108 ∨ k = 109 ∨ k = 110 ∨ k = 111 ∨ k = 112 ∨ k = 113 ∨ k = 114 ∨ k = 115 ∨ k = 116 ∨ k = 117 ∨ k = 118 ∨ k = 119 ∨ k = 120 ∨ k = 121 ∨ k = 122 ∨ k = 123 ∨ k = 124 ∨ k = 125 ∨ k = 126 ∨ k = 127 ∨ k = 128 ∨ k = 129 ∨ k = 130 ∨ k = 131 := by
  unfold kindB at h
  simp only [decide_eq_true_eq] at h
  omega
theorem nameK_nil {k : Int} : nameK k = [] ↔ kindB k = false := by
  unfold nameK
  cases kindB k <;> simp
theorem subj_inj {i j : Nat} (hi : i < 16) (hj : j < 16) (h : subjN i = subjN j) : i = j := by
  have key : ∀ i : Fin 16, ∀ j : Fin 16, subjN i.1 = subjN j.1 → i = j := by decide
  have := key ⟨i, hi⟩ ⟨j, hj⟩ h
  simpa using this
theorem nameK_inj {a b : Int} (ha : kindB a = true) (h : nameK a = nameK b) : a = b := by
  have hb : kindB b = true := by
    cases hb : kindB b with
    | true => rfl
    | false => rw [nameK_nil.2 hb, nameK_nil, ha] at h; cases h
  unfold nameK at h
  rw [if_pos ha, if_pos hb, List.cons.injEq] at h
  obtain ⟨h1, h2⟩ := h
  unfold kindB at ha hb
  simp only [decide_eq_true_eq] at ha hb
  have e := subj_inj (by omega) (by omega) h2
  have p : a % 2 = b % 2 := by
    rcases Int.emod_two_eq a with x | x <;> rcases Int.emod_two_eq b with y | y <;> rw [x, y] at h1 ⊢ <;> simp at h1
  omega
theorem reqB_kind {k : Int} (h : reqB k = true) : kindB k = true := by
  unfold reqB at h; simp only [Bool.and_eq_true] at h; exact h.1
theorem reqB_no {k : Int} (h : kindB k = false) : reqB k = false := by unfold reqB; rw [h]; rfl
theorem repI_no {k : Int} (h : reqB k = false) : repI k = 0 := by unfold repI; rw [h]; rfl
theorem repI_yes {k : Int} (h : reqB k = true) : repI k = k + 1 := by unfold repI; rw [h]; rfl
theorem reqB_next {k : Int} (h : reqB k = true) : kindB (k + 1) = true ∧ reqB (k + 1) = false := by
  unfold reqB kindB at *
  simp only [Bool.and_eq_true, decide_eq_true_eq] at h
  constructor
  · simp only [decide_eq_true_eq]; omega
  · rw [Bool.and_eq_false_iff]; right; simp; omega

/-! ### Fields -/
def fieldsN : Nat → List Nat
  | 100 => [4, 5]
  | 101 => [4, 5, 22]
  | 102 => [2, 6, 7]
  | 103 => [10]
  | 104 => [0, 2, 6, 7]
  | 105 => [10]
  | 107 => [19]
  | 108 => [3]
  | 110 => [0, 1, 8]
  | 111 => [9]
  | 112 => [0, 12]
  | 113 => [10, 11]
  | 114 => [0, 14, 13, 12]
  | 115 => [10, 11]
  | 116 => [0, 15, 16]
  | 117 => [17]
  | 118 => [0, 15, 17]
  | 119 => [16]
  | 120 => [0]
  | 122 => [0]
  | 124 => [0]
  | 125 => [18]
  | 126 => [0, 18]
  | 128 => [0, 20, 21]
  | 129 => [10, 20, 21]
  | 130 => [22]
  | _ => []
def fieldsL (k : Int) : List Nat := fieldsN k.toNat
/-- The letters of the fields. -/
def letB : List UInt8 := [102, 110, 97, 111, 122, 118, 117, 116, 78, 81, 113, 105, 109, 112, 101, 79, 99, 100, 115, 69, 108, 84, 83]
def letN (f : Nat) : UInt8 := letB.getD f 83
theorem fieldsL_le {k : Int} (h : kindB k = true) : (fieldsL k).length ≤ 4 ∧ ∀ f ∈ fieldsL k, f < 23 := by
  rcases kinds h with rfl | rfl | rfl | rfl | rfl | rfl | rfl | rfl | rfl | rfl | rfl | rfl | rfl | rfl | rfl | rfl | rfl | rfl | rfl | rfl | rfl | rfl | rfl | rfl | rfl | rfl | rfl | rfl | rfl | rfl | rfl <;> decide

/-! ### Values -/
def numI (n : Int) (g : Nat) : Int := if 0 ≤ n ∧ n ≤ (g : Int) then 0 else 5
def txtI (l : List UInt8) (g : Nat) : Int := if l.length ≤ g then 0 else 4
def typB (t : Int) : Bool := decide (0 ≤ t ∧ t ≤ 255 ∧ t % 8 = 0 ∧ t / 16 % 2 = 0)
def qidB (q : QQ) : Bool := typB q.t && decide (0 ≤ q.v ∧ q.v ≤ 2147483647 ∧ 0 ≤ q.p ∧ q.p ≤ 1099511627776)
def qidI (q : QQ) : Int := if qidB q then 0 else 5
def qidsI (L : List QQ) : Int := if 16 < L.length then 4 else if L.all qidB then 0 else 5
def wordB (l : List UInt8) : Bool := decide (l = [46, 46]) || validL l
def wordsI (L : List (List UInt8)) : Int := if 16 < L.length then 4 else if L.all wordB then 0 else 6
def errI (e : Int) : Int := if 1 ≤ e ∧ e ≤ 59 then 0 else 5
def isNo (q : QQ) : Bool := q.t == 0 && (q.v == 0 && q.p == 0)
def eqDD (d e : DD) : Bool := d.ty == e.ty && (d.dv == e.dv && ((d.qt == e.qt && (d.qv == e.qv && d.qp == e.qp)) && (d.mo == e.mo && (d.ai == e.ai && (d.mi == e.mi && (d.ln == e.ln &&
  (d.nm == e.nm && (d.ui == e.ui && (d.gi == e.gi && d.mu == e.mu)))))))))
def zeroB (m : MM) : Nat → Bool
  | 0 => m.fi == 0 | 1 => m.nf == 0 | 2 => m.af == 0 | 3 => m.ot == 0 | 4 => m.ms == 0 | 5 => m.ve == [] | 6 => m.us == [] | 7 => m.ac == []
  | 8 => m.nl.length == 0 | 9 => m.ql.length == 0 | 10 => isNo m.qd | 11 => m.io == 0 | 12 => m.mo == 0 | 13 => m.pe == 0 | 14 => m.na == []
  | 15 => m.os == 0 | 16 => m.co == 0 | 17 => m.da == [] | 18 => eqDD m.st noD | 19 => m.er == 0 | 20 => m.lz == 0 | 21 => m.te == 0 | _ => m.se == []
/-- The error of a field, as the program states it; A is the greatest AuthFid. -/
def faultA (A : Nat) (m : MM) : Nat → Int
  | 0 => numI m.fi 4294967294 | 1 => numI m.nf 4294967294 | 2 => numI m.af A | 3 => numI m.ot 65534
  | 4 => numI m.ms 4294967295 | 5 => txtI m.ve 64 | 6 => txtI m.us 32 | 7 => txtI m.ac 1024 | 8 => wordsI m.nl | 9 => qidsI m.ql | 10 => qidI m.qd
  | 11 => numI m.io 8192 | 12 => numI m.mo 255 | 13 => numI m.pe 4294967295 | 14 => if validL m.na then 0 else 6 | 15 => numI m.os 9007199254740991
  | 16 => numI m.co 8192 | 17 => txtI m.da 8168 | 18 => checkR m.st | 19 => errI m.er | 20 => numI m.lz 2 | 21 => numI m.te 1048576 | _ => txtI m.se 64
def authP (k : Int) : Nat := if k = 104 then 4294967295 else 4294967294
def authQ (k : Int) : Nat := if k = 102 then 4294967294 else 4294967295
def faultP (m : MM) : Nat → Int := faultA (authP m.kd) m
def faultQ (m : MM) : Nat → Int := faultA (authQ m.kd) m
/-- The first error of a list of fields. -/
def firstE (g : Nat → Int) : List Nat → Int
  | [] => 0
  | f :: l => if g f = 0 then firstE g l else g f
def tagB (k t : Int) : Bool := if k = 100 ∨ k = 101 then decide (t = 65535) else if k = 107 then decide (0 ≤ t ∧ t ≤ 65535) else decide (0 ≤ t ∧ t ≤ 65534)
/-- A field that the kind does not use is not zero. -/
def badF (m : MM) (f : Nat) : Bool := !(zeroB m f) && !((fieldsL m.kd).contains f)
def othersB (m : MM) : Bool := (List.range 23).any (badF m)
def checkM (m : MM) : Int := if kindB m.kd = false then 2 else if tagB m.kd m.tg = false then 5 else if othersB m then 2 else firstE (faultP m) (fieldsL m.kd)

theorem firstE_hit {g : Nat → Int} {L : List Nat} {k : Nat} (hk : k < L.length) (h : ∀ j, j < k → g (L.getD j 0) = 0) (he : g (L.getD k 0) ≠ 0) : firstE g L = g (L.getD k 0) := by
  induction L generalizing k with
  | nil => simp at hk
  | cons f l ih =>
    cases k with
    | zero => simp only [List.getD_cons_zero] at he ⊢; rw [firstE, if_neg he]
    | succ k =>
      have h0 := h 0 (by omega)
      simp only [List.getD_cons_zero] at h0
      rw [firstE, if_pos h0]
      simp only [List.getD_cons_succ] at he ⊢
      exact ih (by simpa using hk) (fun j hj => by have := h (j + 1) (by omega); simpa using this) he
theorem firstE_none {g : Nat → Int} {L : List Nat} (h : ∀ j, j < L.length → g (L.getD j 0) = 0) : firstE g L = 0 := by
  induction L with
  | nil => rfl
  | cons f l ih =>
    have h0 := h 0 (by simp)
    simp only [List.getD_cons_zero] at h0
    rw [firstE, if_pos h0]
    exact ih (fun j hj => by have := h (j + 1) (by simpa using hj); simpa using this)
theorem firstE_congr {g h : Nat → Int} {L : List Nat} (e : ∀ f ∈ L, g f = h f) : firstE g L = firstE h L := by
  induction L with
  | nil => rfl
  | cons f l ih => rw [firstE, firstE, e f (List.mem_cons_self ..), ih (fun x hx => e x (List.mem_cons_of_mem _ hx))]
theorem faultPQ {m : MM} {f : Nat} (hf : f ∈ fieldsL m.kd) (hk : kindB m.kd = true) : faultP m f = faultQ m f := by
  unfold faultP faultQ
  by_cases h2 : f = 2
  · subst h2
    have : authP m.kd = authQ m.kd := by
      generalize m.kd = k at *
      rcases kinds hk with rfl | rfl | rfl | rfl | rfl | rfl | rfl | rfl | rfl | rfl | rfl | rfl | rfl | rfl | rfl | rfl | rfl | rfl | rfl | rfl | rfl | rfl | rfl | rfl | rfl | rfl | rfl | rfl | rfl | rfl | rfl <;> revert hf <;> decide
    rw [this]
  · unfold faultA; split <;> first | rfl | (exfalso; apply h2; rfl)
theorem othersB_yes {m : MM} {k : Nat} (hk : k < 23) (h : badF m k = true) : othersB m = true := by
  unfold othersB; rw [List.any_eq_true]; exact ⟨k, List.mem_range.2 hk, h⟩
theorem othersB_no {m : MM} (h : ∀ j, j < 23 → badF m j = false) : othersB m = false := by
  unfold othersB; rw [List.any_eq_false]; intro x hx; simp [h x (List.mem_range.1 hx)]

/-! ### Answers, errors, equality -/
def withinB (q r : MM) : Bool :=
  if r.kd = 111 then decide (r.ql.length ≤ q.nl.length ∧ (0 < r.ql.length ∨ q.nl.length = 0))
  else if r.kd = 117 then decide ((r.da.length : Int) ≤ q.co)
  else if r.kd = 119 then decide (r.co ≤ (q.da.length : Int))
  else true
def answersB (q r : MM) : Bool := (reqB q.kd && decide (r.tg = q.tg)) && (decide (r.kd = 107) || (decide (r.kd = repI q.kd) && withinB q r))
def noQ : QQ := ⟨0, 0, 0⟩
def noM : MM := ⟨0, 0, 0, 0, 0, 0, 0, [], [], [], .slice none 0 0, .slice none 0 0, noQ, 0, 0, 0, [], 0, 0, [], noD, 0, 0, 0, [], [], []⟩
def failM (t e : Int) : MM := ⟨107, t, 0, 0, 0, 0, 0, [], [], [], .slice none 0 0, .slice none 0 0, noQ, 0, 0, 0, [], 0, 0, [], noD, e, 0, 0, [], [], []⟩
def eqQ (a b : QQ) : Bool := a.t == b.t && (a.v == b.v && a.p == b.p)
def eqQs (A B : List QQ) : Bool := decide (A.length = B.length) && (List.range A.length).all fun k => eqQ (A.getD k noQ) (B.getD k noQ)
def numsB (a b : MM) : Bool := a.kd == b.kd && (a.tg == b.tg && (a.fi == b.fi && (a.nf == b.nf && (a.af == b.af && (a.ot == b.ot && (a.ms == b.ms && (a.io == b.io && (a.mo == b.mo && (a.pe == b.pe && (a.os == b.os && a.co == b.co))))))))))
def tailB3 (a b : MM) : Bool := a.er == b.er && (a.lz == b.lz && a.te == b.te)
def txtsB (a b : MM) : Bool := a.ve == b.ve && (a.us == b.us && (a.ac == b.ac && (a.na == b.na && (a.da == b.da && a.se == b.se))))
def sameM (a b : MM) : Bool := decide (a.nl = b.nl) && (eqQs a.ql b.ql && (numsB a b && (txtsB a b && (eqQ a.qd b.qd && (eqDD a.st b.st && tailB3 a b)))))

theorem eqDD_symm (d e : DD) : eqDD d e = eqDD e d := by unfold eqDD; simp only [Bool.beq_comm]
theorem eqQ_symm (a b : QQ) : eqQ a b = eqQ b a := by unfold eqQ; simp only [BEq.comm]
theorem eqQ_self (a : QQ) : eqQ a a = true := by simp [eqQ]
theorem eqDD_self (d : DD) : eqDD d d = true := by simp [eqDD]
theorem eqQs_symm (A B : List QQ) : eqQs A B = eqQs B A := by
  unfold eqQs
  by_cases h : A.length = B.length
  · rw [h]; simp only [eqQ_symm]
  · rw [decide_eq_false h, decide_eq_false (fun e => h e.symm)]; rfl
theorem eqQs_self (A : List QQ) : eqQs A A = true := by unfold eqQs; simp [eqQ_self]
theorem sameM_symm (a b : MM) : sameM a b = sameM b a := by
  unfold sameM numsB txtsB tailB3
  rw [eqQs_symm, eqQ_symm, eqDD_symm]
  have e : decide (a.nl = b.nl) = decide (b.nl = a.nl) := by rw [Bool.eq_iff_iff]; simp; exact eq_comm
  rw [e]
  simp only [BEq.comm]
theorem sameM_self (a : MM) : sameM a a = true := by simp [sameM, numsB, txtsB, tailB3, eqQs_self, eqQ_self, eqDD_self]

theorem answersB_req {q r : MM} (h : answersB q r = true) : reqB q.kd = true ∧ reqB r.kd = false := by
  unfold answersB at h
  simp only [Bool.and_eq_true, Bool.or_eq_true, decide_eq_true_eq] at h
  obtain ⟨⟨h1, _⟩, h2⟩ := h
  refine ⟨h1, ?_⟩
  rcases h2 with h2 | ⟨h2, _⟩
  · rw [h2]; decide
  · rw [h2, repI_yes h1]; exact (reqB_next h1).2
theorem checkM_parts {m : MM} (h : checkM m = 0) : kindB m.kd = true ∧ tagB m.kd m.tg = true := by
  unfold checkM at h
  constructor
  · cases hk : kindB m.kd with
    | true => rfl
    | false => rw [if_pos hk] at h; cases h
  · split at h
    · cases h
    · cases ht : tagB m.kd m.tg with
      | true => rfl
      | false => rw [if_pos ht] at h; cases h
theorem tagB_le {k t : Int} (h : tagB k t = true) : 0 ≤ t ∧ t ≤ 65535 := by
  unfold tagB at h
  split at h
  · simp only [decide_eq_true_eq] at h; omega
  · split at h <;> simp only [decide_eq_true_eq] at h <;> omega
theorem check_failM {t e : Int} (h : 0 ≤ t ∧ t ≤ 65535) (he : 1 ≤ e ∧ e ≤ 59) : checkM (failM t e) = 0 := by
  have ek : (failM t e).kd = 107 := rfl
  have et : (failM t e).tg = t := rfl
  unfold checkM
  rw [ek, et, if_neg (show ¬ kindB 107 = false by decide), if_neg (by show ¬ decide (0 ≤ t ∧ t ≤ 65535) = false; simpa using h), if_neg, show fieldsL 107 = [19] from rfl]
  · show (if errI e = 0 then 0 else errI e) = 0
    unfold errI; rw [if_pos he]; rfl
  · have : othersB (failM t e) = false := othersB_no fun j hj => by
      unfold badF
      by_cases h : j = 19
      · subst h
        have hc : (fieldsL (failM t e).kd).contains 19 = true := rfl
        rw [hc, Bool.not_true, Bool.and_false]
      · have hz : zeroB (failM t e) j = true := by
          have hc : j = 0 ∨ j = 1 ∨ j = 2 ∨ j = 3 ∨ j = 4 ∨ j = 5 ∨ j = 6 ∨ j = 7 ∨ j = 8 ∨ j = 9 ∨ j = 10 ∨ j = 11 ∨ j = 12 ∨ j = 13 ∨ j = 14 ∨ j = 15 ∨ j = 16 ∨ j = 17 ∨ j = 18 ∨ j = 20 ∨ j = 21 ∨ j = 22 := by omega
          rcases hc with rfl | rfl | rfl | rfl | rfl | rfl | rfl | rfl | rfl | rfl | rfl | rfl | rfl | rfl | rfl | rfl | rfl | rfl | rfl | rfl | rfl | rfl <;> rfl
        rw [hz]; rfl
    rw [this]; decide
theorem answers_fail {q : MM} {t e : Int} (hr : reqB q.kd = true) (ht : q.tg = t) : answersB q (failM t e) = true := by
  unfold answersB
  rw [hr]
  have e1 : (failM t e).tg = t := rfl
  have e2 : (failM t e).kd = 107 := rfl
  rw [e1, e2]
  simp [ht]

/-- The message with a field that is not zero (nv, qv: the new slices). -/
def putM (m : MM) (nv qv : Value) : Nat → MM
  | 0 => { m with fi := 1 } | 1 => { m with nf := 1 } | 2 => { m with af := 1 } | 3 => { m with ot := 1 } | 4 => { m with ms := 1 } | 5 => { m with ve := [120] } | 6 => { m with us := [120] } | 7 => { m with ac := [120] }
  | 8 => { m with nv := nv, nl := [[120]] } | 9 => { m with qv := qv, ql := [⟨0, 0, 1⟩] } | 10 => { m with qd := ⟨0, 0, 1⟩ } | 11 => { m with io := 1 } | 12 => { m with mo := 1 } | 13 => { m with pe := 1 } | 14 => { m with na := [120] }
  | 15 => { m with os := 1 } | 16 => { m with co := 1 } | 17 => { m with da := [120] } | 18 => { m with st := { m.st with nm := [120] } } | 19 => { m with er := 1 } | 20 => { m with lz := 1 } | 21 => { m with te := 1 } | _ => { m with se := [120] }
theorem k23 {j : Nat} (hj : j < 23) : j = 0 ∨ j = 1 ∨ j = 2 ∨ j = 3 ∨ j = 4 ∨ j = 5 ∨ j = 6 ∨ j = 7 ∨ j = 8 ∨ j = 9 ∨ j = 10 ∨ j = 11 ∨ j = 12 ∨ j = 13 ∨ j = 14 ∨ j = 15 ∨ j = 16 ∨ j = 17 ∨ j = 18 ∨ j = 19 ∨ j = 20 ∨ j = 21 ∨ j = 22 := by omega
theorem zero_putM (m : MM) (nv qv : Value) {j : Nat} (hj : j < 23) : zeroB (putM m nv qv j) j = false ∧ (putM m nv qv j).kd = m.kd ∧ (putM m nv qv j).tg = m.tg := by
  rcases k23 hj with rfl | rfl | rfl | rfl | rfl | rfl | rfl | rfl | rfl | rfl | rfl | rfl | rfl | rfl | rfl | rfl | rfl | rfl | rfl | rfl | rfl | rfl | rfl
  all_goals (refine ⟨?_, rfl, rfl⟩)
  case inr.inr.inr.inr.inr.inr.inr.inr.inr.inr.inr.inr.inr.inr.inr.inr.inr.inr.inl =>
    have : (([120] : List UInt8) == []) = false := rfl
    simp only [zeroB, putM, eqDD, noD, this, Bool.false_and, Bool.and_false]
  all_goals rfl
theorem check_putM {m : MM} (nv qv : Value) {j : Nat} (hj : j < 23) (h : checkM m = 0) (hn : (fieldsL m.kd).contains j = false) : checkM (putM m nv qv j) = 2 := by
  obtain ⟨h1, h2⟩ := checkM_parts h
  obtain ⟨z, e1, e2⟩ := zero_putM m nv qv hj
  unfold checkM
  rw [e1, e2, if_neg (by rw [h1]; decide), if_neg (by rw [h2]; decide), if_pos]
  refine othersB_yes hj ?_
  unfold badF
  rw [z, e1, hn]; rfl
end Go.Proofs.YtlfdmbfbfadifaaGreatDoor
