/-
  Walks of the reference: numbers, lengths, names, qids, tags, fields.
  Structs compared: descriptions, qids.
-/
import Derived.Test.YtlfdmbfbfadifaaGreatDoorWg
import Derived.Test.YtlfdmbfbfadifaaGreatDoorWd
import Derived.Laws.StructEq
import Derived.BigQuiet
namespace Go.Proofs.YtlfdmbfbfadifaaGreatDoor
open Go.RowKit

set_option maxHeartbeats 800000 in
theorem Rnumber_any (n : Int) (g : Nat) (gi : Int) (h : gi = (g : Int)) (w : World) :
    Calls Tryz.prog 69 #[.int .i64 n, .int .i64 gi] w fun e w' => e = .returned (.int .i64 (numI n g)) ∧ w = w' := by
  subst h
  have hg : (0 : Int) ≤ (g : Int) := by omega
  have hI : numI n g = if 0 ≤ n ∧ n ≤ (g : Int) then 0 else 5 := rfl
  generalize numI n g = r at hI ⊢
  generalize (g : Int) = G at *
  by_cases h0 : n < 0
  · have HS : Hid (r = 5) := by unfold Hid; rw [hI, if_neg (by omega)]
    clear hI
    go_enter Tryz.func69, Tryz.ntmps69
    go_wp2
    go_ret
    rw [HS.out]
    exact ⟨rfl, rfl⟩
  · by_cases h1 : G < n
    · have HS : Hid (r = 5) := by unfold Hid; rw [hI, if_neg (by omega)]
      clear hI
      go_enter Tryz.func69, Tryz.ntmps69
      go_wp2
      go_ret
      rw [HS.out]
      exact ⟨rfl, rfl⟩
    · have HS : Hid (r = 0) := by unfold Hid; rw [hI, if_pos (by omega)]
      clear hI
      go_enter Tryz.func69, Tryz.ntmps69
      go_wp2
      go_ret
      rw [HS.out]
      exact ⟨rfl, rfl⟩
set_option maxHeartbeats 800000 in
theorem Rlength_any (l : List UInt8) (g : Nat) (gi : Int) (h : gi = (g : Int)) (_hl : l.length ≤ maxLen) (w : World) :
    Calls Tryz.prog 70 #[.string (mk l), .int .i64 gi] w fun e w' => e = .returned (.int .i64 (txtI l g)) ∧ w = w' := by
  subst h
  have hz := mk_size l
  have hI : txtI l g = if (mk l).size ≤ g then 0 else 4 := by rw [hz]; rfl
  generalize txtI l g = r at hI ⊢
  clear hz
  generalize mk l = s at *
  by_cases h1 : (g : Int) < (s.size : Int)
  · have HS : Hid (r = 4) := by unfold Hid; rw [hI, if_neg (by omega)]
    clear hI
    go_enter Tryz.func70, Tryz.ntmps70
    go_wp2
    go_ret
    rw [HS.out]
    exact ⟨rfl, rfl⟩
  · have HS : Hid (r = 0) := by unfold Hid; rw [hI, if_pos (by omega)]
    clear hI
    go_enter Tryz.func70, Tryz.ntmps70
    go_wp2
    go_ret
    rw [HS.out]
    exact ⟨rfl, rfl⟩
set_option maxHeartbeats 1600000 in
theorem RnamesL_any (v : Value) (L : List (List UInt8)) (w : World) (h : SRow w v L) (hm : ∀ l ∈ L, l.length ≤ maxLen) :
    Calls Tryz.prog 71 #[v] w fun e w' => e = .returned (.int .i64 (wordsI L)) ∧ w = w' := by
  have HS := Lib.hid h
  have HM := Lib.hid hm
  obtain ⟨p, cap, rfl, hc, hcm, _⟩ := h
  unfold maxLen at hcm
  have H0 := Lib.hid (fun hl h => words_all (L := L) hl h)
  have H1 := Lib.hid (fun hl k hk h => words_no (L := L) hl (k := k) hk h)
  have H2 : Hid (16 < L.length → wordsI L = 4) := fun h => by unfold wordsI; rw [if_pos h]
  generalize wordsI L = r at *
  clear hm
  by_cases h16 : 16 < L.length
  · have HR := Lib.hid (H2.out h16)
    clear H2
    go_enter Tryz.func71, Tryz.ntmps71
    go_wp2
    go_ret
    rw [HR.out]
    exact ⟨rfl, rfl⟩
  go_enter Tryz.func71, Tryz.ntmps71
  go_wp2
  go_loop [9] (fun vi => ∃ k : Nat, vi = .int .i64 (k : Int) ∧ k ≤ L.length ∧ Hid (∀ j, (hj : j < L.length) → j < k → wordB L[j] = true)) (fun vi => L.length - (intOf vi).toNat)
  case atStart => exact ⟨0, rfl, by omega, fun j hj hj2 => by omega⟩
  case round =>
    obtain ⟨k, rfl, hk, ha⟩ := hrel
    by_cases hlt : k < L.length
    · obtain ⟨b, o, cap', hp, hb, hcl, c0⟩ := HS.out.at_ (Below.refl _ _) hlt
      obtain ⟨rfl, rfl⟩ : p = some ⟨b, o, none⟩ ∧ cap = cap' := by injection hp with h1 h2 h3; exact ⟨h1, h3⟩
      clear hp
      have hV := Lib.hid (RValidM L[k] (HM.out _ (List.getElem_mem hlt)) w)
      have hw : wordB L[k] = (decide (L[k] = [46, 46]) || validL L[k]) := rfl
      have HA := Lib.hid (fun h => words_step hlt ha.out h)
      have HB := Lib.hid (fun h => H1.out (by omega) k hlt h)
      have ht := mk_toList L[k]
      generalize wordB L[k] = wb at *
      generalize validL L[k] = vb at *
      generalize L[k] = t at *
      by_cases h2 : t = [46, 46]
      · have hq : ((mk t).toList == [46, 46]) = true := by rw [ht, h2]; rfl
        have HA' := Lib.hid (HA.out (by rw [hw, h2]; rfl))
        clear HA HB hw ht h2 hV
        go_wp2
        exact ⟨⟨k + 1, by go_num, by omega, HA'⟩, by simp [intOf]; omega⟩
      · have hq : ((mk t).toList == [46, 46]) = false := by rw [ht]; simpa using h2
        rw [decide_eq_false h2, Bool.false_or] at hw
        subst hw
        cases wb
        · have HR := Lib.hid (HB.out rfl)
          clear HA HB ht h2
          go_wp2_with (go_at_call 87; refine hV.out.mono ?_; rintro e w' ⟨rfl, rfl⟩)
          go_ret
          rw [HR.out]
          exact ⟨rfl, rfl⟩
        · have HA' := Lib.hid (HA.out rfl)
          clear HA HB ht h2
          go_wp2_with (go_at_call 87; refine hV.out.mono ?_; rintro e w' ⟨rfl, rfl⟩)
          exact ⟨⟨k + 1, by go_num, by omega, HA'⟩, by simp [intOf]; omega⟩
    · obtain rfl : k = L.length := by omega
      have HR := Lib.hid (H0.out (by omega) (fun j hj _ => ha.out j hj hj))
      clear ha H0 H1 H2
      go_wp2
      go_ret
      rw [HR.out]
      exact ⟨rfl, rfl⟩

theorem typ_no {t : Int} (h0 : 0 ≤ t) (h1 : t ≤ 255) (h : typB t = false) : t % 8 ≠ 0 ∨ t / 16 % 2 ≠ 0 := by
  unfold typB at h
  simp only [decide_eq_false_iff_not] at h
  omega
theorem typ_yes {t : Int} (h : typB t = true) : 0 ≤ t ∧ t ≤ 255 ∧ t % 8 = 0 ∧ t / 16 % 2 = 0 := by
  unfold typB at h
  simpa using h
set_option maxRecDepth 100000 in
set_option maxHeartbeats 3200000 in
theorem Rqid_any (q : QQ) (w : World) :
    Calls Tryz.prog 73 #[qidV q] w fun e w' => e = .returned (.int .i64 (qidI q)) ∧ Below w.heap.size w w' := by
  have hB := Lib.hid (fun o => (Below.refl _ w).alloc (Nat.le_refl _) o)
  have H5 := Lib.hid (fun h => qidI_5 (q := q) h)
  have H0 := Lib.hid (fun h h2 => qidI_0 (q := q) h h2)
  unfold qidV
  generalize qidI q = r at *
  obtain ⟨t, v, p⟩ := q
  dsimp only at *
  cases hb : typB t
  · have hr := Lib.hid (H5.out (.inl hb))
    clear H5 H0
    by_cases h0 : t < 0
    · clear hb
      go_enter Tryz.func73, Tryz.ntmps73
      go_wp2
      go_ret
      rw [hr.out]
      exact ⟨rfl, hB.out _⟩
    by_cases h1 : 255 < t
    · clear hb
      go_enter Tryz.func73, Tryz.ntmps73
      go_wp2
      go_ret
      rw [hr.out]
      exact ⟨rfl, hB.out _⟩
    have e8 : Int.tmod t 8 = t % 8 := Int.tmod_eq_emod_of_nonneg (by omega)
    by_cases h8 : t % 8 = 0
    · have n8 : (t % 8 != 0) = false := by rw [h8]; rfl
      have e16 : Int.tdiv t 16 = t / 16 := Int.tdiv_eq_ediv_of_nonneg (by omega)
      have e2 : Int.tmod (t / 16) 2 = t / 16 % 2 := Int.tmod_eq_emod_of_nonneg (by omega)
      have n2 : (t / 16 % 2 != 0) = true := by
        rcases typ_no (by omega) (by omega) hb with h | h
        · exact absurd h8 h
        · simpa using h
      have c0 : 0 ≤ t / 16 := by omega
      have c1 : t / 16 ≤ 15 := by omega
      generalize t % 8 = a at *
      generalize t / 16 % 2 = b at *
      generalize t / 16 = c at *
      clear hb h8
      go_enter Tryz.func73, Tryz.ntmps73
      go_wp2
      go_ret
      rw [hr.out]
      exact ⟨rfl, hB.out _⟩
    · have n8 : (t % 8 != 0) = true := by simpa using h8
      generalize t % 8 = a at *
      clear hb h8
      go_enter Tryz.func73, Tryz.ntmps73
      go_wp2
      go_ret
      rw [hr.out]
      exact ⟨rfl, hB.out _⟩
  · obtain ⟨h0, h1, h8, h2⟩ := typ_yes hb
    have e8 : Int.tmod t 8 = t % 8 := Int.tmod_eq_emod_of_nonneg h0
    have e16 : Int.tdiv t 16 = t / 16 := Int.tdiv_eq_ediv_of_nonneg h0
    have e2 : Int.tmod (t / 16) 2 = t / 16 % 2 := Int.tmod_eq_emod_of_nonneg (by omega)
    rw [h8] at e8
    rw [h2] at e2
    have c0 : 0 ≤ t / 16 := by omega
    have c1 : t / 16 ≤ 15 := by omega
    generalize t / 16 = c at *
    clear h8 h2
    by_cases h : v < 0 ∨ 2147483647 < v ∨ p < 0 ∨ 1099511627776 < p
    · have hr := Lib.hid (H5.out (.inr h))
      clear H5 H0 hb
      go_enter Tryz.func73, Tryz.ntmps73
      rcases h with h | h | h | h
      · go_wp2
        go_ret
        rw [hr.out]
        exact ⟨rfl, hB.out _⟩
      · have h1 : 0 ≤ v := by omega
        go_wp2
        go_ret
        rw [hr.out]
        exact ⟨rfl, hB.out _⟩
      · go_wp2
        all_goals go_ret
        all_goals (rw [hr.out]; exact ⟨rfl, hB.out _⟩)
      · have h1 : 0 ≤ p := by omega
        go_wp2
        all_goals go_ret
        all_goals (rw [hr.out]; exact ⟨rfl, hB.out _⟩)
    · have hr := Lib.hid (H0.out hb (by omega))
      have h1 : 0 ≤ v := by omega
      have h2 : v ≤ 2147483647 := by omega
      have h3 : 0 ≤ p := by omega
      have h4 : p ≤ 1099511627776 := by omega
      clear H5 H0 h hb
      go_enter Tryz.func73, Tryz.ntmps73
      go_wp2
      go_ret
      rw [hr.out]
      exact ⟨rfl, hB.out _⟩
set_option maxRecDepth 100000 in
set_option maxHeartbeats 1600000 in
theorem RqidsL_any (v : Value) (L : List QQ) (w : World) (h : QRow w v L) (_hm : ∀ k, k < L.length → True) :
    Calls Tryz.prog 72 #[v] w fun e w' => e = .returned (.int .i64 (qidsI L)) ∧ Below w.heap.size w w' := by
  have HS := Lib.hid h
  obtain ⟨p, cap, rfl, hc, hcm, _⟩ := h
  unfold maxLen at hcm
  have H0 := Lib.hid (fun hl h => qids_all (L := L) hl h)
  have H1 := Lib.hid (fun hl k hk h => qids_no (L := L) hl (k := k) hk h)
  have H2 : Hid (16 < L.length → qidsI L = 4) := fun h => by unfold qidsI; rw [if_pos h]
  generalize qidsI L = r at *
  clear _hm
  by_cases h16 : 16 < L.length
  · have HR := Lib.hid (H2.out h16)
    clear H2
    go_enter Tryz.func72, Tryz.ntmps72
    go_wp2
    go_ret
    rw [HR.out]
    exact ⟨rfl, Below.refl _ _⟩
  go_enter Tryz.func72, Tryz.ntmps72
  go_wp2
  go_loopw [10] (fun vi wr => ∃ k : Nat, vi = .int .i64 (k : Int) ∧ k ≤ L.length ∧ Hid (Below w.heap.size w wr) ∧ Hid (∀ j, j < k → qidB (atQ L j) = true)) (fun vi _ => L.length - (intOf vi).toNat)
  case atStart => exact ⟨0, rfl, by omega, Below.refl _ _, fun j hj => by omega⟩
  case round =>
    obtain ⟨k, rfl, hk, HB, ha⟩ := hrel
    by_cases hlt : k < L.length
    · obtain ⟨b, o, cap', q, hq, hp, hb, hcl, c0, c1, c2⟩ := HS.out.at_ HB.out hlt
      obtain ⟨rfl, rfl⟩ : p = some ⟨b, o, none⟩ ∧ cap = cap' := by injection hp with h1 h2 h3; exact ⟨h1, h3⟩
      clear hp
      have hV := fun W => Rqid_any (atQ L k) W
      have hw : qidI (atQ L k) = if qidB (atQ L k) = true then 0 else 5 := rfl
      have HA := Lib.hid (fun h => qids_step (k := k) ha.out h)
      have HN := Lib.hid (fun h => H1.out (by omega) k hlt h)
      rw [hq] at hV hw HA HN
      rw [hw] at hV
      unfold qidV at hV
      replace hV := Lib.hid hV
      generalize qidB q = wb at *
      obtain ⟨qt, qv, qp⟩ := q
      dsimp only at c0 c1 c2 hV
      clear hw hq
      cases wb
      · have HR := Lib.hid (HN.out rfl)
        clear HA HN
        go_wp2_with fail
        refine (hV.out _).mono ?_
        rintro e w2 ⟨rfl, hB2⟩
        go_wp2
        go_ret
        rw [HR.out]
        exact ⟨rfl, HB.out.trans (hB2.mono HB.out.size)⟩
      · have HA' := Lib.hid (HA.out rfl)
        clear HA HN
        go_wp2_with fail
        refine (hV.out _).mono ?_
        rintro e w2 ⟨rfl, hB2⟩
        go_wp2
        exact ⟨⟨k + 1, by go_num, by omega, HB.out.trans (hB2.mono HB.out.size), HA'⟩, by simp [intOf]; omega⟩
    · obtain rfl : k = L.length := by omega
      have HR := Lib.hid (H0.out (by omega) ha.out)
      clear ha H0 H1 H2
      go_wp2
      go_ret
      rw [HR.out]
      exact ⟨rfl, HB.out⟩


/-! ### Tags -/
set_option maxHeartbeats 3200000 in
theorem Rtag_any (m : MM) (w : World) :
    Calls Tryz.prog 41 #[msgV m] w fun e w' => e = .returned (.int .i64 (if tagB m.kd m.tg then 0 else 5)) ∧ Below w.heap.size w w' := by
  have HB0 := Lib.hid (fun ca => (Below.refl _ w).alloc (Nat.le_refl _) (.cells ca 30))
  unfold msgV
  have x0 : (cellsB m)[0]? = some (.int .i64 m.kd) := rfl
  have x1 : (cellsB m)[1]? = some (.int .i64 m.tg) := rfl
  generalize cellsB m = ca at *
  generalize m.kd = k at *
  generalize m.tg = t at *
  generalize hr : (if tagB k t = true then (0 : Int) else 5) = r
  by_cases h1 : k = 100 ∨ k = 101
  · have HR : r = if t = 65535 then 0 else 5 := by rw [← hr]; unfold tagB; rw [if_pos h1]; simp only [decide_eq_true_eq]
    clear hr
    by_cases ht : t = 65535
    · subst ht
      have HS := Lib.hid (HR.trans (if_pos rfl))
      rcases h1 with rfl | rfl
      all_goals
        clear HR
        go_enter Tryz.func41, Tryz.ntmps41
        go_wp2
        go_ret
        rw [HS.out]
        exact ⟨rfl, HB0.out _⟩
    · have ht' : (t != 65535) = true := by simpa using ht
      have HS := Lib.hid (HR.trans (if_neg ht))
      rcases h1 with rfl | rfl
      all_goals
        clear HR ht
        go_enter Tryz.func41, Tryz.ntmps41
        go_wp2
        go_ret
        rw [HS.out]
        exact ⟨rfl, HB0.out _⟩
  · have a1 : (k == 100) = false := by simp at h1 ⊢; exact h1.1
    have a2 : (k == 101) = false := by simp at h1 ⊢; exact h1.2
    by_cases h2 : k = 107
    · have HR : Hid (r = if 0 ≤ t ∧ t ≤ 65535 then 0 else 5) := by unfold Hid; rw [← hr]; unfold tagB; rw [if_neg h1, if_pos h2]; simp only [decide_eq_true_eq]
      clear hr
      subst h2
      clear h1
      go_enter Tryz.func41, Tryz.ntmps41
      go_wp2
      all_goals go_ret
      all_goals (rw [HR.out]; refine ⟨ret1 ?_, HB0.out _⟩; split <;> (try rfl) <;> exfalso <;> omega)
    · have HR : Hid (r = if 0 ≤ t ∧ t ≤ 65534 then 0 else 5) := by unfold Hid; rw [← hr]; unfold tagB; rw [if_neg h1, if_neg h2]; simp only [decide_eq_true_eq]
      clear hr
      have a3 : (k != 107) = true := by simpa using h2
      clear h1 h2
      go_enter Tryz.func41, Tryz.ntmps41
      go_wp2
      all_goals go_ret
      all_goals (rw [HR.out]; refine ⟨ret1 ?_, HB0.out _⟩; split <;> (try rfl) <;> exfalso <;> omega)

/-! ### Fields -/
def lettersK (k : Int) : List UInt8 := (fieldsL k).map letN
set_option maxRecDepth 100000 in
set_option maxHeartbeats 12800000 in
theorem RFields_any (k : Int) (hk : kindB k = true) (w : World) :
    Calls Tryz.prog 44 #[.int .i64 k] w fun e w' => e = .returned (.string (mk (lettersK k))) ∧ w = w' := by
  rcases kinds hk with rfl | rfl | rfl | rfl | rfl | rfl | rfl | rfl | rfl | rfl | rfl | rfl | rfl | rfl | rfl | rfl | rfl | rfl | rfl | rfl | rfl | rfl | rfl | rfl | rfl | rfl | rfl | rfl | rfl | rfl | rfl
  all_goals
    clear hk
    go_enter Tryz.func44, Tryz.ntmps44
    go_wp2
    go_ret
    exact ⟨rfl, rfl⟩
theorem letters_le {k : Int} (hk : kindB k = true) : (lettersK k).length ≤ 4 := by
  unfold lettersK; rw [List.length_map]; exact (fieldsL_le hk).1
theorem let_inj : ∀ a : Fin 23, ∀ b : Fin 23, letN a.1 = letN b.1 → a = b := by decide
theorem contains_let {L : List Nat} (hL : ∀ f ∈ L, f < 23) {x : Nat} (hx : x < 23) : (L.map letN).contains (letN x) = L.contains x := by
  induction L with
  | nil => rfl
  | cons f l ih =>
    have hf := hL f (List.mem_cons_self ..)
    rw [List.map_cons, List.contains_cons, List.contains_cons, ih (fun y hy => hL y (List.mem_cons_of_mem _ hy))]
    congr 1
    rw [Bool.eq_iff_iff]
    simp only [beq_iff_eq]
    constructor
    · intro e
      have := let_inj ⟨x, hx⟩ ⟨f, hf⟩ e
      simpa using this
    · rintro rfl; rfl
theorem lets_go {M : List UInt8} {x : UInt8} {k : Nat} (h : ∀ j, (hj : j < M.length) → j < k → M[j] ≠ x) (hk : k < M.length) (he : M[k] ≠ x) : ∀ j, (hj : j < M.length) → j < k + 1 → M[j] ≠ x := fun j hj hjk => by
  by_cases e : j = k
  · subst e; exact he
  · exact h j hj (by omega)
theorem lets_hit {M : List UInt8} {x : UInt8} {k : Nat} (hk : k < M.length) (he : M[k] = x) : M.contains x = true := by
  rw [List.contains_iff_mem, ← he]; exact List.getElem_mem _
theorem lets_end {M : List UInt8} {x : UInt8} (h : ∀ j, (hj : j < M.length) → j < M.length → M[j] ≠ x) : M.contains x = false := by
  rw [Bool.eq_false_iff]
  intro hc
  rw [List.contains_iff_mem] at hc
  obtain ⟨j, hj, e⟩ := List.getElem_of_mem hc
  exact h j hj hj e
set_option maxRecDepth 100000 in
set_option maxHeartbeats 1600000 in
theorem RUses_any (k : Int) (c : UInt8) (hk : kindB k = true) (w : World) :
    Calls Tryz.prog 42 #[.int .i64 k, .int .u8 (c.toNat : Int)] w fun e w' => e = .returned (.bool ((lettersK k).contains c)) ∧ w = w' := by
  have hF := Lib.hid (RFields_any k hk w)
  have hl := letters_le hk
  generalize lettersK k = M at *
  have hz := mk_size M
  have hg := Lib.hid (mk_get M)
  generalize hr : M.contains c = r
  have HG := Lib.hid (fun k hk h => (lets_hit (M := M) (x := c) (k := k) hk h).symm.trans hr)
  have HE := Lib.hid (fun h => (lets_end (M := M) (x := c) h).symm.trans hr)
  clear hr
  go_enter Tryz.func42, Tryz.ntmps42
  go_wp2_with fail
  refine hF.out.mono ?_
  rintro e w' ⟨rfl, rfl⟩
  go_wp2
  go_loop [6] (fun vi => ∃ k : Nat, vi = .int .i64 (k : Int) ∧ k ≤ M.length ∧ Hid (∀ j, (hj : j < M.length) → j < k → M[j] ≠ c)) (fun vi => M.length - (intOf vi).toNat)
  case atStart => exact ⟨0, rfl, by omega, fun j hj _ => by omega⟩
  case round =>
    obtain ⟨k, rfl, hk, ha⟩ := hrel
    by_cases hlt : k < M.length
    · have hk1 : k < (mk M).size := by omega
      have hgk := hg.out k hk1
      by_cases hn : M[k] = c
      · have hq : ((((mk M)[k]'hk1).toNat : Int) == (c.toNat : Int)) = true := by
          have e : (mk M)[k]'hk1 = c := hgk.trans hn
          rw [e]; simp
        have HA := Lib.hid (HG.out k hlt hn)
        clear hn hgk
        go_wp2
        go_ret
        rw [← HA.out]
        exact ⟨rfl, rfl⟩
      · have hq : ((((mk M)[k]'hk1).toNat : Int) == (c.toNat : Int)) = false := by
          rw [beq_eq_false_iff_ne]
          intro e
          exact hn (hgk.symm.trans (UInt8.toNat_inj.1 (by omega)))
        have HA := Lib.hid (lets_go ha.out hlt hn)
        clear hn hgk
        go_wp2
        exact ⟨⟨k + 1, by go_num, by omega, HA⟩, by simp [intOf]; omega⟩
    · have hkn : k = M.length := by omega
      have HA := Lib.hid (HE.out (fun j hj _ => ha.out j hj (by omega)))
      clear hkn
      go_wp2
      go_ret
      rw [← HA.out]
      exact ⟨rfl, rfl⟩
theorem RUses_let (k : Int) (f : Nat) (hk : kindB k = true) (hf : f < 23) (w : World) :
    Calls Tryz.prog 42 #[.int .i64 k, .int .u8 ((letN f).toNat : Int)] w fun e w' => e = .returned (.bool ((fieldsL k).contains f)) ∧ w = w' := by
  rw [← contains_let (fieldsL_le hk).2 hf]
  exact RUses_any k (letN f) hk w
end Go.Proofs.YtlfdmbfbfadifaaGreatDoor

namespace Go.Proofs.YtlfdmbfbfadifaaGreatDoor
open Go.RowKit

theorem eqF_cons {P : Program} {n : Nat} {f : Field} {fs : List Field} {xs ys : Array Value} {a b : Value} {r s : Bool} {w : World} (hn : (f.name == "_") = false) (ha : (part f.type xs f.offset).run P w = .ok a w)
    (hb : (part f.type ys f.offset).run P w = .ok b w) (he : (Op.equalIn n f.type a b).run P w = .ok r w) (hs : (Op.eqFields n xs ys fs).run P w = .ok s w) : (Op.eqFields n xs ys (f :: fs)).run P w = .ok (r && s) w := by
  have hn' : f.name ≠ "_" := by simpa using hn
  simp only [Op.eqFields, Sem.run_bind, Sem.run_ite, ha, hb, he, Result.andThen_ok]
  cases r
  · simp [hn']
  · simpa [hn'] using hs
theorem part_int (d : DD) (w : World) {k : Nat} {v : Int} (h : (cellsA d)[k]? = some (.int .i64 v)) : (part 3 (cellsA d) k).run Tryz.prog w = .ok (.int .i64 v) w := by
  have := (show (isAgg 3).run Tryz.prog w = .ok false w by kernel_rfl)
  simp [part, Sem.run_bind, this, h]
theorem part_str (d : DD) (w : World) {k : Nat} {v : List UInt8} (h : (cellsA d)[k]? = some (.string (mk v))) : (part 9 (cellsA d) k).run Tryz.prog w = .ok (.string (mk v)) w := by
  have := (show (isAgg 9).run Tryz.prog w = .ok false w by kernel_rfl)
  simp [part, Sem.run_bind, this, h]
theorem part_qid (d : DD) (w : World) : (part 25 (cellsA d) 2).run Tryz.prog w = .ok (.agg #[.int .i64 d.qt, .int .i64 d.qv, .int .i64 d.qp]) w := by
  show _ = _
  kernel_rfl
theorem eq_int (a b : Int) (n : Nat) (w : World) : (Op.equalIn (n + 1) 3 (.int .i64 a) (.int .i64 b)).run Tryz.prog w = .ok (a == b) w := run_equalIn_int w n _ _ _ _ _ Tryz.underlying3
theorem eq_str (a b : List UInt8) (n : Nat) (w : World) : (Op.equalIn (n + 1) 9 (.string (mk a)) (.string (mk b))).run Tryz.prog w = .ok (a == b) w := by
  rw [run_equalIn_string w n _ _ _ Tryz.underlying9, mk_toList, mk_toList]
theorem eqF_nil {P : Program} {n : Nat} {xs ys : Array Value} {w : World} : (Op.eqFields n xs ys []).run P w = .ok true w := by simp [Op.eqFields]
theorem part_q (a b c : Int) (w : World) {k : Nat} {v : Int} (h : (#[.int .i64 a, .int .i64 b, .int .i64 c] : Array Value)[k]? = some (.int .i64 v)) : (part 3 #[.int .i64 a, .int .i64 b, .int .i64 c] k).run Tryz.prog w = .ok (.int .i64 v) w := by
  have := (show (isAgg 3).run Tryz.prog w = .ok false w by kernel_rfl)
  simp [part, Sem.run_bind, this, h]
theorem equal_qid (a b c a' b' c' : Int) (n : Nat) (w : World) : (Op.equalIn (n + 2) 25 (.agg #[.int .i64 a, .int .i64 b, .int .i64 c]) (.agg #[.int .i64 a', .int .i64 b', .int .i64 c'])).run Tryz.prog w = .ok (eqQ ⟨a, b, c⟩ ⟨a', b', c'⟩) w := by
  rw [run_equalIn_agg w _ _ _ _ (by kernel_rfl) (by kernel_rfl)]
  unfold Program.fieldsOf
  rw [Tryz.underlying25]
  refine Eq.trans (eqF_cons rfl (part_q _ _ _ _ rfl) (part_q _ _ _ _ rfl) (eq_int _ _ _ _) (eqF_cons rfl (part_q _ _ _ _ rfl) (part_q _ _ _ _ rfl) (eq_int _ _ _ _) (eqF_cons rfl (part_q _ _ _ _ rfl) (part_q _ _ _ _ rfl) (eq_int _ _ _ _) eqF_nil))) ?_
  unfold eqQ
  simp only [Bool.and_true]

theorem equal_dir (d e : DD) (n : Nat) (w : World) : (Op.equalIn (n + 3) 27 (.agg (cellsA d)) (.agg (cellsA e))).run Tryz.prog w = .ok (eqDD d e) w := by
  rw [run_equalIn_agg w _ _ _ _ (by kernel_rfl) (by kernel_rfl)]
  unfold Program.fieldsOf
  rw [Tryz.underlying27]
  dsimp only
  refine Eq.trans (eqF_cons rfl (part_int d w rfl) (part_int e w rfl) (eq_int _ _ (n + 1) w) (eqF_cons rfl (part_int d w rfl) (part_int e w rfl) (eq_int _ _ (n + 1) w) (eqF_cons rfl (part_qid d w) (part_qid e w) (equal_qid _ _ _ _ _ _ n w) (eqF_cons rfl (part_int d w rfl) (part_int e w rfl) (eq_int _ _ (n + 1) w) (eqF_cons rfl (part_int d w rfl) (part_int e w rfl) (eq_int _ _ (n + 1) w) (eqF_cons rfl (part_int d w rfl) (part_int e w rfl) (eq_int _ _ (n + 1) w) (eqF_cons rfl (part_int d w rfl) (part_int e w rfl) (eq_int _ _ (n + 1) w) (eqF_cons rfl (part_str d w rfl) (part_str e w rfl) (eq_str _ _ (n + 1) w) (eqF_cons rfl (part_str d w rfl) (part_str e w rfl) (eq_str _ _ (n + 1) w) (eqF_cons rfl (part_str d w rfl) (part_str e w rfl) (eq_str _ _ (n + 1) w) (eqF_cons rfl (part_str d w rfl) (part_str e w rfl) (eq_str _ _ (n + 1) w) (eqF_nil)))))))))))) ?_
  unfold eqDD eqQ
  simp only [Bool.and_true]
theorem eql_dir (d e : DD) (w : World) : (binOp .eql 27 (.agg (cellsA d)) (.agg (cellsA e))).run Tryz.prog w = .ok (.bool (eqDD d e)) w := by
  rw [run_eql_struct, equal_dir d e 9997 w]; rfl
theorem neq_dir (d e : DD) (w : World) : (binOp .neq 27 (.agg (cellsA d)) (.agg (cellsA e))).run Tryz.prog w = .ok (.bool (!(eqDD d e))) w := by
  rw [run_neq_struct, equal_dir d e 9997 w]; rfl
theorem guard_dir (op : BinOp) (x y : Operand) (d e : DD) (w : World) : (eqGuard op 27 x y (.agg (cellsA d)) (.agg (cellsA e))).run Tryz.prog w = .ok () w :=
  run_eqGuard_agg w op _ x y _ _ (by kernel_rfl)


theorem eql_qid (a b : QQ) (w : World) : (binOp .eql 25 (qidV a) (qidV b)).run Tryz.prog w = .ok (.bool (eqQ a b)) w := by
  unfold qidV
  rw [run_eql_struct, equal_qid _ _ _ _ _ _ 9998 w]; rfl
theorem neq_qid (a b : QQ) (w : World) : (binOp .neq 25 (qidV a) (qidV b)).run Tryz.prog w = .ok (.bool (!(eqQ a b))) w := by
  unfold qidV
  rw [run_neq_struct, equal_qid _ _ _ _ _ _ 9998 w]; rfl
theorem guard_qid (op : BinOp) (x y : Operand) (a b : QQ) (w : World) : (eqGuard op 25 x y (qidV a) (qidV b)).run Tryz.prog w = .ok () w :=
  run_eqGuard_agg w op _ x y _ _ (by kernel_rfl)
end Go.Proofs.YtlfdmbfbfadifaaGreatDoor
