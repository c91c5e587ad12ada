/-
  Walks of package msg: tags, numbers, texts, names, qids.
-/
import Derived.Test.YtlfdmbfbfadifaaDoorWg
import Derived.Test.YtlfdmbfbfadifaaDoorWe
namespace Go.Proofs.YtlfdmbfbfadifaaDoor
open Go.RowKit

set_option maxHeartbeats 800000 in
theorem isTag_any (k t : Int) (w : World) :
    Calls Tryd.prog 39 #[.int .i64 k, .int .i64 t] w fun e w' => e = .returned (.bool (tagB k t)) ∧ w = w' := by
  by_cases h1 : k = 100 ∨ k = 101
  · have HR : Hid (tagB k t = (t == 65535)) := by unfold Hid tagB; rw [if_pos h1]; rfl
    rcases h1 with rfl | rfl
    all_goals
      go_enter Tryd.func39, Tryd.ntmps39
      go_wp2
      go_ret
      rw [HR.out]
      exact ⟨rfl, rfl⟩
  · have a1 : (k == 100) = false := by simp at h1 ⊢; exact h1.1
    have a2 : (k == 101) = false := by simp at h1 ⊢; exact h1.2
    by_cases h2 : k = 107
    · have HR : Hid (tagB k t = (decide (0 ≤ t) && decide (t ≤ 65535))) := by unfold Hid tagB; rw [if_neg h1, if_pos h2, Bool.decide_and]
      subst h2
      clear h1
      go_enter Tryd.func39, Tryd.ntmps39
      go_wp2
      all_goals go_ret
      all_goals (rw [HR.out]; refine ⟨retb ?_, rfl⟩; simp_all <;> try omega)
    · have HR : Hid (tagB k t = (decide (0 ≤ t) && decide (t ≤ 65534))) := by unfold Hid tagB; rw [if_neg h1, if_neg h2, Bool.decide_and]
      have a3 : (k == 107) = false := by simpa using h2
      clear h1 h2
      go_enter Tryd.func39, Tryd.ntmps39
      go_wp2
      all_goals go_ret
      all_goals (rw [HR.out]; refine ⟨retb ?_, rfl⟩; simp_all <;> try omega)

theorem retBI {a b : Bool} {x y : Int} (h : a = b) (h2 : x = y) : Ending.returned (.tuple #[.bool a, .int .i64 x]) = .returned (.tuple #[.bool b, .int .i64 y]) := by rw [h, h2]
set_option maxHeartbeats 800000 in
theorem number_any (n : Int) (g : Nat) (w : World) :
    Calls Tryd.prog 60 #[.int .i64 n, .int .i64 (g : Int)] w fun e w' => e = .returned (.tuple #[.bool (n == 0), .int .i64 (numI n g)]) ∧ w = w' := by
  have hg : (0 : Int) ≤ (g : Int) := by omega
  have hI : numI n g = if 0 ≤ n ∧ n ≤ (g : Int) then 0 else 5 := rfl
  generalize numI n g = r at hI ⊢
  generalize (g : Int) = G at *
  by_cases h0 : n < 0
  · have HS : Hid (r = 5) := by unfold Hid; rw [hI, if_neg (by omega)]
    rw [show (n == 0) = false by simp; omega]
    clear hI
    go_enter Tryd.func60, Tryd.ntmps60
    go_wp2
    go_ret2
    rw [HS.out]
    exact ⟨rfl, rfl⟩
  · by_cases h1 : G < n
    · have HS : Hid (r = 5) := by unfold Hid; rw [hI, if_neg (by omega)]
      rw [show (n == 0) = false by simp; omega]
      clear hI
      go_enter Tryd.func60, Tryd.ntmps60
      go_wp2
      go_ret2
      rw [HS.out]
      exact ⟨rfl, rfl⟩
    · have HS : Hid (r = 0) := by unfold Hid; rw [hI, if_pos (by omega)]
      clear hI
      go_enter Tryd.func60, Tryd.ntmps60
      go_wp2
      go_ret2
      rw [HS.out]
      exact ⟨rfl, rfl⟩
theorem number_lit (n : Int) (g : Nat) (gi : Int) (h : gi = (g : Int)) (w : World) :
    Calls Tryd.prog 60 #[.int .i64 n, .int .i64 gi] w fun e w' => e = .returned (.tuple #[.bool (n == 0), .int .i64 (numI n g)]) ∧ w = w' := by rw [h]; exact number_any n g w
set_option maxHeartbeats 800000 in
theorem text_any (l : List UInt8) (g : Nat) (gi : Int) (h : gi = (g : Int)) (_hl : l.length ≤ maxLen) (w : World) :
    Calls Tryd.prog 62 #[.string (mk l), .int .i64 gi] w fun e w' => e = .returned (.tuple #[.bool (l == []), .int .i64 (txtI l g)]) ∧ w = w' := by
  subst h
  have hz := mk_size l
  have he : (l == []) = ((mk l).toList == []) := by rw [mk_toList]
  have hI : txtI l g = if (mk l).size ≤ g then 0 else 4 := by rw [hz]; rfl
  generalize txtI l g = r at hI ⊢
  by_cases h1 : (g : Int) < ((mk l).size : Int)
  · have HS : Hid (r = 4) := by unfold Hid; rw [hI, if_neg (by omega)]
    rw [show (l == []) = false by
      have : l ≠ [] := fun e => by rw [hz, e] at h1; simp at h1; omega
      simpa using this]
    clear he hI
    generalize mk l = s at *
    clear hz
    go_enter Tryd.func62, Tryd.ntmps62
    go_wp2
    go_ret2
    rw [HS.out]
    exact ⟨rfl, rfl⟩
  · have HS : Hid (r = 0) := by unfold Hid; rw [hI, if_pos (by omega)]
    generalize (l == []) = z at he ⊢
    replace he := Lib.hid he
    clear hz hI
    generalize mk l = s at *
    go_enter Tryd.func62, Tryd.ntmps62
    go_wp2
    go_ret2
    rw [he.out, HS.out]
    exact ⟨retBI (by simp) rfl, rfl⟩
theorem authGreatest_any (k : Int) (w : World) :
    Calls Tryd.prog 61 #[.int .i64 k] w fun e w' => e = .returned (.int .i64 (authP k : Int)) ∧ w = w' := by
  by_cases h : k = 104
  · subst h
    go_enter Tryd.func61, Tryd.ntmps61
    go_wp2
    go_ret
    exact ⟨rfl, rfl⟩
  · have h' : (k == 104) = false := by simpa using h
    have HR : Hid (authP k = 4294967294) := if_neg h
    clear h
    go_enter Tryd.func61, Tryd.ntmps61
    go_wp2
    go_ret
    rw [HR.out]
    exact ⟨rfl, rfl⟩
theorem checkErr_any (e : Int) (w : World) :
    Calls Tryd.prog 68 #[.int .i64 e] w fun e' w' => e' = .returned (.int .i64 (errI e)) ∧ w = w' := by
  have HR : Hid (errI e = if 1 ≤ e ∧ e ≤ 59 then 0 else 5) := rfl
  generalize errI e = r at HR ⊢
  by_cases h0 : e < 1
  · have HS : Hid (r = 5) := by unfold Hid; rw [HR.out, if_neg (by omega)]
    clear HR
    go_enter Tryd.func68, Tryd.ntmps68
    go_wp2
    go_ret
    rw [HS.out]
    exact ⟨rfl, rfl⟩
  · by_cases h1 : 59 < e
    · have HS : Hid (r = 5) := by unfold Hid; rw [HR.out, if_neg (by omega)]
      clear HR
      go_enter Tryd.func68, Tryd.ntmps68
      go_wp2
      go_ret
      rw [HS.out]
      exact ⟨rfl, rfl⟩
    · have HS : Hid (r = 0) := by unfold Hid; rw [HR.out, if_pos (by omega)]
      clear HR
      go_enter Tryd.func68, Tryd.ntmps68
      go_wp2
      go_ret
      rw [HS.out]
      exact ⟨rfl, rfl⟩
theorem checkName_any (l : List UInt8) (hl : l.length ≤ maxLen) (w : World) :
    Calls Tryd.prog 66 #[.string (mk l)] w fun e w' => e = .returned (.int .i64 (if validL l then 0 else 6)) ∧ w = w' := by
  have hV := Lib.hid (ValidM l hl w)
  generalize validL l = b at *
  cases b
  all_goals
    go_enter Tryd.func66, Tryd.ntmps66
    go_wp2_with (go_at_call 80; refine hV.out.mono ?_; rintro e w' ⟨rfl, rfl⟩)
    go_ret
    exact ⟨rfl, rfl⟩

/-! ### Lists of names -/
theorem words_step {L : List (List UInt8)} {k : Nat} (hk : k < L.length) (h : ∀ j, (hj : j < L.length) → j < k → wordB L[j] = true) (he : wordB L[k] = true) : ∀ j, (hj : j < L.length) → j < k + 1 → wordB L[j] = true := fun j hj hjk => by
  by_cases e : j = k
  · subst e; exact he
  · exact h j hj (by omega)
theorem words_all {L : List (List UInt8)} (hl : L.length ≤ 16) (h : ∀ j, (hj : j < L.length) → j < L.length → wordB L[j] = true) : wordsI L = 0 := by
  unfold wordsI
  rw [if_neg (by omega), if_pos]
  rw [List.all_eq_true]
  intro x hx
  obtain ⟨j, hj, rfl⟩ := List.getElem_of_mem hx
  exact h j hj hj
theorem words_no {L : List (List UInt8)} (hl : L.length ≤ 16) {k : Nat} (hk : k < L.length) (h : wordB L[k] = false) : wordsI L = 6 := by
  unfold wordsI
  rw [if_neg (by omega), if_neg]
  rw [List.all_eq_true]
  intro ha
  rw [ha _ (List.getElem_mem hk)] at h
  cases h
set_option maxHeartbeats 1600000 in
theorem checkNames_any (v : Value) (L : List (List UInt8)) (w : World) (h : SRow w v L) (hm : ∀ l ∈ L, l.length ≤ maxLen) :
    Calls Tryd.prog 63 #[v] w fun e w' => e = .returned (.int .i64 (wordsI L)) ∧ w = w' := by
  have HS := Lib.hid h
  have HM := Lib.hid hm
  obtain ⟨p, cap, rfl, hc, hcm, _⟩ := h
  unfold maxLen at hcm
  have H0 := Lib.hid (fun hl h => words_all (L := L) hl h)
  have H1 := Lib.hid (fun hl k hk h => words_no (L := L) hl (k := k) hk h)
  have H2 : Hid (16 < L.length → wordsI L = 4) := fun h => by unfold wordsI; rw [if_pos h]
  generalize wordsI L = r at *
  clear hm
  by_cases h16 : 16 < L.length
  · have HR := Lib.hid (H2.out h16)
    clear H2
    go_enter Tryd.func63, Tryd.ntmps63
    go_wp2
    go_ret
    rw [HR.out]
    exact ⟨rfl, rfl⟩
  go_enter Tryd.func63, Tryd.ntmps63
  go_wp2
  go_loop [10] (fun vi => ∃ k : Nat, vi = .int .i64 (k : Int) ∧ k ≤ L.length ∧ Hid (∀ j, (hj : j < L.length) → j < k → wordB L[j] = true)) (fun vi => L.length - (intOf vi).toNat)
  case atStart => exact ⟨0, rfl, by omega, fun j hj hj2 => by omega⟩
  case round =>
    obtain ⟨k, rfl, hk, ha⟩ := hrel
    by_cases hlt : k < L.length
    · obtain ⟨b, o, cap', hp, hb, hcl, c0⟩ := HS.out.at_ (Below.refl _ _) hlt
      obtain ⟨rfl, rfl⟩ : p = some ⟨b, o, none⟩ ∧ cap = cap' := by injection hp with h1 h2 h3; exact ⟨h1, h3⟩
      clear hp
      have hV := Lib.hid (ValidM L[k] (HM.out _ (List.getElem_mem hlt)) w)
      have hw : wordB L[k] = (decide (L[k] = [46, 46]) || validL L[k]) := rfl
      have HA := Lib.hid (fun h => words_step hlt ha.out h)
      have HB := Lib.hid (fun h => H1.out (by omega) k hlt h)
      have ht := mk_toList L[k]
      generalize wordB L[k] = wb at *
      generalize validL L[k] = vb at *
      generalize L[k] = t at *
      by_cases h2 : t = [46, 46]
      · have hq : ((mk t).toList == [46, 46]) = true := by rw [ht, h2]; rfl
        have HA' := Lib.hid (HA.out (by rw [hw, h2]; rfl))
        clear HA HB hw ht h2 hV
        go_wp2
        exact ⟨⟨k + 1, by go_num, by omega, HA'⟩, by simp [intOf]; omega⟩
      · have hq : ((mk t).toList == [46, 46]) = false := by rw [ht]; simpa using h2
        rw [decide_eq_false h2, Bool.false_or] at hw
        subst hw
        cases wb
        · have HR := Lib.hid (HB.out rfl)
          clear HA HB ht h2
          go_wp2_with (go_at_call 80; refine hV.out.mono ?_; rintro e w' ⟨rfl, rfl⟩)
          go_ret
          rw [HR.out]
          exact ⟨rfl, rfl⟩
        · have HA' := Lib.hid (HA.out rfl)
          clear HA HB ht h2
          go_wp2_with (go_at_call 80; refine hV.out.mono ?_; rintro e w' ⟨rfl, rfl⟩)
          exact ⟨⟨k + 1, by go_num, by omega, HA'⟩, by simp [intOf]; omega⟩
    · obtain rfl : k = L.length := by omega
      have HR := Lib.hid (H0.out (by omega) (fun j hj _ => ha.out j hj hj))
      clear ha H0 H1 H2
      go_wp2
      go_ret
      rw [HR.out]
      exact ⟨rfl, rfl⟩
end Go.Proofs.YtlfdmbfbfadifaaDoor
