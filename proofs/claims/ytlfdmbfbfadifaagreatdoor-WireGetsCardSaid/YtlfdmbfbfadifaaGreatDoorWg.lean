/-
  Walks: the kinds: Name, Request, Reply of both.
  Walks: the reference's Name, Request, Reply.
  Walks of package msg: tags, numbers, texts, names, qids.
  Walks of package msg: qids; lists of fields.
-/
import Derived.Test.YtlfdmbfbfadifaaGreatDoorWd
namespace Go.Proofs.YtlfdmbfbfadifaaGreatDoor
open Go.RowKit

set_option maxHeartbeats 800000 in
theorem isKind_any (k : Int) (w : World) :
    Calls Tryz.prog 33 #[.int .i64 k] w fun e w' => e = .returned (.bool (kindB k)) ∧ w = w' := by
  go_enter Tryz.func33, Tryz.ntmps33
  go_wp2
  all_goals go_ret
  all_goals (refine ⟨retb ?_, rfl⟩; rw [Bool.eq_iff_iff]; simp_all [kindB]; try omega)
theorem isKind_lit (k : Int) (b : Bool) (h : kindB k = b) (w : World) :
    Calls Tryz.prog 33 #[.int .i64 k] w fun e w' => e = .returned (.bool b) ∧ w = w' := by rw [← h]; exact isKind_any k w

set_option maxHeartbeats 3200000 in
theorem Request_any (k : Int) (w : World) :
    Calls Tryz.prog 78 #[.int .i64 k] w fun e w' => e = .returned (.bool (reqB k)) ∧ w = w' := by
  by_cases hk : kindB k = true
  · rcases kinds hk with rfl | rfl | rfl | rfl | rfl | rfl | rfl | rfl | rfl | rfl | rfl | rfl | rfl | rfl | rfl | rfl | rfl | rfl | rfl | rfl | rfl | rfl | rfl | rfl | rfl | rfl | rfl | rfl | rfl | rfl | rfl
    all_goals
      have hK := Lib.hid (isKind_lit _ true hk w)
      clear hk
      go_enter Tryz.func78, Tryz.ntmps78
      go_wp2_with (go_at_call 33; refine hK.out.mono ?_; rintro e w' ⟨rfl, rfl⟩)
      go_ret
      exact ⟨rfl, rfl⟩
  · have hk : kindB k = false := by simpa using hk
    have hK := Lib.hid (isKind_lit _ false hk w)
    have hR := Lib.hid (reqB_no hk)
    clear hk
    go_enter Tryz.func78, Tryz.ntmps78
    go_wp2_with (go_at_call 33; refine hK.out.mono ?_; rintro e w' ⟨rfl, rfl⟩)
    go_ret
    rw [hR.out]
    exact ⟨rfl, rfl⟩
theorem Request_lit (k : Int) (b : Bool) (h : reqB k = b) (w : World) :
    Calls Tryz.prog 78 #[.int .i64 k] w fun e w' => e = .returned (.bool b) ∧ w = w' := by rw [← h]; exact Request_any k w
theorem reqB_in {k : Int} (h : reqB k = true) : 100 ≤ k ∧ k ≤ 131 := by
  have := reqB_kind h
  unfold kindB at this
  simp only [decide_eq_true_eq] at this
  omega
theorem subj_sizes (i : Nat) : (mk (subjN i)).size ≤ 7 := by
  rw [mk_size]
  unfold subjN
  split <;> decide
theorem app84 (l : List UInt8) : (⟨#[84]⟩ : ByteArray) ++ mk l = mk (84 :: l) := mk_app [84] l
theorem app82 (l : List UInt8) : (⟨#[82]⟩ : ByteArray) ++ mk l = mk (82 :: l) := mk_app [82] l
/-- A kind's name, put together. -/
theorem nameK_T {k : Int} (h : reqB k = true) : nameK k = 84 :: subjN ((k - 100) / 2).toNat := by
  have h1 := reqB_kind h
  unfold reqB at h
  simp only [Bool.and_eq_true, decide_eq_true_eq] at h
  unfold nameK; rw [if_pos h1, if_pos h.2]
theorem nameK_R {k : Int} (hk : kindB k = true) (h : reqB k = false) : nameK k = 82 :: subjN ((k - 100) / 2).toNat := by
  unfold reqB at h
  rw [hk] at h
  simp only [Bool.true_and, decide_eq_false_iff_not] at h
  unfold nameK; rw [if_pos hk, if_neg h]
theorem kindB_in {k : Int} (h : kindB k = true) : 100 ≤ k ∧ k ≤ 131 := by
  unfold kindB at h
  simp only [decide_eq_true_eq] at h
  omega
set_option maxRecDepth 100000 in
set_option maxHeartbeats 3200000 in
theorem Name_any (k : Int) (_hi : inI k) (w : World) (g : G w) :
    Calls Tryz.prog 51 #[.int .i64 k] w fun e w' => e = .returned (.string (mk (nameK k))) ∧ w = w' := by
  cases hk : kindB k
  · have hK := Lib.hid (isKind_lit _ _ hk w)
    have hR := Lib.hid (nameK_nil.2 hk)
    clear hk g
    go_enter Tryz.func51, Tryz.ntmps51
    go_wp2_with (go_at_call 33; refine hK.out.mono ?_; rintro e w' ⟨rfl, rfl⟩)
    go_ret
    rw [hR.out]
    exact ⟨rfl, rfl⟩
  · have hK := Lib.hid (isKind_lit _ _ hk w)
    obtain ⟨h1, h2⟩ := kindB_in hk
    obtain ⟨i, hi⟩ : ∃ i : Nat, ((k - 100) / 2).toNat = i := ⟨_, rfl⟩
    have hi16 : i < 16 := by omega
    have hc := g.subj hi16
    have hq : Int.tdiv (k - 100) 2 = (i : Int) := by rw [Int.tdiv_eq_ediv_of_nonneg (by omega)]; omega
    have hz := subj_sizes i
    have h84 := app84 (subjN i)
    have h82 := app82 (subjN i)
    cases hr : reqB k
    · have hQ := Lib.hid (Request_lit _ _ hr w)
      have hR := nameK_R hk hr
      rw [hi] at hR
      replace hR := Lib.hid hR
      clear hr hk hi g
      generalize subjN i = S at *
      go_enter Tryz.func51, Tryz.ntmps51
      go_wp2_with (first | (go_at_call 33; refine hK.out.mono ?_; rintro e w' ⟨rfl, rfl⟩) | (go_at_call 78; refine hQ.out.mono ?_; rintro e w' ⟨rfl, rfl⟩))
      go_ret
      rw [hR.out, ← h82]
      exact ⟨rfl, rfl⟩
    · have hQ := Lib.hid (Request_lit _ _ hr w)
      have hR := nameK_T hr
      rw [hi] at hR
      replace hR := Lib.hid hR
      clear hr hk hi g
      generalize subjN i = S at *
      go_enter Tryz.func51, Tryz.ntmps51
      go_wp2_with (first | (go_at_call 33; refine hK.out.mono ?_; rintro e w' ⟨rfl, rfl⟩) | (go_at_call 78; refine hQ.out.mono ?_; rintro e w' ⟨rfl, rfl⟩))
      go_ret
      rw [hR.out, ← h84]
      exact ⟨rfl, rfl⟩
end Go.Proofs.YtlfdmbfbfadifaaGreatDoor

namespace Go.Proofs.YtlfdmbfbfadifaaGreatDoor
open Go.RowKit

theorem not_kind {k : Int} (h : kindB k = false) (n : Int) (hn : kindB n = true) : (k == n) = false := by
  have : k ≠ n := fun e => by rw [e, hn] at h; cases h
  simpa using this
set_option maxRecDepth 100000 in
set_option maxHeartbeats 6400000 in
theorem RName_no (k : Int) (hk : kindB k = false) (w : World) :
    Calls Tryz.prog 40 #[.int .i64 k] w fun e w' => e = .returned (.string (mk [])) ∧ w = w' := by
  have n100 := not_kind hk 100 (by decide)
  have n101 := not_kind hk 101 (by decide)
  have n102 := not_kind hk 102 (by decide)
  have n103 := not_kind hk 103 (by decide)
  have n104 := not_kind hk 104 (by decide)
  have n105 := not_kind hk 105 (by decide)
  have n107 := not_kind hk 107 (by decide)
  have n108 := not_kind hk 108 (by decide)
  have n109 := not_kind hk 109 (by decide)
  have n110 := not_kind hk 110 (by decide)
  have n111 := not_kind hk 111 (by decide)
  have n112 := not_kind hk 112 (by decide)
  have n113 := not_kind hk 113 (by decide)
  have n114 := not_kind hk 114 (by decide)
  have n115 := not_kind hk 115 (by decide)
  have n116 := not_kind hk 116 (by decide)
  have n117 := not_kind hk 117 (by decide)
  have n118 := not_kind hk 118 (by decide)
  have n119 := not_kind hk 119 (by decide)
  have n120 := not_kind hk 120 (by decide)
  have n121 := not_kind hk 121 (by decide)
  have n122 := not_kind hk 122 (by decide)
  have n123 := not_kind hk 123 (by decide)
  have n124 := not_kind hk 124 (by decide)
  have n125 := not_kind hk 125 (by decide)
  have n126 := not_kind hk 126 (by decide)
  have n127 := not_kind hk 127 (by decide)
  have n128 := not_kind hk 128 (by decide)
  have n129 := not_kind hk 129 (by decide)
  have n130 := not_kind hk 130 (by decide)
  have n131 := not_kind hk 131 (by decide)
  clear hk
  have hL : Calls Tryz.prog 67 #[.int .i64 k] w fun e w' => e = .returned (.string (mk [])) ∧ w = w' := by
    go_enter Tryz.func67, Tryz.ntmps67
    go_wp2
    go_ret
    exact ⟨rfl, rfl⟩
  replace hL := Lib.hid hL
  go_enter Tryz.func40, Tryz.ntmps40
  go_wp2_with (go_at_call 67; refine hL.out.mono ?_; rintro e w' ⟨rfl, rfl⟩)
  go_ret
  exact ⟨rfl, rfl⟩
set_option maxRecDepth 100000 in
set_option maxHeartbeats 6400000 in
theorem Rlate_yes (k : Int) (hk : k = 118 ∨ k = 119 ∨ k = 120 ∨ k = 121 ∨ k = 122 ∨ k = 123 ∨ k = 124 ∨ k = 125 ∨ k = 126 ∨ k = 127 ∨ k = 128 ∨ k = 129 ∨ k = 130 ∨ k = 131) (w : World) :
    Calls Tryz.prog 67 #[.int .i64 k] w fun e w' => e = .returned (.string (mk (nameK k))) ∧ w = w' := by
  rcases hk with rfl | rfl | rfl | rfl | rfl | rfl | rfl | rfl | rfl | rfl | rfl | rfl | rfl | rfl
  all_goals
    go_enter Tryz.func67, Tryz.ntmps67
    go_wp2
    go_ret
    exact ⟨rfl, rfl⟩
set_option maxRecDepth 100000 in
set_option maxHeartbeats 12800000 in
theorem RName_yes (k : Int) (hk : kindB k = true) (w : World) :
    Calls Tryz.prog 40 #[.int .i64 k] w fun e w' => e = .returned (.string (mk (nameK k))) ∧ w = w' := by
  rcases kinds hk with rfl | rfl | rfl | rfl | rfl | rfl | rfl | rfl | rfl | rfl | rfl | rfl | rfl | rfl | rfl | rfl | rfl | rfl | rfl | rfl | rfl | rfl | rfl | rfl | rfl | rfl | rfl | rfl | rfl | rfl | rfl
  all_goals clear hk
  all_goals have hL := Lib.hid (fun k hk => Rlate_yes k hk w)
  all_goals
    go_enter Tryz.func40, Tryz.ntmps40
    go_wp2_with (go_at_call 67; refine (hL.out _ (by decide)).mono ?_; rintro e w' ⟨rfl, rfl⟩)
    go_ret
    exact ⟨rfl, rfl⟩
theorem RName_any (k : Int) (w : World) :
    Calls Tryz.prog 40 #[.int .i64 k] w fun e w' => e = .returned (.string (mk (nameK k))) ∧ w = w' := by
  cases hk : kindB k
  · rw [nameK_nil.2 hk]; exact RName_no k hk w
  · exact RName_yes k hk w
/-- What the tests of a name come to. -/
theorem name_emp (k : Int) : ((mk (nameK k)).toList != []) = kindB k := by
  rw [mk_toList]
  cases hk : kindB k
  · rw [nameK_nil.2 hk]; rfl
  · have : nameK k ≠ [] := fun e => by rw [nameK_nil.1 e] at hk; cases hk
    simpa using this
end Go.Proofs.YtlfdmbfbfadifaaGreatDoor

namespace Go.Proofs.YtlfdmbfbfadifaaGreatDoor
open Go.RowKit

set_option maxHeartbeats 800000 in
theorem isTag_any (k t : Int) (w : World) :
    Calls Tryz.prog 34 #[.int .i64 k, .int .i64 t] w fun e w' => e = .returned (.bool (tagB k t)) ∧ w = w' := by
  by_cases h1 : k = 100 ∨ k = 101
  · have HR : Hid (tagB k t = (t == 65535)) := by unfold Hid tagB; rw [if_pos h1]; rfl
    rcases h1 with rfl | rfl
    all_goals
      go_enter Tryz.func34, Tryz.ntmps34
      go_wp2
      go_ret
      rw [HR.out]
      exact ⟨rfl, rfl⟩
  · have a1 : (k == 100) = false := by simp at h1 ⊢; exact h1.1
    have a2 : (k == 101) = false := by simp at h1 ⊢; exact h1.2
    by_cases h2 : k = 107
    · have HR : Hid (tagB k t = (decide (0 ≤ t) && decide (t ≤ 65535))) := by unfold Hid tagB; rw [if_neg h1, if_pos h2, Bool.decide_and]
      subst h2
      clear h1
      go_enter Tryz.func34, Tryz.ntmps34
      go_wp2
      all_goals go_ret
      all_goals (rw [HR.out]; refine ⟨retb ?_, rfl⟩; simp_all <;> try omega)
    · have HR : Hid (tagB k t = (decide (0 ≤ t) && decide (t ≤ 65534))) := by unfold Hid tagB; rw [if_neg h1, if_neg h2, Bool.decide_and]
      have a3 : (k == 107) = false := by simpa using h2
      clear h1 h2
      go_enter Tryz.func34, Tryz.ntmps34
      go_wp2
      all_goals go_ret
      all_goals (rw [HR.out]; refine ⟨retb ?_, rfl⟩; simp_all <;> try omega)

theorem retBI {a b : Bool} {x y : Int} (h : a = b) (h2 : x = y) : Ending.returned (.tuple #[.bool a, .int .i64 x]) = .returned (.tuple #[.bool b, .int .i64 y]) := by rw [h, h2]
set_option maxHeartbeats 800000 in
theorem number_any (n : Int) (g : Nat) (w : World) :
    Calls Tryz.prog 57 #[.int .i64 n, .int .i64 (g : Int)] w fun e w' => e = .returned (.tuple #[.bool (n == 0), .int .i64 (numI n g)]) ∧ w = w' := by
  have hg : (0 : Int) ≤ (g : Int) := by omega
  have hI : numI n g = if 0 ≤ n ∧ n ≤ (g : Int) then 0 else 5 := rfl
  generalize numI n g = r at hI ⊢
  generalize (g : Int) = G at *
  by_cases h0 : n < 0
  · have HS : Hid (r = 5) := by unfold Hid; rw [hI, if_neg (by omega)]
    rw [show (n == 0) = false by simp; omega]
    clear hI
    go_enter Tryz.func57, Tryz.ntmps57
    go_wp2
    go_ret2
    rw [HS.out]
    exact ⟨rfl, rfl⟩
  · by_cases h1 : G < n
    · have HS : Hid (r = 5) := by unfold Hid; rw [hI, if_neg (by omega)]
      rw [show (n == 0) = false by simp; omega]
      clear hI
      go_enter Tryz.func57, Tryz.ntmps57
      go_wp2
      go_ret2
      rw [HS.out]
      exact ⟨rfl, rfl⟩
    · have HS : Hid (r = 0) := by unfold Hid; rw [hI, if_pos (by omega)]
      clear hI
      go_enter Tryz.func57, Tryz.ntmps57
      go_wp2
      go_ret2
      rw [HS.out]
      exact ⟨rfl, rfl⟩
theorem number_lit (n : Int) (g : Nat) (gi : Int) (h : gi = (g : Int)) (w : World) :
    Calls Tryz.prog 57 #[.int .i64 n, .int .i64 gi] w fun e w' => e = .returned (.tuple #[.bool (n == 0), .int .i64 (numI n g)]) ∧ w = w' := by rw [h]; exact number_any n g w
set_option maxHeartbeats 800000 in
theorem text_any (l : List UInt8) (g : Nat) (gi : Int) (h : gi = (g : Int)) (_hl : l.length ≤ maxLen) (w : World) :
    Calls Tryz.prog 59 #[.string (mk l), .int .i64 gi] w fun e w' => e = .returned (.tuple #[.bool (l == []), .int .i64 (txtI l g)]) ∧ w = w' := by
  subst h
  have hz := mk_size l
  have he : (l == []) = ((mk l).toList == []) := by rw [mk_toList]
  have hI : txtI l g = if (mk l).size ≤ g then 0 else 4 := by rw [hz]; rfl
  generalize txtI l g = r at hI ⊢
  by_cases h1 : (g : Int) < ((mk l).size : Int)
  · have HS : Hid (r = 4) := by unfold Hid; rw [hI, if_neg (by omega)]
    rw [show (l == []) = false by
      have : l ≠ [] := fun e => by rw [hz, e] at h1; simp at h1; omega
      simpa using this]
    clear he hI
    generalize mk l = s at *
    clear hz
    go_enter Tryz.func59, Tryz.ntmps59
    go_wp2
    go_ret2
    rw [HS.out]
    exact ⟨rfl, rfl⟩
  · have HS : Hid (r = 0) := by unfold Hid; rw [hI, if_pos (by omega)]
    generalize (l == []) = z at he ⊢
    replace he := Lib.hid he
    clear hz hI
    generalize mk l = s at *
    go_enter Tryz.func59, Tryz.ntmps59
    go_wp2
    go_ret2
    rw [he.out, HS.out]
    exact ⟨retBI (by simp) rfl, rfl⟩
theorem authGreatest_any (k : Int) (w : World) :
    Calls Tryz.prog 58 #[.int .i64 k] w fun e w' => e = .returned (.int .i64 (authP k : Int)) ∧ w = w' := by
  by_cases h : k = 104
  · subst h
    go_enter Tryz.func58, Tryz.ntmps58
    go_wp2
    go_ret
    exact ⟨rfl, rfl⟩
  · have h' : (k == 104) = false := by simpa using h
    have HR : Hid (authP k = 4294967294) := if_neg h
    clear h
    go_enter Tryz.func58, Tryz.ntmps58
    go_wp2
    go_ret
    rw [HR.out]
    exact ⟨rfl, rfl⟩
theorem checkErr_any (e : Int) (w : World) :
    Calls Tryz.prog 65 #[.int .i64 e] w fun e' w' => e' = .returned (.int .i64 (errI e)) ∧ w = w' := by
  have HR : Hid (errI e = if 1 ≤ e ∧ e ≤ 59 then 0 else 5) := rfl
  generalize errI e = r at HR ⊢
  by_cases h0 : e < 1
  · have HS : Hid (r = 5) := by unfold Hid; rw [HR.out, if_neg (by omega)]
    clear HR
    go_enter Tryz.func65, Tryz.ntmps65
    go_wp2
    go_ret
    rw [HS.out]
    exact ⟨rfl, rfl⟩
  · by_cases h1 : 59 < e
    · have HS : Hid (r = 5) := by unfold Hid; rw [HR.out, if_neg (by omega)]
      clear HR
      go_enter Tryz.func65, Tryz.ntmps65
      go_wp2
      go_ret
      rw [HS.out]
      exact ⟨rfl, rfl⟩
    · have HS : Hid (r = 0) := by unfold Hid; rw [HR.out, if_pos (by omega)]
      clear HR
      go_enter Tryz.func65, Tryz.ntmps65
      go_wp2
      go_ret
      rw [HS.out]
      exact ⟨rfl, rfl⟩
theorem checkName_any (l : List UInt8) (hl : l.length ≤ maxLen) (w : World) :
    Calls Tryz.prog 63 #[.string (mk l)] w fun e w' => e = .returned (.int .i64 (if validL l then 0 else 6)) ∧ w = w' := by
  have hV := Lib.hid (ValidM l hl w)
  generalize validL l = b at *
  cases b
  all_goals
    go_enter Tryz.func63, Tryz.ntmps63
    go_wp2_with (go_at_call 84; refine hV.out.mono ?_; rintro e w' ⟨rfl, rfl⟩)
    go_ret
    exact ⟨rfl, rfl⟩

/-! ### Lists of names -/
theorem words_step {L : List (List UInt8)} {k : Nat} (hk : k < L.length) (h : ∀ j, (hj : j < L.length) → j < k → wordB L[j] = true) (he : wordB L[k] = true) : ∀ j, (hj : j < L.length) → j < k + 1 → wordB L[j] = true := fun j hj hjk => by
  by_cases e : j = k
  · subst e; exact he
  · exact h j hj (by omega)
theorem words_all {L : List (List UInt8)} (hl : L.length ≤ 16) (h : ∀ j, (hj : j < L.length) → j < L.length → wordB L[j] = true) : wordsI L = 0 := by
  unfold wordsI
  rw [if_neg (by omega), if_pos]
  rw [List.all_eq_true]
  intro x hx
  obtain ⟨j, hj, rfl⟩ := List.getElem_of_mem hx
  exact h j hj hj
theorem words_no {L : List (List UInt8)} (hl : L.length ≤ 16) {k : Nat} (hk : k < L.length) (h : wordB L[k] = false) : wordsI L = 6 := by
  unfold wordsI
  rw [if_neg (by omega), if_neg]
  rw [List.all_eq_true]
  intro ha
  rw [ha _ (List.getElem_mem hk)] at h
  cases h
set_option maxHeartbeats 1600000 in
theorem checkNames_any (v : Value) (L : List (List UInt8)) (w : World) (h : SRow w v L) (hm : ∀ l ∈ L, l.length ≤ maxLen) :
    Calls Tryz.prog 60 #[v] w fun e w' => e = .returned (.int .i64 (wordsI L)) ∧ w = w' := by
  have HS := Lib.hid h
  have HM := Lib.hid hm
  obtain ⟨p, cap, rfl, hc, hcm, _⟩ := h
  unfold maxLen at hcm
  have H0 := Lib.hid (fun hl h => words_all (L := L) hl h)
  have H1 := Lib.hid (fun hl k hk h => words_no (L := L) hl (k := k) hk h)
  have H2 : Hid (16 < L.length → wordsI L = 4) := fun h => by unfold wordsI; rw [if_pos h]
  generalize wordsI L = r at *
  clear hm
  by_cases h16 : 16 < L.length
  · have HR := Lib.hid (H2.out h16)
    clear H2
    go_enter Tryz.func60, Tryz.ntmps60
    go_wp2
    go_ret
    rw [HR.out]
    exact ⟨rfl, rfl⟩
  go_enter Tryz.func60, Tryz.ntmps60
  go_wp2
  go_loop [10] (fun vi => ∃ k : Nat, vi = .int .i64 (k : Int) ∧ k ≤ L.length ∧ Hid (∀ j, (hj : j < L.length) → j < k → wordB L[j] = true)) (fun vi => L.length - (intOf vi).toNat)
  case atStart => exact ⟨0, rfl, by omega, fun j hj hj2 => by omega⟩
  case round =>
    obtain ⟨k, rfl, hk, ha⟩ := hrel
    by_cases hlt : k < L.length
    · obtain ⟨b, o, cap', hp, hb, hcl, c0⟩ := HS.out.at_ (Below.refl _ _) hlt
      obtain ⟨rfl, rfl⟩ : p = some ⟨b, o, none⟩ ∧ cap = cap' := by injection hp with h1 h2 h3; exact ⟨h1, h3⟩
      clear hp
      have hV := Lib.hid (ValidM L[k] (HM.out _ (List.getElem_mem hlt)) w)
      have hw : wordB L[k] = (decide (L[k] = [46, 46]) || validL L[k]) := rfl
      have HA := Lib.hid (fun h => words_step hlt ha.out h)
      have HB := Lib.hid (fun h => H1.out (by omega) k hlt h)
      have ht := mk_toList L[k]
      generalize wordB L[k] = wb at *
      generalize validL L[k] = vb at *
      generalize L[k] = t at *
      by_cases h2 : t = [46, 46]
      · have hq : ((mk t).toList == [46, 46]) = true := by rw [ht, h2]; rfl
        have HA' := Lib.hid (HA.out (by rw [hw, h2]; rfl))
        clear HA HB hw ht h2 hV
        go_wp2
        exact ⟨⟨k + 1, by go_num, by omega, HA'⟩, by simp [intOf]; omega⟩
      · have hq : ((mk t).toList == [46, 46]) = false := by rw [ht]; simpa using h2
        rw [decide_eq_false h2, Bool.false_or] at hw
        subst hw
        cases wb
        · have HR := Lib.hid (HB.out rfl)
          clear HA HB ht h2
          go_wp2_with (go_at_call 84; refine hV.out.mono ?_; rintro e w' ⟨rfl, rfl⟩)
          go_ret
          rw [HR.out]
          exact ⟨rfl, rfl⟩
        · have HA' := Lib.hid (HA.out rfl)
          clear HA HB ht h2
          go_wp2_with (go_at_call 84; refine hV.out.mono ?_; rintro e w' ⟨rfl, rfl⟩)
          exact ⟨⟨k + 1, by go_num, by omega, HA'⟩, by simp [intOf]; omega⟩
    · obtain rfl : k = L.length := by omega
      have HR := Lib.hid (H0.out (by omega) (fun j hj _ => ha.out j hj hj))
      clear ha H0 H1 H2
      go_wp2
      go_ret
      rw [HR.out]
      exact ⟨rfl, rfl⟩
end Go.Proofs.YtlfdmbfbfadifaaGreatDoor

namespace Go.Proofs.YtlfdmbfbfadifaaGreatDoor
open Go.RowKit

theorem typ_small : ∀ m : Fin 256, decide (m.1 &&& 232 = m.1) = decide (m.1 % 8 = 0 ∧ m.1 / 16 % 2 = 0) := by decide +kernel
theorem typ_sum {n : Int} (hk : n ≠ -1) : sumB n 232 = typB n := by
  unfold sumB typB
  by_cases h0 : n < 0
  · rw [decide_eq_false (by omega), decide_eq_false (by omega)]
  · obtain ⟨m, rfl⟩ := Int.eq_ofNat_of_zero_le (show 0 ≤ n by omega)
    have e : ((m : Nat) : Int).toNat = m := by omega
    rw [e]
    by_cases h1 : m < 256
    · have := typ_small ⟨m, h1⟩
      simp only at this
      rw [Bool.eq_iff_iff] at this ⊢
      simp only [decide_eq_true_eq] at this ⊢
      omega
    · have h2 := Nat.and_le_right (n := m) (m := 232)
      rw [Bool.eq_iff_iff]
      simp only [decide_eq_true_eq]
      omega
theorem typ_andNot {n : Int} (hn : inI n) : (bits .andNot .i64 n 232 == 0) = typB n := by
  by_cases hk : n = -1
  · subst hk; decide +kernel
  · rw [← typ_sum hk]; exact sum_andNot (b := 232) hn (by omega) hk

def qidV (q : QQ) : Value := .agg #[.int .i64 q.t, .int .i64 q.v, .int .i64 q.p]
theorem qidI_5 {q : QQ} (h : typB q.t = false ∨ q.v < 0 ∨ 2147483647 < q.v ∨ q.p < 0 ∨ 1099511627776 < q.p) : qidI q = 5 := by
  unfold qidI qidB
  rw [if_neg]
  simp only [Bool.and_eq_true, decide_eq_true_eq]
  rintro ⟨h1, h2⟩
  rcases h with h | h
  · rw [h] at h1; cases h1
  · omega
theorem qidI_0 {q : QQ} (h : typB q.t = true) (h2 : 0 ≤ q.v ∧ q.v ≤ 2147483647 ∧ 0 ≤ q.p ∧ q.p ≤ 1099511627776) : qidI q = 0 := by
  unfold qidI qidB
  rw [if_pos]
  simp only [Bool.and_eq_true, decide_eq_true_eq]
  exact ⟨h, h2⟩
set_option maxHeartbeats 1600000 in
theorem checkQid_any (q : QQ) (hq : inI q.t) (w : World) :
    Calls Tryz.prog 62 #[qidV q] w fun e w' => e = .returned (.int .i64 (qidI q)) ∧ Below w.heap.size w w' := by
  have hB := Lib.hid (fun o => (Below.refl _ w).alloc (Nat.le_refl _) o)
  have ht := typ_andNot hq
  have H5 := Lib.hid (fun h => qidI_5 (q := q) h)
  have H0 := Lib.hid (fun h h2 => qidI_0 (q := q) h h2)
  unfold qidV
  generalize qidI q = r at *
  generalize typB q.t = b at *
  obtain ⟨t, v, p⟩ := q
  dsimp only at *
  clear hq
  cases b
  · have hr := Lib.hid (H5.out (.inl rfl))
    have ht : (bits .andNot .i64 t 232 != 0) = true := by simpa [bne] using ht
    clear H5 H0
    go_enter Tryz.func62, Tryz.ntmps62
    go_wp2
    go_ret
    rw [hr.out]
    exact ⟨rfl, hB.out _⟩
  · have ht : (bits .andNot .i64 t 232 != 0) = false := by simpa [bne] using ht
    by_cases h : v < 0 ∨ 2147483647 < v ∨ p < 0 ∨ 1099511627776 < p
    · have hr := Lib.hid (H5.out (.inr h))
      clear H5 H0
      go_enter Tryz.func62, Tryz.ntmps62
      rcases h with h | h | h | h
      · go_wp2
        go_ret
        rw [hr.out]
        exact ⟨rfl, hB.out _⟩
      · have h1 : 0 ≤ v := by omega
        go_wp2
        go_ret
        rw [hr.out]
        exact ⟨rfl, hB.out _⟩
      · go_wp2
        all_goals go_ret
        all_goals (rw [hr.out]; exact ⟨rfl, hB.out _⟩)
      · have h1 : 0 ≤ p := by omega
        go_wp2
        all_goals go_ret
        all_goals (rw [hr.out]; exact ⟨rfl, hB.out _⟩)
    · have hr := Lib.hid (H0.out rfl (by omega))
      have h1 : 0 ≤ v := by omega
      have h2 : v ≤ 2147483647 := by omega
      have h3 : 0 ≤ p := by omega
      have h4 : p ≤ 1099511627776 := by omega
      clear H5 H0 h
      go_enter Tryz.func62, Tryz.ntmps62
      go_wp2
      go_ret
      rw [hr.out]
      exact ⟨rfl, hB.out _⟩

/-! ### Lists of qids -/
theorem atQ_get {L : List QQ} {k : Nat} (h : k < L.length) : atQ L k = L[k] := by simp [atQ, h]
theorem qids_step {L : List QQ} {k : Nat} (h : ∀ j, j < k → qidB (atQ L j) = true) (he : qidB (atQ L k) = true) : ∀ j, j < k + 1 → qidB (atQ L j) = true := fun j hj => by
  by_cases e : j = k
  · subst e; exact he
  · exact h j (by omega)
theorem qids_all {L : List QQ} (hl : L.length ≤ 16) (h : ∀ j, j < L.length → qidB (atQ L j) = true) : qidsI L = 0 := by
  unfold qidsI
  rw [if_neg (by omega), if_pos]
  rw [List.all_eq_true]
  intro x hx
  obtain ⟨j, hj, rfl⟩ := List.getElem_of_mem hx
  rw [← atQ_get hj]
  exact h j hj
theorem qids_no {L : List QQ} (hl : L.length ≤ 16) {k : Nat} (hk : k < L.length) (h : qidB (atQ L k) = false) : qidsI L = 5 := by
  unfold qidsI
  rw [if_neg (by omega), if_neg]
  rw [List.all_eq_true]
  intro ha
  rw [atQ_get hk, ha _ (List.getElem_mem hk)] at h
  cases h
set_option maxRecDepth 100000 in
set_option maxHeartbeats 1600000 in
theorem checkQids_any (v : Value) (L : List QQ) (w : World) (h : QRow w v L) (hm : ∀ k, k < L.length → inI (atQ L k).t) :
    Calls Tryz.prog 61 #[v] w fun e w' => e = .returned (.int .i64 (qidsI L)) ∧ Below w.heap.size w w' := by
  have HS := Lib.hid h
  have HM := Lib.hid hm
  obtain ⟨p, cap, rfl, hc, hcm, _⟩ := h
  unfold maxLen at hcm
  have H0 := Lib.hid (fun hl h => qids_all (L := L) hl h)
  have H1 := Lib.hid (fun hl k hk h => qids_no (L := L) hl (k := k) hk h)
  have H2 : Hid (16 < L.length → qidsI L = 4) := fun h => by unfold qidsI; rw [if_pos h]
  generalize qidsI L = r at *
  clear hm
  by_cases h16 : 16 < L.length
  · have HR := Lib.hid (H2.out h16)
    clear H2
    go_enter Tryz.func61, Tryz.ntmps61
    go_wp2
    go_ret
    rw [HR.out]
    exact ⟨rfl, Below.refl _ _⟩
  go_enter Tryz.func61, Tryz.ntmps61
  go_wp2
  go_loopw [11] (fun vi wr => ∃ k : Nat, vi = .int .i64 (k : Int) ∧ k ≤ L.length ∧ Hid (Below w.heap.size w wr) ∧ Hid (∀ j, j < k → qidB (atQ L j) = true)) (fun vi _ => L.length - (intOf vi).toNat)
  case atStart => exact ⟨0, rfl, by omega, Below.refl _ _, fun j hj => by omega⟩
  case round =>
    obtain ⟨k, rfl, hk, HB, ha⟩ := hrel
    by_cases hlt : k < L.length
    · obtain ⟨b, o, cap', q, hq, hp, hb, hcl, c0, c1, c2⟩ := HS.out.at_ HB.out hlt
      obtain ⟨rfl, rfl⟩ : p = some ⟨b, o, none⟩ ∧ cap = cap' := by injection hp with h1 h2 h3; exact ⟨h1, h3⟩
      clear hp
      have hV := fun W => checkQid_any (atQ L k) (HM.out k hlt) W
      have hw : qidI (atQ L k) = if qidB (atQ L k) = true then 0 else 5 := rfl
      have HA := Lib.hid (fun h => qids_step (k := k) ha.out h)
      have HN := Lib.hid (fun h => H1.out (by omega) k hlt h)
      rw [hq] at hV hw HA HN
      rw [hw] at hV
      unfold qidV at hV
      replace hV := Lib.hid hV
      generalize qidB q = wb at *
      obtain ⟨qt, qv, qp⟩ := q
      dsimp only at c0 c1 c2 hV
      clear hw hq
      have hx : Below w.heap.size w (wr.alloc (.cells #[.int .i64 qt, .int .i64 qv, .int .i64 qp] 25)) := HB.out.alloc HB.out.size _
      replace hx := Lib.hid hx
      cases wb
      · have HR := Lib.hid (HN.out rfl)
        clear HA HN
        go_wp2_with fail
        refine (hV.out _).mono ?_
        rintro e w2 ⟨rfl, hB2⟩
        go_wp2
        go_ret
        rw [HR.out]
        exact ⟨rfl, hx.out.trans (hB2.mono hx.out.size)⟩
      · have HA' := Lib.hid (HA.out rfl)
        clear HA HN
        go_wp2_with fail
        refine (hV.out _).mono ?_
        rintro e w2 ⟨rfl, hB2⟩
        go_wp2
        exact ⟨⟨k + 1, by go_num, by omega, hx.out.trans (hB2.mono hx.out.size), HA'⟩, by simp [intOf]; omega⟩
    · obtain rfl : k = L.length := by omega
      have HR := Lib.hid (H0.out (by omega) ha.out)
      clear ha H0 H1 H2
      go_wp2
      go_ret
      rw [HR.out]
      exact ⟨rfl, HB.out⟩

/-! ### Lists of fields -/
def intV (n : Nat) : Value := .int .i64 (n : Int)
/-- The slice v holds the fields L, in a block that lies below the world's size. -/
def FRow (w : World) (v : Value) (L : List Nat) : Prop :=
  ∃ p, v = .slice p L.length L.length ∧ L.length ≤ 4 ∧ (L ≠ [] → ∃ b, p = some ⟨b, 0, none⟩ ∧ b < w.heap.size ∧ ∀ j, j < L.length → w.cell? ⟨b, j, none⟩ = some (.int .i64 (L.getD j 0 : Int)))
theorem FRow.below {w w' : World} {v : Value} {L : List Nat} (h : FRow w v L) (hB : Below w.heap.size w w') : FRow w' v L := by
  obtain ⟨p, rfl, hl, h⟩ := h
  refine ⟨p, rfl, hl, fun hL => ?_⟩
  obtain ⟨b, rfl, hb, hcell⟩ := h hL
  exact ⟨b, rfl, Nat.lt_of_lt_of_le hb hB.size, fun j hj => by rw [hB.cell (p := ⟨b, j, none⟩) hb]; exact hcell j hj⟩
theorem FRow.at_ {w wr : World} {v : Value} {L : List Nat} (h : FRow w v L) (hB : Below w.heap.size w wr) {k : Nat} (hk : k < L.length) :
    ∃ b, v = .slice (some ⟨b, 0, none⟩) L.length L.length ∧ b < w.heap.size ∧ wr.cell? ⟨b, k, none⟩ = some (.int .i64 (L.getD k 0 : Int)) := by
  obtain ⟨p, rfl, hl, h⟩ := h
  obtain ⟨b, rfl, hb, hcell⟩ := h (by rintro rfl; simp at hk)
  exact ⟨b, rfl, hb, (hB.cell (p := ⟨b, k, none⟩) hb).trans (hcell k hk)⟩
theorem FRow.new (w : World) (L : List Nat) (hl : L.length ≤ 4) (t : TypeId) (n : Nat) (hn : n = L.length) : FRow (w.alloc (.cells (L.map intV).toArray t)) (.slice (some ⟨w.heap.size, 0, none⟩) n n) L := by
  subst hn
  refine ⟨_, rfl, hl, fun _ => ⟨_, rfl, by simp, fun j hj => ?_⟩⟩
  have := Joins.cell_of_block (heap_alloc_new w (.cells (L.map intV).toArray t)) j
  rw [this]
  simp [hj, intV, List.getD]
theorem FRow.nil_ (w : World) : FRow w (.slice none 0 0) [] := ⟨none, rfl, Nat.zero_le _, fun h => absurd rfl h⟩

set_option maxRecDepth 100000 in
set_option maxHeartbeats 12800000 in
theorem fieldsOf_any (k : Int) (hk : kindB k = true) (w : World) :
    Calls Tryz.prog 35 #[.int .i64 k] w fun e w' => ∃ v, e = .returned v ∧ FRow w' v (fieldsL k) ∧ Below w.heap.size w w' := by
  rcases kinds hk with rfl | rfl | rfl | rfl | rfl | rfl | rfl | rfl | rfl | rfl | rfl | rfl | rfl | rfl | rfl | rfl | rfl | rfl | rfl | rfl | rfl | rfl | rfl | rfl | rfl | rfl | rfl | rfl | rfl | rfl | rfl
  all_goals clear hk
  all_goals have hB := Lib.hid (fun o => (Below.refl _ w).alloc (Nat.le_refl _) o)
  all_goals have hF := Lib.hid (fun L hl t n hn => FRow.new w L hl t n hn)
  all_goals
    go_enter Tryz.func35, Tryz.ntmps35
    go_wp2
    go_ret
    first
      | exact ⟨_, rfl, FRow.nil_ _, Below.refl _ _⟩
      | exact ⟨_, rfl, hF.out (fieldsN _) (by decide) _ _ rfl, hB.out _⟩

theorem idx_go {M : List Nat} {x k : Nat} (h : ∀ j, j < k → M.getD j 0 ≠ x) (he : M.getD k 0 ≠ x) : ∀ j, j < k + 1 → M.getD j 0 ≠ x := fun j hj => by
  by_cases e : j = k
  · subst e; exact he
  · exact h j (by omega)
theorem idx_get {M : List Nat} {k : Nat} (hk : k < M.length) : M.getD k 0 = M[k] := by simp [List.getD, hk]
theorem idx_hit {M : List Nat} {x k : Nat} (hk : k < M.length) (he : M.getD k 0 = x) : M.contains x = true := by
  rw [List.contains_iff_mem, ← he, idx_get hk]; exact List.getElem_mem _
theorem idx_end {M : List Nat} {x : Nat} (h : ∀ j, j < M.length → M.getD j 0 ≠ x) : M.contains x = false := by
  rw [Bool.eq_false_iff]
  intro hc
  rw [List.contains_iff_mem] at hc
  obtain ⟨j, hj, e⟩ := List.getElem_of_mem hc
  exact h j hj (by rw [idx_get hj]; exact e)
def IdxOk (M : List Nat) (x : Nat) (i : Int) : Prop := decide (0 ≤ i) = M.contains x
set_option maxHeartbeats 1600000 in
theorem Index_any (v : Value) (M : List Nat) (x : Nat) (w : World) (h : FRow w v M) :
    Calls Tryz.prog 83 #[v, .int .i64 (x : Int)] w fun e w' => ∃ i : Int, e = .returned (.int .i64 i) ∧ IdxOk M x i ∧ w = w' := by
  have HS := Lib.hid h
  obtain ⟨p, rfl, hl, _⟩ := h
  go_enter Tryz.func83, Tryz.ntmps83
  go_wp2
  go_loop [8] (fun vi => ∃ k : Nat, vi = .int .i64 (k : Int) ∧ k ≤ M.length ∧ Hid (∀ j, j < k → M.getD j 0 ≠ x)) (fun vi => M.length - (intOf vi).toNat)
  case atStart => exact ⟨0, rfl, by omega, fun j hj => by omega⟩
  case round =>
    obtain ⟨k, rfl, hk, ha⟩ := hrel
    by_cases hlt : k < M.length
    · obtain ⟨b, hp, hb, c0⟩ := HS.out.at_ (Below.refl _ _) hlt
      obtain rfl : p = some ⟨b, 0, none⟩ := by injection hp with h1 h2 h3
      clear hp
      by_cases hn : M.getD k 0 = x
      · have hq : ((x : Int) == ((M.getD k 0 : Nat) : Int)) = true := by rw [hn]; simp
        have HA := Lib.hid (idx_hit hlt hn)
        clear hn
        generalize M.getD k 0 = t at c0 hq
        go_wp2
        go_ret
        exact ⟨_, rfl, by unfold IdxOk; rw [HA.out]; simp, rfl⟩
      · have hq : ((x : Int) == ((M.getD k 0 : Nat) : Int)) = false := by rw [beq_eq_false_iff_ne]; intro e; exact hn (by omega)
        have HA := Lib.hid (idx_go ha.out hn)
        clear hn
        generalize M.getD k 0 = t at c0 hq
        go_wp2
        exact ⟨⟨k + 1, by go_num, by omega, HA⟩, by simp [intOf]; omega⟩
    · have hkn : k = M.length := by omega
      have HA := Lib.hid (idx_end (by rw [← hkn]; exact ha.out))
      clear hkn
      go_wp2
      go_ret
      exact ⟨_, rfl, by unfold IdxOk; rw [HA.out]; rfl, rfl⟩
theorem Contains_any (v : Value) (M : List Nat) (x : Nat) (w : World) (h : FRow w v M) :
    Calls Tryz.prog 56 #[v, .int .i64 (x : Int)] w fun e w' => e = .returned (.bool (M.contains x)) ∧ w = w' := by
  have I := Lib.hid (Index_any v M x w h)
  have HX : Hid (∀ i, IdxOk M x i → decide (0 ≤ i) = M.contains x) := fun i h => h
  generalize IdxOk M x = Ok at *
  generalize M.contains x = r at *
  clear h
  go_enter Tryz.func56, Tryz.ntmps56
  go_wp2_with fail
  refine I.out.mono ?_
  rintro e w' ⟨i, rfl, hi, rfl⟩
  replace hi := Lib.hid (HX.out i hi)
  go_wp2
  go_ret
  exact ⟨retb hi.out, rfl⟩
end Go.Proofs.YtlfdmbfbfadifaaGreatDoor
