/-
  Walks of package msg: qids; lists of fields.
-/
import Derived.Test.YtlfdmbfbfadifaaDoorWi
namespace Go.Proofs.YtlfdmbfbfadifaaDoor
open Go.RowKit

theorem typ_small : ∀ m : Fin 256, decide (m.1 &&& 232 = m.1) = decide (m.1 % 8 = 0 ∧ m.1 / 16 % 2 = 0) := by decide +kernel
theorem typ_sum {n : Int} (hk : n ≠ -1) : sumB n 232 = typB n := by
  unfold sumB typB
  by_cases h0 : n < 0
  · rw [decide_eq_false (by omega), decide_eq_false (by omega)]
  · obtain ⟨m, rfl⟩ := Int.eq_ofNat_of_zero_le (show 0 ≤ n by omega)
    have e : ((m : Nat) : Int).toNat = m := by omega
    rw [e]
    by_cases h1 : m < 256
    · have := typ_small ⟨m, h1⟩
      simp only at this
      rw [Bool.eq_iff_iff] at this ⊢
      simp only [decide_eq_true_eq] at this ⊢
      omega
    · have h2 := Nat.and_le_right (n := m) (m := 232)
      rw [Bool.eq_iff_iff]
      simp only [decide_eq_true_eq]
      omega
theorem typ_andNot {n : Int} (hn : inI n) : (bits .andNot .i64 n 232 == 0) = typB n := by
  by_cases hk : n = -1
  · subst hk; decide +kernel
  · rw [← typ_sum hk]; exact sum_andNot (b := 232) hn (by omega) hk

def qidV (q : QQ) : Value := .agg #[.int .i64 q.t, .int .i64 q.v, .int .i64 q.p]
theorem qidI_5 {q : QQ} (h : typB q.t = false ∨ q.v < 0 ∨ 2147483647 < q.v ∨ q.p < 0 ∨ 1099511627776 < q.p) : qidI q = 5 := by
  unfold qidI qidB
  rw [if_neg]
  simp only [Bool.and_eq_true, decide_eq_true_eq]
  rintro ⟨h1, h2⟩
  rcases h with h | h
  · rw [h] at h1; cases h1
  · omega
theorem qidI_0 {q : QQ} (h : typB q.t = true) (h2 : 0 ≤ q.v ∧ q.v ≤ 2147483647 ∧ 0 ≤ q.p ∧ q.p ≤ 1099511627776) : qidI q = 0 := by
  unfold qidI qidB
  rw [if_pos]
  simp only [Bool.and_eq_true, decide_eq_true_eq]
  exact ⟨h, h2⟩
set_option maxHeartbeats 1600000 in
theorem checkQid_any (q : QQ) (hq : inI q.t) (w : World) :
    Calls Tryd.prog 65 #[qidV q] w fun e w' => e = .returned (.int .i64 (qidI q)) ∧ Below w.heap.size w w' := by
  have hB := Lib.hid (fun o => (Below.refl _ w).alloc (Nat.le_refl _) o)
  have ht := typ_andNot hq
  have H5 := Lib.hid (fun h => qidI_5 (q := q) h)
  have H0 := Lib.hid (fun h h2 => qidI_0 (q := q) h h2)
  unfold qidV
  generalize qidI q = r at *
  generalize typB q.t = b at *
  obtain ⟨t, v, p⟩ := q
  dsimp only at *
  clear hq
  cases b
  · have hr := Lib.hid (H5.out (.inl rfl))
    have ht : (bits .andNot .i64 t 232 != 0) = true := by simpa [bne] using ht
    clear H5 H0
    go_enter Tryd.func65, Tryd.ntmps65
    go_wp2
    go_ret
    rw [hr.out]
    exact ⟨rfl, hB.out _⟩
  · have ht : (bits .andNot .i64 t 232 != 0) = false := by simpa [bne] using ht
    by_cases h : v < 0 ∨ 2147483647 < v ∨ p < 0 ∨ 1099511627776 < p
    · have hr := Lib.hid (H5.out (.inr h))
      clear H5 H0
      go_enter Tryd.func65, Tryd.ntmps65
      rcases h with h | h | h | h
      · go_wp2
        go_ret
        rw [hr.out]
        exact ⟨rfl, hB.out _⟩
      · have h1 : 0 ≤ v := by omega
        go_wp2
        go_ret
        rw [hr.out]
        exact ⟨rfl, hB.out _⟩
      · go_wp2
        all_goals go_ret
        all_goals (rw [hr.out]; exact ⟨rfl, hB.out _⟩)
      · have h1 : 0 ≤ p := by omega
        go_wp2
        all_goals go_ret
        all_goals (rw [hr.out]; exact ⟨rfl, hB.out _⟩)
    · have hr := Lib.hid (H0.out rfl (by omega))
      have h1 : 0 ≤ v := by omega
      have h2 : v ≤ 2147483647 := by omega
      have h3 : 0 ≤ p := by omega
      have h4 : p ≤ 1099511627776 := by omega
      clear H5 H0 h
      go_enter Tryd.func65, Tryd.ntmps65
      go_wp2
      go_ret
      rw [hr.out]
      exact ⟨rfl, hB.out _⟩

/-! ### Lists of qids -/
theorem atQ_get {L : List QQ} {k : Nat} (h : k < L.length) : atQ L k = L[k] := by simp [atQ, h]
theorem qids_step {L : List QQ} {k : Nat} (h : ∀ j, j < k → qidB (atQ L j) = true) (he : qidB (atQ L k) = true) : ∀ j, j < k + 1 → qidB (atQ L j) = true := fun j hj => by
  by_cases e : j = k
  · subst e; exact he
  · exact h j (by omega)
theorem qids_all {L : List QQ} (hl : L.length ≤ 16) (h : ∀ j, j < L.length → qidB (atQ L j) = true) : qidsI L = 0 := by
  unfold qidsI
  rw [if_neg (by omega), if_pos]
  rw [List.all_eq_true]
  intro x hx
  obtain ⟨j, hj, rfl⟩ := List.getElem_of_mem hx
  rw [← atQ_get hj]
  exact h j hj
theorem qids_no {L : List QQ} (hl : L.length ≤ 16) {k : Nat} (hk : k < L.length) (h : qidB (atQ L k) = false) : qidsI L = 5 := by
  unfold qidsI
  rw [if_neg (by omega), if_neg]
  rw [List.all_eq_true]
  intro ha
  rw [atQ_get hk, ha _ (List.getElem_mem hk)] at h
  cases h
set_option maxRecDepth 100000 in
set_option maxHeartbeats 1600000 in
theorem checkQids_any (v : Value) (L : List QQ) (w : World) (h : QRow w v L) (hm : ∀ k, k < L.length → inI (atQ L k).t) :
    Calls Tryd.prog 64 #[v] w fun e w' => e = .returned (.int .i64 (qidsI L)) ∧ Below w.heap.size w w' := by
  have HS := Lib.hid h
  have HM := Lib.hid hm
  obtain ⟨p, cap, rfl, hc, hcm, _⟩ := h
  unfold maxLen at hcm
  have H0 := Lib.hid (fun hl h => qids_all (L := L) hl h)
  have H1 := Lib.hid (fun hl k hk h => qids_no (L := L) hl (k := k) hk h)
  have H2 : Hid (16 < L.length → qidsI L = 4) := fun h => by unfold qidsI; rw [if_pos h]
  generalize qidsI L = r at *
  clear hm
  by_cases h16 : 16 < L.length
  · have HR := Lib.hid (H2.out h16)
    clear H2
    go_enter Tryd.func64, Tryd.ntmps64
    go_wp2
    go_ret
    rw [HR.out]
    exact ⟨rfl, Below.refl _ _⟩
  go_enter Tryd.func64, Tryd.ntmps64
  go_wp2
  go_loopw [11] (fun vi wr => ∃ k : Nat, vi = .int .i64 (k : Int) ∧ k ≤ L.length ∧ Hid (Below w.heap.size w wr) ∧ Hid (∀ j, j < k → qidB (atQ L j) = true)) (fun vi _ => L.length - (intOf vi).toNat)
  case atStart => exact ⟨0, rfl, by omega, Below.refl _ _, fun j hj => by omega⟩
  case round =>
    obtain ⟨k, rfl, hk, HB, ha⟩ := hrel
    by_cases hlt : k < L.length
    · obtain ⟨b, o, cap', q, hq, hp, hb, hcl, c0, c1, c2⟩ := HS.out.at_ HB.out hlt
      obtain ⟨rfl, rfl⟩ : p = some ⟨b, o, none⟩ ∧ cap = cap' := by injection hp with h1 h2 h3; exact ⟨h1, h3⟩
      clear hp
      have hV := fun W => checkQid_any (atQ L k) (HM.out k hlt) W
      have hw : qidI (atQ L k) = if qidB (atQ L k) = true then 0 else 5 := rfl
      have HA := Lib.hid (fun h => qids_step (k := k) ha.out h)
      have HN := Lib.hid (fun h => H1.out (by omega) k hlt h)
      rw [hq] at hV hw HA HN
      rw [hw] at hV
      unfold qidV at hV
      replace hV := Lib.hid hV
      generalize qidB q = wb at *
      obtain ⟨qt, qv, qp⟩ := q
      dsimp only at c0 c1 c2 hV
      clear hw hq
      have hx : Below w.heap.size w (wr.alloc (.cells #[.int .i64 qt, .int .i64 qv, .int .i64 qp] 30)) := HB.out.alloc HB.out.size _
      replace hx := Lib.hid hx
      cases wb
      · have HR := Lib.hid (HN.out rfl)
        clear HA HN
        go_wp2_with fail
        refine (hV.out _).mono ?_
        rintro e w2 ⟨rfl, hB2⟩
        go_wp2
        go_ret
        rw [HR.out]
        exact ⟨rfl, hx.out.trans (hB2.mono hx.out.size)⟩
      · have HA' := Lib.hid (HA.out rfl)
        clear HA HN
        go_wp2_with fail
        refine (hV.out _).mono ?_
        rintro e w2 ⟨rfl, hB2⟩
        go_wp2
        exact ⟨⟨k + 1, by go_num, by omega, hx.out.trans (hB2.mono hx.out.size), HA'⟩, by simp [intOf]; omega⟩
    · obtain rfl : k = L.length := by omega
      have HR := Lib.hid (H0.out (by omega) ha.out)
      clear ha H0 H1 H2
      go_wp2
      go_ret
      rw [HR.out]
      exact ⟨rfl, HB.out⟩

/-! ### Lists of fields -/
def intV (n : Nat) : Value := .int .i64 (n : Int)
/-- The slice v holds the fields L, in a block that lies below the world's size. -/
def FRow (w : World) (v : Value) (L : List Nat) : Prop :=
  ∃ p, v = .slice p L.length L.length ∧ L.length ≤ 4 ∧ (L ≠ [] → ∃ b, p = some ⟨b, 0, none⟩ ∧ b < w.heap.size ∧ ∀ j, j < L.length → w.cell? ⟨b, j, none⟩ = some (.int .i64 (L.getD j 0 : Int)))
theorem FRow.below {w w' : World} {v : Value} {L : List Nat} (h : FRow w v L) (hB : Below w.heap.size w w') : FRow w' v L := by
  obtain ⟨p, rfl, hl, h⟩ := h
  refine ⟨p, rfl, hl, fun hL => ?_⟩
  obtain ⟨b, rfl, hb, hcell⟩ := h hL
  exact ⟨b, rfl, Nat.lt_of_lt_of_le hb hB.size, fun j hj => by rw [hB.cell (p := ⟨b, j, none⟩) hb]; exact hcell j hj⟩
theorem FRow.at_ {w wr : World} {v : Value} {L : List Nat} (h : FRow w v L) (hB : Below w.heap.size w wr) {k : Nat} (hk : k < L.length) :
    ∃ b, v = .slice (some ⟨b, 0, none⟩) L.length L.length ∧ b < w.heap.size ∧ wr.cell? ⟨b, k, none⟩ = some (.int .i64 (L.getD k 0 : Int)) := by
  obtain ⟨p, rfl, hl, h⟩ := h
  obtain ⟨b, rfl, hb, hcell⟩ := h (by rintro rfl; simp at hk)
  exact ⟨b, rfl, hb, (hB.cell (p := ⟨b, k, none⟩) hb).trans (hcell k hk)⟩
theorem FRow.new (w : World) (L : List Nat) (hl : L.length ≤ 4) (t : TypeId) (n : Nat) (hn : n = L.length) : FRow (w.alloc (.cells (L.map intV).toArray t)) (.slice (some ⟨w.heap.size, 0, none⟩) n n) L := by
  subst hn
  refine ⟨_, rfl, hl, fun _ => ⟨_, rfl, by simp, fun j hj => ?_⟩⟩
  have := Joins.cell_of_block (heap_alloc_new w (.cells (L.map intV).toArray t)) j
  rw [this]
  simp [hj, intV, List.getD]
theorem FRow.nil_ (w : World) : FRow w (.slice none 0 0) [] := ⟨none, rfl, Nat.zero_le _, fun h => absurd rfl h⟩

set_option maxRecDepth 100000 in
set_option maxHeartbeats 12800000 in
theorem fieldsOf_any (k : Int) (hk : kindB k = true) (w : World) :
    Calls Tryd.prog 40 #[.int .i64 k] w fun e w' => ∃ v, e = .returned v ∧ FRow w' v (fieldsL k) ∧ Below w.heap.size w w' := by
  rcases kinds hk with rfl | rfl | rfl | rfl | rfl | rfl | rfl | rfl | rfl | rfl | rfl | rfl | rfl | rfl | rfl | rfl | rfl | rfl | rfl | rfl | rfl | rfl | rfl | rfl | rfl | rfl | rfl | rfl | rfl | rfl | rfl
  all_goals clear hk
  all_goals have hB := Lib.hid (fun o => (Below.refl _ w).alloc (Nat.le_refl _) o)
  all_goals have hF := Lib.hid (fun L hl t n hn => FRow.new w L hl t n hn)
  all_goals
    go_enter Tryd.func40, Tryd.ntmps40
    go_wp2
    go_ret
    first
      | exact ⟨_, rfl, FRow.nil_ _, Below.refl _ _⟩
      | exact ⟨_, rfl, hF.out (fieldsN _) (by decide) _ _ rfl, hB.out _⟩

theorem idx_go {M : List Nat} {x k : Nat} (h : ∀ j, j < k → M.getD j 0 ≠ x) (he : M.getD k 0 ≠ x) : ∀ j, j < k + 1 → M.getD j 0 ≠ x := fun j hj => by
  by_cases e : j = k
  · subst e; exact he
  · exact h j (by omega)
theorem idx_get {M : List Nat} {k : Nat} (hk : k < M.length) : M.getD k 0 = M[k] := by simp [List.getD, hk]
theorem idx_hit {M : List Nat} {x k : Nat} (hk : k < M.length) (he : M.getD k 0 = x) : M.contains x = true := by
  rw [List.contains_iff_mem, ← he, idx_get hk]; exact List.getElem_mem _
theorem idx_end {M : List Nat} {x : Nat} (h : ∀ j, j < M.length → M.getD j 0 ≠ x) : M.contains x = false := by
  rw [Bool.eq_false_iff]
  intro hc
  rw [List.contains_iff_mem] at hc
  obtain ⟨j, hj, e⟩ := List.getElem_of_mem hc
  exact h j hj (by rw [idx_get hj]; exact e)
def IdxOk (M : List Nat) (x : Nat) (i : Int) : Prop := decide (0 ≤ i) = M.contains x
set_option maxHeartbeats 1600000 in
theorem Index_any (v : Value) (M : List Nat) (x : Nat) (w : World) (h : FRow w v M) :
    Calls Tryd.prog 79 #[v, .int .i64 (x : Int)] w fun e w' => ∃ i : Int, e = .returned (.int .i64 i) ∧ IdxOk M x i ∧ w = w' := by
  have HS := Lib.hid h
  obtain ⟨p, rfl, hl, _⟩ := h
  go_enter Tryd.func79, Tryd.ntmps79
  go_wp2
  go_loop [8] (fun vi => ∃ k : Nat, vi = .int .i64 (k : Int) ∧ k ≤ M.length ∧ Hid (∀ j, j < k → M.getD j 0 ≠ x)) (fun vi => M.length - (intOf vi).toNat)
  case atStart => exact ⟨0, rfl, by omega, fun j hj => by omega⟩
  case round =>
    obtain ⟨k, rfl, hk, ha⟩ := hrel
    by_cases hlt : k < M.length
    · obtain ⟨b, hp, hb, c0⟩ := HS.out.at_ (Below.refl _ _) hlt
      obtain rfl : p = some ⟨b, 0, none⟩ := by injection hp with h1 h2 h3
      clear hp
      by_cases hn : M.getD k 0 = x
      · have hq : ((x : Int) == ((M.getD k 0 : Nat) : Int)) = true := by rw [hn]; simp
        have HA := Lib.hid (idx_hit hlt hn)
        clear hn
        generalize M.getD k 0 = t at c0 hq
        go_wp2
        go_ret
        exact ⟨_, rfl, by unfold IdxOk; rw [HA.out]; simp, rfl⟩
      · have hq : ((x : Int) == ((M.getD k 0 : Nat) : Int)) = false := by rw [beq_eq_false_iff_ne]; intro e; exact hn (by omega)
        have HA := Lib.hid (idx_go ha.out hn)
        clear hn
        generalize M.getD k 0 = t at c0 hq
        go_wp2
        exact ⟨⟨k + 1, by go_num, by omega, HA⟩, by simp [intOf]; omega⟩
    · have hkn : k = M.length := by omega
      have HA := Lib.hid (idx_end (by rw [← hkn]; exact ha.out))
      clear hkn
      go_wp2
      go_ret
      exact ⟨_, rfl, by unfold IdxOk; rw [HA.out]; rfl, rfl⟩
theorem Contains_any (v : Value) (M : List Nat) (x : Nat) (w : World) (h : FRow w v M) :
    Calls Tryd.prog 59 #[v, .int .i64 (x : Int)] w fun e w' => e = .returned (.bool (M.contains x)) ∧ w = w' := by
  have I := Lib.hid (Index_any v M x w h)
  have HX : Hid (∀ i, IdxOk M x i → decide (0 ≤ i) = M.contains x) := fun i h => h
  generalize IdxOk M x = Ok at *
  generalize M.contains x = r at *
  clear h
  go_enter Tryd.func59, Tryd.ntmps59
  go_wp2_with fail
  refine I.out.mono ?_
  rintro e w' ⟨i, rfl, hi, rfl⟩
  replace hi := Lib.hid (HX.out i hi)
  go_wp2
  go_ret
  exact ⟨retb hi.out, rfl⟩
end Go.Proofs.YtlfdmbfbfadifaaDoor
