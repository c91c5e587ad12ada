/-
  Lists of users of the call's own; the reference's Parse.
-/
import Derived.Test.YtadnkbhigcegmaaDoorUp
namespace Go.Proofs.YtadnkbhigcegmaaDoor
open Go.RowKit

/-- v is a slice of the call's own that holds the users acc. -/
def UOwn (B : Nat) (w : World) (v : Value) (acc : List U) : Prop :=
  ∃ xs : List Value, w.ownsRow B 32 3 v acc.length xs ∧ ∀ k, k < acc.length → ∃ mv, xs[k * 3]? = some (.string (mk (getL acc k).n)) ∧ xs[k * 3 + 1]? = some (.string (mk (getL acc k).l)) ∧ xs[k * 3 + 2]? = some mv ∧ SRowT B w mv (getL acc k).m
theorem UOwn.nil_ (B : Nat) (w : World) : UOwn B w (.slice none 0 0) [] := ⟨[], World.ownsRow_nil _ _ _ _, fun k hk => by simp at hk⟩
theorem UOwn.row {B : Nat} {w : World} {v : Value} {acc : List U} (h : UOwn B w v acc) : URow w v acc := by
  obtain ⟨xs, hown, hk⟩ := h
  have hown' := hown
  obtain ⟨h1, h2⟩ := hown
  rcases h2 with ⟨rfl, hx⟩ | ⟨g, cap, cur, rfl, hb, hg, hnc, hcm, rest⟩
  · have : acc = [] := List.eq_nil_of_length_eq_zero hx
    subst this
    exact URow.nil_ w
  · refine ⟨some ⟨g, 0, none⟩, cap, rfl, hnc, hcm, fun _ => ⟨g, 0, rfl, (Array.getElem?_eq_some_iff.1 hg).1, fun k hkl => ?_⟩⟩
    obtain ⟨mv, c0, c1, c2, hs⟩ := hk k hkl
    have key : ∀ j u, xs[j]? = some u → w.cell? ⟨g, 0 + j, none⟩ = some u := fun j u hj => by
      have := World.ownsRow.cells (w := w) hown' rfl j u hj
      rw [add_at] at this
      exact this
    exact ⟨mv, key _ _ c0, key _ _ c1, key _ _ c2, hs.row⟩
theorem grown_str {w w1 : World} {B n : Nat} {v : Value} {xs : List Value} {o : Obj} (hown : w.ownsRow B 32 3 v n xs) (hg : (w.alloc o).grownBy w1 v.ownBlock) (b : Nat) (cs : Array Value) (fz : Nat × Nat)
    (hb : w.heap[b]? = some (.cells cs 9 fz)) : w1.heap[b]? = w.heap[b]? := by
  have hlt := (Array.getElem?_eq_some_iff.1 hb).1
  rw [hg.block b (by simp; omega) ?_, Below.heap_alloc w o b hlt]
  intro e
  rcases hown.2 with ⟨rfl, _⟩ | ⟨g, cap, cur, rfl, _, hgg, _⟩
  · simp [Value.ownBlock] at e
  · have e' : b = g := by simpa [Value.ownBlock] using e
    subst e'
    rw [hgg] at hb
    injection hb with hb
    injection hb with _ hb
    exact absurd hb (by decide)
theorem getL_app_left {A : List U} {u : U} {k : Nat} (h : k < A.length) : getL (A ++ [u]) k = getL A k := by
  rw [getL_get (by simp; omega), getL_get h, List.getElem_append_left h]
theorem getL_app_right (A : List U) (u : U) : getL (A ++ [u]) A.length = u := by
  rw [getL_get (by simp), List.getElem_append_right (Nat.le_refl _)]; simp
theorem UOwn.more {B : Nat} {w w1 : World} {v v' : Value} {acc : List U} {u : U} {xs : List Value} {mv : Value} {o : Obj} (hown : w.ownsRow B 32 3 v acc.length xs)
    (hk : ∀ k, k < acc.length → ∃ mv, xs[k * 3]? = some (.string (mk (getL acc k).n)) ∧ xs[k * 3 + 1]? = some (.string (mk (getL acc k).l)) ∧ xs[k * 3 + 2]? = some mv ∧ SRowT B w mv (getL acc k).m)
    (hs : SRowT B w mv u.m) (hg : (w.alloc o).grownBy w1 v.ownBlock) (hown' : w1.ownsRow B 32 3 v' (acc.length + 1) (xs ++ [.string (mk u.n), .string (mk u.l), mv])) : UOwn B w1 v' (acc ++ [u]) := by
  have hxl := hown.1
  refine ⟨_, by rw [List.length_append]; exact hown', fun k hkl => ?_⟩
  have hst := grown_str hown hg
  by_cases h : k < acc.length
  · obtain ⟨mv', c0, c1, c2, hs'⟩ := hk k h
    rw [getL_app_left h]
    refine ⟨mv', ?_, ?_, ?_, hs'.kept fun b cs fz _ hb => hst b cs fz hb⟩
    · rw [List.getElem?_append_left (by omega)]; exact c0
    · rw [List.getElem?_append_left (by omega)]; exact c1
    · rw [List.getElem?_append_left (by omega)]; exact c2
  · simp at hkl
    obtain rfl : k = acc.length := by omega
    rw [getL_app_right]
    refine ⟨mv, ?_, ?_, ?_, hs.kept fun b cs fz _ hb => hst b cs fz hb⟩
    · rw [List.getElem?_append_right (by omega), show acc.length * 3 - xs.length = 0 by omega]; rfl
    · rw [List.getElem?_append_right (by omega), show acc.length * 3 + 1 - xs.length = 1 by omega]; rfl
    · rw [List.getElem?_append_right (by omega), show acc.length * 3 + 2 - xs.length = 2 by omega]; rfl
theorem UOwn.below {B : Nat} {w w' : World} {v : Value} {acc : List U} (h : UOwn B w v acc) (hB : Below w.heap.size w w') : UOwn B w' v acc := by
  obtain ⟨xs, hown, hk⟩ := h
  refine ⟨xs, hown.kept (row := none) ⟨hB.os, hB.tape, hB.output, hB.size, fun k hk _ => hB.block k hk⟩ (by cases v.ownBlock <;> simp), fun k hkl => ?_⟩
  obtain ⟨mv, c0, c1, c2, hs⟩ := hk k hkl
  exact ⟨mv, c0, c1, c2, hs.below hB⟩
theorem info_user : (Tryd.prog.info? 32).map (fun i => (i.zero, i.size, i.bytes)) = some (some (.agg #[.string ⟨#[]⟩, .string ⟨#[]⟩, .slice none 0 0]), 3, 56) := by kernel_rfl

/-! the bounds -/
def BigU (N : Nat) (u : U) : Prop := u.n.length ≤ N ∧ u.l.length ≤ N ∧ u.m.length ≤ N + 1 ∧ ∀ j, (u.m.getD j []).length ≤ N
theorem BigU.zero (N : Nat) : BigU N U0 := ⟨Nat.zero_le _, Nat.zero_le _, Nat.zero_le _, fun j => by simp [U0]⟩
theorem lineL_big {t : List UInt8} {u : U} (h : lineL t = some u) : BigU t.length u := by
  by_cases h3 : (pieces 58 t).length = 3
  · have hP := three_at h3
    have hm := fun y hy => pieces_mem (d := 58) (l := t) (x := y) hy
    rw [hP] at hm
    generalize (pieces 58 t).getD 0 [] = a at *
    generalize (pieces 58 t).getD 1 [] = b at *
    generalize (pieces 58 t).getD 2 [] = c at *
    have h0 : a.length ≤ t.length := hm _ (by simp)
    have h1 : b.length ≤ t.length := hm _ (by simp)
    have h2 : c.length ≤ t.length := hm _ (by simp)
    rw [line_3 hP] at h
    split at h
    · cases h; exact ⟨h0, h1, by simp, fun j => by simp⟩
    · split at h
      · cases h
      · cases h
        refine ⟨h0, h1, ?_, fun j => ?_⟩
        · have := pieces_len 44 c; show (pieces 44 c).length ≤ _; omega
        · show ((pieces 44 c).getD j []).length ≤ _
          by_cases hj : j < (pieces 44 c).length
          · rw [getD_at hj]
            have := pieces_mem (d := 44) (l := c) (List.getElem_mem hj)
            omega
          · simp [List.getElem?_eq_none (Nat.le_of_not_lt hj)]
  · rw [line_not3 h3] at h; cases h
theorem BigU.mono {N N' : Nat} {u : U} (h : BigU N u) (hN : N ≤ N') : BigU N' u := ⟨by have := h.1; omega, by have := h.2.1; omega, by have := h.2.2.1; omega, fun j => by have := h.2.2.2 j; omega⟩
theorem bigAll_snoc {N : Nat} {A : List U} {u : U} (h : ∀ k, BigU N (getL A k)) (hu : BigU N u) : ∀ k, BigU N (getL (A ++ [u]) k) := fun k => by
  by_cases h1 : k < A.length
  · rw [getL_app_left h1]; exact h k
  · by_cases h2 : k = A.length
    · subst h2; rw [getL_app_right]; exact hu
    · have : getL (A ++ [u]) k = U0 := by unfold getL; simp [show ¬ k < A.length + 1 by omega]
      rw [this]; exact BigU.zero N
theorem big_of {N : Nat} {A : List U} (hN : N + 1 ≤ 100000) (hl : A.length ≤ 100000) (h : ∀ k, BigU N (getL A k)) : Big A :=
  ⟨hl, fun k => ⟨by have := (h k).1; omega, by have := (h k).2.1; omega, by have := (h k).2.2.1; omega, fun j => by have := (h k).2.2.2 j; omega⟩⟩
theorem prs_end {acc : List U} : prs [[]] acc = endL acc := by simp [prs]
theorem prs_last {x : List UInt8} {acc : List U} (h : x ≠ []) : prs [x] acc = ([], (acc.length : Int), (2 : Int)) := by simp [prs, h]
theorem prs_none {x : List UInt8} {r : List (List UInt8)} {acc : List U} (hr : r ≠ []) (h : lineL x = none) : prs (x :: r) acc = ([], (acc.length : Int), (2 : Int)) := by
  cases r with
  | nil => exact absurd rfl hr
  | cons y r => rw [prs, h]
theorem prs_some {x : List UInt8} {r : List (List UInt8)} {acc : List U} {u : U} (hr : r ≠ []) (h : lineL x = some u) : prs (x :: r) acc = prs r (acc ++ [u]) := by
  cases r with
  | nil => exact absurd rfl hr
  | cons y r => rw [prs, h]

theorem cells_new3 (w : World) (x y z : Value) (e : TypeId) : ∀ j u, [x, y, z][j]? = some u → (w.alloc (.cells #[x, y, z] e)).cell? ((⟨w.heap.size, 0, none⟩ : Addr).add j) = some u := by
  intro j u h
  match j, h with
  | 0, h => simp at h; subst h; simp [Addr.add, World.cell?_alloc_new]
  | 1, h => simp at h; subst h; simp [Addr.add, World.cell?_alloc_new]
  | 2, h => simp at h; subst h; simp [Addr.add, World.cell?_alloc_new]
theorem cells_new3_at (w : World) (o : Obj) (x y z : Value) (e : TypeId) : ∀ j u, [x, y, z][j]? = some u → ((w.alloc o).alloc (.cells #[x, y, z] e)).cell? ((⟨w.heap.size + 1, 0, none⟩ : Addr).add j) = some u := by
  intro j u h
  have := cells_new3 (w.alloc o) x y z e j u h
  rwa [World.size_alloc] at this
theorem drop_get {P : List (List UInt8)} {i : Nat} (h : i < P.length) : P.drop i = P.getD i [] :: P.drop (i + 1) := by
  rw [getD_at h, List.drop_eq_getElem_cons h]
theorem drop_ne {P : List (List UInt8)} {i : Nat} (h : i < P.length) : P.drop i ≠ [] := by
  intro e; have := congrArg List.length e; simp at this; omega
/-- prs, one line on. -/
theorem prs_at {P : List (List UInt8)} {i : Nat} {acc : List U} (h : i + 1 < P.length) : (lineL (P.getD i []) = none → prs (P.drop i) acc = ([], (acc.length : Int), (2 : Int))) ∧ (∀ u, lineL (P.getD i []) = some u → prs (P.drop i) acc = prs (P.drop (i + 1)) (acc ++ [u])) := by
  rw [drop_get (show i < P.length by omega)]
  exact ⟨fun e => prs_none (drop_ne h) e, fun u e => prs_some (drop_ne h) e⟩
theorem prs_fin {P : List (List UInt8)} {n : Nat} {acc : List U} (h : n + 1 = P.length) : (P.getD n [] = [] → prs (P.drop n) acc = endL acc) ∧ (P.getD n [] ≠ [] → prs (P.drop n) acc = ([], (acc.length : Int), (2 : Int))) := by
  rw [drop_get (show n < P.length by omega), List.drop_eq_nil_of_le (by omega)]
  exact ⟨fun e => by rw [e]; exact prs_end, fun e => prs_last e⟩

set_option maxRecDepth 100000 in
set_option maxHeartbeats 3200000 in
theorem RParse_any (x : List UInt8) (hs : x.length ≤ 90000) (w : World) :
    Calls Tryd.prog 26 #[.string (mk x)] w fun e w' => ∃ v, e = .returned (.tuple #[v, .int .i64 (parseL x).2.1, .int .i64 (parseL x).2.2]) ∧ URow w' v (parseL x).1 ∧ Below w.heap.size w w' := by
  obtain ⟨i0, hi, hz0, hz1, hz2⟩ := info_parts info_user
  have HS := Lib.hid (parts_some 10 10 rfl x (by omega) w)
  have hpl := pieces_len 10 x
  have HPM := Lib.hid (fun y hy => pieces_mem (d := 10) (l := x) (x := y) hy)
  have hne := pieces_ne 10 x
  have hr : parseL x = prs ((pieces 10 x).drop 0) [] := rfl
  have HR0 := Lib.hid hr
  generalize parseL x = res at HR0 ⊢
  clear hr
  generalize pieces 10 x = P at *
  obtain ⟨n, hn⟩ : ∃ n, P.length = n + 1 := ⟨P.length - 1, by have := List.length_pos_iff.2 hne; omega⟩
  have HPA := Lib.hid (fun i acc (h : i + 1 < P.length) => prs_at (acc := acc) h)
  have HPF := Lib.hid (fun acc => prs_fin (P := P) (n := n) (acc := acc) hn.symm)
  have HPL := Lib.hid (fun i (hi : i < P.length) => HPM.out (P.getD i []) (by rw [getD_at hi]; exact List.getElem_mem hi))
  clear HPM hne
  go_enter Tryd.func26, Tryd.ntmps26
  go_wp2_with fail
  refine HS.out.mono ?_
  rintro e w1 ⟨q, c, rfl, hs1, hB1⟩
  have HB1 := Lib.hid hB1
  have hsz1 := hB1.size
  have HS1 := Lib.hid hs1
  have hPc : (P.length : Int) ≤ c := by
    obtain ⟨_, _, hv, h, _⟩ := id hs1
    injection hv with _ _ h4; omega
  rw [hn] at hPc ⊢
  have HN := Lib.hid hn
  have hn9 : n ≤ 90000 := by omega
  clear hs1 hB1 HS hn
  go_wp2
  go_loopw [7, 8] (fun vl vi wr => ∃ (i : Nat) (acc : List U), vi = .int .i64 (i : Int) ∧ i ≤ n ∧ acc.length = i ∧ Hid (UOwn w1.heap.size wr vl acc) ∧ Hid (Below w1.heap.size w1 wr) ∧ Hid (res = prs (P.drop i) acc) ∧ Hid (∀ k, BigU x.length (getL acc k))) (fun _ vi _ => n - (intOf vi).toNat)
  case atStart => exact ⟨0, [], rfl, by omega, rfl, UOwn.nil_ _ _, Below.refl _ _, HR0.out, fun k => by simpa [getL] using BigU.zero _⟩
  case round =>
    obtain ⟨i, acc, rfl, hin, hal, HU, HB, HR, HG⟩ := hrel
    have hsz := HB.out.size
    have hPn := HN.out
    by_cases hlt : i < n
    · obtain ⟨bb, o, hp, hb, c0⟩ := HS1.out.at_ HB.out (k := i) (by omega)
      subst hp
      have hle := HPL.out i (by omega)
      have LC := Lib.hid (line_any (P.getD i []) (by omega) wr)
      obtain ⟨hA1, hA2⟩ := HPA.out i acc (by omega)
      have ki : (i : Int) < ((n + 1 : Nat) : Int) := by omega
      cases hli : lineL (P.getD i []) with
      | none =>
        have HR2 := Lib.hid (HR.out.trans (hA1 hli))
        rw [hli] at LC
        clear hli hA1 hA2 hPn
        generalize P.getD i [] = t at c0 LC hle
        go_wp2_with fail
        refine LC.out.mono ?_
        rintro e w2 ⟨mv, rfl, hs2, hB2⟩
        obtain ⟨q2, c2, rfl, _⟩ := id hs2
        have HB2 := Lib.hid ((HB1.out.trans (HB.out.mono hsz1)).trans (hB2.mono (Nat.le_trans hsz1 hsz)))
        have hsz2 := HB2.out.size
        clear hs2 hB2
        go_wp2
        go_ret3
        rw [HR2.out]
        exact ⟨_, by rw [← hal]; rfl, URow.nil_ _, HB2.out.alloc hsz2 _⟩
      | some u =>
        have HR2 := Lib.hid (HR.out.trans (hA2 u hli))
        have HG2 := Lib.hid (bigAll_snoc HG.out ((lineL_big hli).mono hle))
        rw [hli] at LC
        clear hli hA1 hA2 hPn
        generalize P.getD i [] = t at c0 LC hle
        obtain ⟨un, ul, um⟩ := u
        go_wp2_with fail
        refine LC.out.mono ?_
        rintro e w2 ⟨mv, rfl, hs2, hB2⟩
        obtain ⟨q2, c2, rfl, _⟩ := id hs2
        have ha := (Below.refl w2.heap.size w2).alloc (Nat.le_refl _) (.cells #[.string (mk un), .string (mk ul), .slice q2 um.length c2] 32)
        have hsz2 := hB2.size
        have hB3 := HB.out.trans ((hB2.trans (ha.mono hsz2)).mono hsz)
        obtain ⟨xs, hown, hks⟩ := HU.out.below (hB2.trans (ha.mono hsz2))
        have hs3 := (hs2.below ha).mono hsz
        have HB3 := Lib.hid hB3
        have HO := Lib.hid hown
        have HM := Lib.hid (fun v' w1' o hg ho' => UOwn.more (u := ⟨un, ul, um⟩) (w1 := w1') (v' := v') (o := o) hown hks hs3 hg ho')
        clear hs2 hB2 ha hB3 hown hks hs3 LC
        go_wp2_with (at_builtin; refine wpList_append_own _ rfl (.tmp 33) (.tmp 35) 24 rfl w1.heap.size 32 i0 (.agg #[.string ⟨#[]⟩, .string ⟨#[]⟩, .slice none 0 0]) 3 56 Tryd.underlying24 hi hz0 hz1 hz2 rfl (by decide) _ _ _ rfl (HO.out.alloc _) ⟨w2.heap.size + 1, 0, none⟩ 1 1 [.string (mk un), .string (mk ul), .slice q2 um.length c2] rfl rfl (cells_new3_at _ _ _ _ _ _) (by intro u hu; simp at hu; rcases hu with rfl | rfl | rfl <;> rfl) (by unfold maxLen; omega) (by omega) (by simp; omega) ?_; intro v' w3 hown' hgrow _)
        have HU3 := Lib.hid (HM.out _ _ _ hgrow hown')
        have HB4 := Lib.hid (HB3.out.trans (below_grown _ (Nat.le_trans hsz (Nat.le_trans hsz2 (by simp))) HO.out hgrow))
        clear hown' hgrow
        go_wp2
        exact ⟨⟨i + 1, acc ++ [⟨un, ul, um⟩], by go_num, by omega, by simp [hal], HU3, HB4, HR2, HG2⟩, by simp [intOf]; omega⟩
    · have hin' : i = n := by omega
      subst hin'
      obtain ⟨bb, o, hp, hb, c0⟩ := HS1.out.at_ HB.out (k := i) (by omega)
      subst hp
      obtain ⟨hF1, hF2⟩ := HPF.out acc
      have ki : (i : Int) < ((i + 1 : Nat) : Int) := by omega
      by_cases he : P.getD i [] = []
      · have HR2 := Lib.hid (HR.out.trans (hF1 he))
        have q1 : (mk (P.getD i [])).toList = [] := by rw [mk_toList]; exact he
        have q2 : (mk (P.getD i [])).toList.isEmpty = true := by rw [q1]; rfl
        have LC := Lib.hid (RCheck_any _ acc wr HU.out.row (big_of (N := x.length) (by omega) (by omega) HG.out))
        have hE1 : checkL acc = 0 → endL acc = (acc, (0 : Int), (0 : Int)) := fun h => if_pos h
        have hE2 : checkL acc ≠ 0 → endL acc = ([], (acc.length : Int), checkL acc) := fun h => if_neg h
        have HE1 := Lib.hid hE1
        have HE2 := Lib.hid hE2
        clear he hF1 hF2 hE1 hE2 hPn
        generalize P.getD i [] = t at c0 q1 q2
        generalize checkL acc = ch at LC HE1 HE2
        by_cases h0 : ch = 0
        · have HR3 := Lib.hid (HR2.out.trans (HE1.out h0))
          have hne : (ch != 0) = false := by simpa using h0
          clear h0 HE1 HE2
          go_wp2_with (go_at_call 17; refine LC.out.mono ?_)
          rintro e w2 ⟨rfl, hB2⟩
          have HB2 := Lib.hid ((HB1.out.trans (HB.out.mono hsz1)).trans (hB2.mono (Nat.le_trans hsz1 hsz)))
          have HU2 := Lib.hid (HU.out.below hB2)
          clear hB2
          go_wp2
          go_ret3
          rw [HR3.out]
          exact ⟨_, rfl, HU2.out.row, HB2.out⟩
        · have HR3 := Lib.hid (HR2.out.trans (HE2.out h0))
          have hne : (ch != 0) = true := by simpa using h0
          clear h0 HE1 HE2
          go_wp2_with (go_at_call 17; refine LC.out.mono ?_)
          rintro e w2 ⟨rfl, hB2⟩
          have HB2 := Lib.hid ((HB1.out.trans (HB.out.mono hsz1)).trans (hB2.mono (Nat.le_trans hsz1 hsz)))
          clear hB2
          go_wp2
          go_ret3
          rw [HR3.out]
          exact ⟨_, by rw [← hal]; rfl, URow.nil_ _, HB2.out⟩
      · have HR2 := Lib.hid (HR.out.trans (hF2 he))
        have q1 : (mk (P.getD i [])).toList ≠ [] := by rw [mk_toList]; exact he
        have q2 : (mk (P.getD i [])).toList.isEmpty = false := List.isEmpty_eq_false_iff.2 q1
        clear he hF1 hF2 hPn
        generalize P.getD i [] = t at c0 q1 q2
        go_wp2
        go_ret3
        rw [HR2.out]
        exact ⟨_, by rw [← hal]; rfl, URow.nil_ _, HB1.out.trans (HB.out.mono hsz1)⟩
end Go.Proofs.YtadnkbhigcegmaaDoor
