/-
  Walks: slices.BinarySearchFunc; index, Node.
-/
import Derived.Test.YtalhkoolpnmcdaaAg
import Derived.Test.YtalhkoolpnmcdaaShelf
namespace Go.Proofs.Ytalhkoolpnmcdaa
open Go.RowKit

/-- The Ids rise. -/
def Rise (L : List ND) : Prop := ∀ i j, i < j → j < L.length → (getN L i).id < (getN L j).id
theorem rise_of {L : List ND} (h : L.Pairwise (fun a b => a.id < b.id)) : Rise L := fun i j hij hj => by
  have := List.pairwise_iff_getElem.1 h i j (by omega) hj hij
  rw [getN_get, getN_get] at this
  exact this
theorem Vld.rise {nx : Int} {L : List ND} (h : Vld nx L) : Rise L := rise_of h.sort

theorem compareI (x y : Int) : Lib.compareInt x y = if x < y then -1 else if x = y then 0 else 1 := by
  unfold Lib.compareInt
  split
  · rfl
  · split <;> split <;> omega

set_option maxRecDepth 100000 in
set_option maxHeartbeats 1600000 in
theorem index1_any (n : ND) (t : Int) (w : World) :
    Calls Try.prog 78 #[nodeV n, .int .i64 t] w fun e w' => e = .returned (.int .i64 (Lib.compareInt n.id t)) ∧ Below w.heap.size w w' := by
  have HB0 := Lib.hid (fun ca => (Below.refl _ w).alloc (Nat.le_refl _) (.cells ca 31))
  have x0 : (cellsA n)[0]? = some (.int .i64 n.id) := rfl
  have hC := Lib.hid (fun W => Try.cmp_Compare_int n.id t W)
  unfold nodeV
  generalize cellsA n = ca at *
  generalize Lib.compareInt n.id t = r at *
  generalize n.id = id at *
  go_enter Try.func78, Try.ntmps78
  go_wp2_with (go_at_call 79; with_reducible refine (hC.out _).mono ?_; rintro e w' ⟨rfl, rfl⟩)
  go_ret
  exact ⟨rfl, HB0.out ca⟩

/-- A whole struct out of the middle of a block, where the operation has a guard that says yes. -/
theorem wpList_gload_mid {P : Program} {ops : Array Oper} {rest : List Oper} {op : Oper} {a : Act} {w : World} {Q : Exit → Act → World → Prop} (hw : Region.wanted op (yielded ops a.tmps) = true) (ty : TypeId) (x : Operand) (ho : op.op = .load ty x)
    (b o : Nat) (hx : a.eval x = .pointer (some ⟨b, o, none⟩)) (cs : List Value) (d : TypeDesc) (hc : w.rangeAt b o cs)
    (hu : P.underlying ty = some d) (hd : d.isRow = true) (hi : (P.info? ty).map (·.size) = some cs.length)
    (h : wpList P ops Q rest (a.put op.dst (.agg cs.toArray)) w) : wpList P ops Q (op :: rest) a w :=
  BigFrame.wpList_want hw fun _ hK => wp_load_mid ty x ho b o hx cs d hc hu hd hi (hK _ _ h)
/-- What the search comes to. -/
def Found (L : List ND) (t : Int) (w : World) (e : Ending) (w' : World) : Prop :=
  (∃ k : Nat, e = .returned (.tuple #[.int .i64 (k : Int), .bool (hasN L t)]) ∧ (hasN L t = true → k = posN L t)) ∧ Below w.heap.size w w'
theorem low_yes {L : List ND} {t : Int} {k : Nat} (hk : k < L.length) (h1 : ∀ j, j < k → (getN L j).id < t) (h2 : (getN L k).id = t) : hasN L t = true ∧ k = posN L t := by
  have := posN_at hk h2 (fun j hj => by have := h1 j hj; omega)
  exact ⟨by unfold hasN; rw [this]; simpa using hk, this.symm⟩
theorem low_no {L : List ND} {t : Int} {k : Nat} (hr : Rise L) (h1 : ∀ j, j < k → (getN L j).id < t) (h2 : k < L.length → t < (getN L k).id) : hasN L t = false := by
  have : posN L t = L.length := posN_none fun j hj => by
    by_cases hjk : j < k
    · have := h1 j hjk; omega
    · have h3 := h2 (by omega)
      by_cases e : j = k
      · subst e; omega
      · have := hr k j (by omega) hj; omega
  unfold hasN
  rw [this]; simp

set_option maxRecDepth 100000 in
set_option maxHeartbeats 6400000 in
theorem Search_any (v : Value) (L : List ND) (t : Int) (w : World) (h : NRow w v L) (hr : Rise L) (hl : L.length ≤ 1000000) :
    Calls Try.prog 77 #[v, .int .i64 t, .func (.func 78) #[] #[]] w fun e w' => Found L t w e w' := by
  have HU := Lib.hid h
  have HR := Lib.hid hr
  have eg : ∀ args w, (callFunc 78 args).run Try.prog w = .ok (.enter 78 args) w := enters_of Try.func78 (by kernel_rfl) rfl
  obtain ⟨q, cap, rfl, hc, hm, _⟩ := h
  unfold maxLen at hm
  clear hr
  go_enter Try.func77, Try.ntmps77
  go_wp2
  go_loopw [9, 10, 11] (fun v9 v10 _ wr => ∃ i j : Nat, v9 = .int .i64 (i : Int) ∧ v10 = .int .i64 (j : Int) ∧ i ≤ j ∧ j ≤ L.length ∧ Hid (∀ k, k < i → (getN L k).id < t) ∧ Hid (j < L.length → t ≤ (getN L j).id) ∧ Hid (Below w.heap.size w wr)) (fun v9 v10 _ _ => (intOf v10).toNat - (intOf v9).toNat)
  case atStart => exact ⟨0, L.length, rfl, rfl, by omega, by omega, fun j hj => absurd hj (Nat.not_lt_zero _), fun h => absurd h (by omega), Below.refl _ _⟩
  case round =>
    obtain ⟨i, j, rfl, rfl, hij, hj, H1, H2, HB⟩ := hrel
    by_cases hlt : i < j
    · obtain ⟨b, o, cap', hv, hb, hcl, _, hrr⟩ := HU.out.form (by omega)
      obtain ⟨rfl, rfl⟩ : q = some ⟨b, o, none⟩ ∧ cap = cap' := by injection hv with h1 h2 h3; exact ⟨h1, h3⟩
      have hkl : (i + j) / 2 < L.length := by omega
      have hrg := Lib.hid (hrr wr HB.out ((i + j) / 2) hkl)
      have hcall := Lib.hid (index1_any (getN L ((i + j) / 2)) t)
      have H3 : Hid ((getN L ((i + j) / 2)).id < t → ∀ k, k < (i + j) / 2 + 1 → (getN L k).id < t) := fun hid k hk => by
        by_cases e : k = (i + j) / 2
        · rw [e]; exact hid
        · have := HR.out k ((i + j) / 2) (by omega) hkl; omega
      have H4 : Hid (¬ (getN L ((i + j) / 2)).id < t → (i + j) / 2 < L.length → t ≤ (getN L ((i + j) / 2)).id) := fun h1 _ => by omega
      have k0 : (0 : Int) ≤ ((i : Int) + (j : Int)) / 2 := by omega
      have k1 : ((i : Int) + (j : Int)) / 2 < (L.length : Int) := by omega
      clear hv hb hrr hkl
      unfold nodeV at hcall
      generalize hn : getN L ((i + j) / 2) = n at *
      replace hn := Lib.hid hn
      have hcm := compareI n.id t
      generalize Lib.compareInt n.id t = cm at hcall hcm
      by_cases hlo : n.id < t
      · rw [if_pos hlo] at hcm
        subst hcm
        replace H3 := Lib.hid (H3.out hlo)
        clear hlo H4
        go_wp2_with (first
          | (refine wpList_load_mid rfl 31 _ rfl b (o + (i + j) / 2 * 11) rfl (cellsN n) _ hrg.out Try.underlying31 rfl (by kernel_rfl) ?_)
          | (go_at_fn 78; refine (hcall.out _).mono ?_; rintro e w' ⟨rfl, hB1⟩; have HB1 := Lib.hid (HB.out.trans (hB1.mono HB.out.size)); clear hB1))
        exact ⟨⟨(i + j) / 2 + 1, j, by go_num, rfl, by omega, by omega, H3, H2, HB1⟩, by simp [intOf]; omega⟩
      · have hcc : decide (cm < 0) = false := by rw [hcm, if_neg hlo]; split <;> decide
        replace H4 := Lib.hid (H4.out hlo)
        clear hlo H3 hcm
        go_wp2_with (first
          | (refine wpList_load_mid rfl 31 _ rfl b (o + (i + j) / 2 * 11) rfl (cellsN n) _ hrg.out Try.underlying31 rfl (by kernel_rfl) ?_)
          | (go_at_fn 78; refine (hcall.out _).mono ?_; rintro e w' ⟨rfl, hB1⟩; have HB1 := Lib.hid (HB.out.trans (hB1.mono HB.out.size)); clear hB1))
        refine ⟨⟨i, (i + j) / 2, rfl, by go_num, by omega, by omega, H1, ?_, HB1⟩, by simp [intOf]; omega⟩
        have := H4.out
        rw [← hn.out] at this
        exact this
    · obtain rfl : i = j := by omega
      by_cases hlt2 : i < L.length
      · obtain ⟨b, o, cap', hv, hb, hcl, _, hrr⟩ := HU.out.form (by omega)
        obtain ⟨rfl, rfl⟩ : q = some ⟨b, o, none⟩ ∧ cap = cap' := by injection hv with h1 h2 h3; exact ⟨h1, h3⟩
        have hrg := Lib.hid (hrr wr HB.out i hlt2)
        have hcall := Lib.hid (index1_any (getN L i) t)
        have Hy := Lib.hid (low_yes hlt2 H1.out)
        have Hn : Hid (t < (getN L i).id → hasN L t = false) := fun h1 => low_no HR.out H1.out (fun _ => h1)
        have H3 := Lib.hid (H2.out hlt2)
        have k0 : (0 : Int) ≤ (i : Int) := by omega
        have k1 : (i : Int) < (L.length : Int) := by omega
        clear hv hb hrr hlt hlt2 H1 H2
        unfold nodeV at hcall
        generalize getN L i = n at *
        have hcm := compareI n.id t
        generalize Lib.compareInt n.id t = cm at hcall hcm
        by_cases heq : n.id = t
        · rw [if_neg (by omega), if_pos heq] at hcm
          subst hcm
          replace Hy := Lib.hid (Hy.out heq)
          clear heq Hn H3
          go_wp2_with (first
            | (refine wpList_gload_mid (by rfl) 31 _ rfl b (o + i * 11) rfl (cellsN n) _ hrg.out Try.underlying31 rfl (by kernel_rfl) ?_)
            | (go_at_fn 78; refine (hcall.out _).mono ?_; rintro e w' ⟨rfl, hB1⟩; have HB1 := Lib.hid (HB.out.trans (hB1.mono HB.out.size)); clear hB1))
          go_ret2
          exact ⟨⟨i, by rw [Hy.out.1]; rfl, fun _ => Hy.out.2⟩, HB1.out⟩
        · have hcc : (cm == 0) = false := by rw [hcm]; split <;> (try split) <;> simp_all
          have hno := Lib.hid (Hn.out (by have := H3.out; omega))
          clear heq Hn H3 Hy hcm
          go_wp2_with (first
            | (refine wpList_gload_mid (by rfl) 31 _ rfl b (o + i * 11) rfl (cellsN n) _ hrg.out Try.underlying31 rfl (by kernel_rfl) ?_)
            | (go_at_fn 78; refine (hcall.out _).mono ?_; rintro e w' ⟨rfl, hB1⟩; have HB1 := Lib.hid (HB.out.trans (hB1.mono HB.out.size)); clear hB1))
          go_ret2
          exact ⟨⟨i, by rw [hno.out]; rfl, fun h => by rw [hno.out] at h; cases h⟩, HB1.out⟩
      · have hno := Lib.hid (low_no HR.out H1.out (fun h => absurd h hlt2))
        clear H1 H2 hlt
        go_wp2
        go_ret2
        exact ⟨⟨i, by rw [hno.out]; rfl, fun h => by rw [hno.out] at h; cases h⟩, HB.out⟩
end Go.Proofs.Ytalhkoolpnmcdaa
