/-
  Lists of strings in memory; Same; num.Fields.
-/
import Derived.Test.YtddiaoilelcfkaaDoorNl
import Derived.Test.YtddiaoilelcfkaaDoorNe
import Derived.Shelf.GgClosure.GivesRunes
import Derived.Deep.QuietTactic
import Derived.BigQuiet
namespace Go.Proofs.YtddiaoilelcfkaaDoor
open Go.RowKit

/-- The slice v holds the strings L, in blocks that lie below B. -/
def StrRow (w : World) (v : Value) (L : List ByteArray) : Prop :=
  ∃ p cap, v = .slice p L.length cap ∧ (L ≠ [] → ∃ b o, p = some ⟨b, o, none⟩ ∧ b < w.heap.size ∧ ∀ j (hj : j < L.length), w.cell? ⟨b, o + j, none⟩ = some (.string L[j]))
theorem StrRow.below {w w' : World} {v : Value} {L : List ByteArray} (h : StrRow w v L) (hB : Below w.heap.size w w') : StrRow w' v L := by
  obtain ⟨p, cap, rfl, h⟩ := h
  refine ⟨p, cap, rfl, fun hL => ?_⟩
  obtain ⟨b, o, rfl, hb, hc⟩ := h hL
  exact ⟨b, o, rfl, Nat.lt_of_lt_of_le hb hB.size, fun j hj => by rw [hB.cell (p := ⟨b, o + j, none⟩) hb]; exact hc j hj⟩
theorem StrRow.of_own {w : World} {B : Nat} {e : TypeId} {v : Value} {L : List ByteArray} (h : w.ownsRow B e 1 v L.length (L.map Value.string)) : StrRow w v L := by
  obtain ⟨h1, h2⟩ := h
  rcases h2 with ⟨rfl, hx⟩ | ⟨g, cap, cur, rfl, hb, hg, rest⟩
  · have : L = [] := by simpa using hx
    subst this
    exact ⟨none, 0, rfl, fun h => absurd rfl h⟩
  · refine ⟨some ⟨g, 0, none⟩, cap, rfl, fun _ => ⟨g, 0, rfl, ?_, fun j hj => ?_⟩⟩
    · exact (Array.getElem?_eq_some_iff.1 hg).1
    · have := World.ownsRow.cells (w := w) (base := B) (e := e) (size := 1) (n := L.length) (xs := L.map Value.string) (v := .slice (some ⟨g, 0, none⟩) L.length cap) ⟨h1, .inr ⟨g, cap, cur, rfl, hb, hg, rest⟩⟩ rfl j (.string L[j]) (by simp [hj])
      rw [Lib.add_plain] at this
      exact this

theorem sepB_sepN (c : Nat) : sepB (c : Int) = sepN c := by
  unfold sepB sepN
  rw [Bool.eq_iff_iff]
  simp
  omega
theorem enters_sep (args : Array Value) (w : World) : (callFunc 29 args).run Tryd.prog w = .ok (.enter 29 args) w := enters_of Tryd.func29 (by kernel_rfl) rfl _ _
theorem pred_sep (w : World) : PredAt Tryd.prog 29 #[] encR sepN w := fun W x _ => by
  refine (isSeparator_any (x : Int) W).mono ?_
  rintro e w' ⟨rfl, rfl⟩
  exact ⟨by rw [sepB_sepN], 0, by rw [World.drewN_zero]⟩

set_option maxRecDepth 100000 in
set_option maxHeartbeats 400000 in
theorem Fields_any (s : ByteArray) (w : World) (hs : s.size ≤ 4294967296) :
    Calls Tryd.prog 16 #[.string s] w fun e w' => ∃ v, e = .returned v ∧ StrRow w' v (Lib.goFieldsP sepN s) ∧ Below w.heap.size w w' := by
  have F := Lib.hid (Tryd.strings_FieldsFunc 29 #[] enters_sep sepN s w hs (pred_sep w))
  go_enter Tryd.func16, Tryd.ntmps16
  go_wp2_with fail
  refine F.out.mono ?_
  rintro e w' ⟨A, rfl, _, hown, hB⟩
  have HO := Lib.hid hown
  clear hown
  go_wp2
  go_ret
  exact ⟨_, rfl, StrRow.of_own HO.out, hB⟩

theorem below_dn (w : World) (n : Nat) : Below w.heap.size w (w.drewN n) := ⟨rfl, rfl, rfl, Nat.le_refl _, fun _ _ => rfl⟩
/-- Do two lists of strings hold the same? -/
def sameL : List ByteArray → List ByteArray → Bool := fun a b => decide (a = b)

set_option maxRecDepth 100000 in
set_option maxHeartbeats 400000 in
theorem Same_any (a b : Value) (L M : List ByteArray) (w : World) (ha : StrRow w a L) (hb : StrRow w b M) (hl : L.length ≤ 1000000000) (hm : M.length ≤ 1000000000) :
    Calls Tryd.prog 17 #[a, b] w fun e w' => e = .returned (.bool (sameL L M)) ∧ Below w.heap.size w w' := by
  obtain ⟨p, cp, rfl, hp⟩ := ha
  obtain ⟨q, cq, rfl, hq⟩ := hb
  by_cases hlen : L.length = M.length
  · have hne : ((L.length : Int) != (L.length : Int)) = false := by simp
    have HL := Lib.hid hlen
    rw [← hlen] at hm ⊢
    have hM : ∀ (h : L ≠ []), M ≠ [] := fun h h2 => h (List.eq_nil_of_length_eq_zero (by rw [hlen, h2]; rfl))
    by_cases hnil : L = []
    · have hMn : M = [] := List.eq_nil_of_length_eq_zero (by rw [← hlen, hnil]; rfl)
      subst hnil hMn
      clear hp hq hM hlen HL
      go_enter Tryd.func17, Tryd.ntmps17
      go_wp2
      refine wp_loop_rounds 1 ?_
      rw [rounds_succ]
      go_wp2
      go_ret
      exact ⟨rfl, Below.refl _ _⟩
    obtain ⟨b1, o1, rfl, hb1, hc1⟩ := hp hnil
    obtain ⟨b2, o2, rfl, hb2, hc2⟩ := hq (hM hnil)
    have HC1 := Lib.hid hc1
    have HC2 := Lib.hid hc2
    have hlp : 0 < L.length := List.length_pos_iff.2 hnil
    clear hp hq hM hc1 hc2 hlen hnil
    go_enter Tryd.func17, Tryd.ntmps17
    go_wp2
    go_loopw [13] (fun vi wr => ∃ k : Nat, vi = .int .i64 (k : Int) ∧ k ≤ L.length ∧ (∃ n, wr = w.drewN n) ∧ Hid (L.take k = M.take k)) (fun vi _ => L.length - (intOf vi).toNat)
    case atStart => exact ⟨0, rfl, by omega, ⟨0, by rw [World.drewN_zero]⟩, rfl⟩
    case round =>
      obtain ⟨k, rfl, hk, ⟨n, rfl⟩, htk⟩ := hrel
      by_cases hkn : k < L.length
      · have hkm : k < M.length := by have := HL.out; omega
        have c1 := HC1.out k hkn
        have c2 := HC2.out k hkm
        by_cases he : L[k] = M[k]
        · rw [he] at c1
          generalize hx : M[k] = x at c1 c2 he
          have HE := Lib.hid he
          have HY := Lib.hid hx
          clear hx
          clear he
          have ki : (k : Int) < (L.length : Int) := by omega
          have kj : (0 : Int) ≤ (k : Int) := by omega
          go_wp2
          go_quiet (fail)
          go_wp2
          refine ⟨⟨k + 1, by go_num, by omega, ⟨n + nq, rfl⟩, ?_⟩, by simp [intOf]; omega⟩
          have e := htk.out
          show L.take (k + 1) = M.take (k + 1)
          rw [List.take_succ_eq_append_getElem hkn, List.take_succ_eq_append_getElem hkm, e, HE.out, HY.out]
        · generalize hx : L[k] = x at c1 he
          generalize hy : M[k] = y at c2 he
          have hxy : (x.toList == y.toList) = false := by
            rw [Lib.toList_data, Lib.toList_data]
            simp only [beq_eq_false_iff_ne]
            intro h; exact he (ByteArray.ext (Array.ext' h))
          have hne2 : L ≠ M := fun h => he (by subst h; rw [← hx, ← hy])
          have hr : sameL L M = false := by unfold sameL; simpa using hne2
          have HR := Lib.hid hr
          clear he hne2 hr hx hy
          have ki : (k : Int) < (L.length : Int) := by omega
          have kj : (0 : Int) ≤ (k : Int) := by omega
          go_wp2
          go_quiet (fail)
          go_wp2
          go_ret
          rw [HR.out]
          exact ⟨rfl, by rw [World.drewN_drewN]; exact below_dn _ _⟩
      · have hkl : k = L.length := by omega
        have hr : sameL L M = true := by
          have e := htk.out
          have h2 := HL.out
          unfold sameL
          rw [hkl, List.take_length] at e
          rw [h2, List.take_length] at e
          simpa using e
        have HR := Lib.hid hr
        clear hr
        go_wp2
        go_ret
        rw [HR.out]
        exact ⟨rfl, below_dn _ _⟩
  · have hr : sameL L M = false := by unfold sameL; simp; intro h; exact hlen (by rw [h])
    rw [hr]
    have hne : ((L.length : Int) != M.length) = true := by rw [bne_iff_ne]; omega
    clear hp hq hr
    go_enter Tryd.func17, Tryd.ntmps17
    go_wp2
    go_ret
    exact ⟨rfl, Below.refl _ _⟩
end Go.Proofs.YtddiaoilelcfkaaDoor
