/-
  Walks: is a node a child; function values that are asked of nodes; slices.IndexFunc, ContainsFunc.
-/
import Derived.Test.YtalhkoolpnmcdaaAf
import Derived.Shelf.Abstract
namespace Go.Proofs.Ytalhkoolpnmcdaa
open Go.RowKit

set_option maxRecDepth 100000 in
set_option maxHeartbeats 1600000 in
theorem isChild_any (n : ND) (d : Int) (w : World) :
    Calls Try.prog 52 #[nodeV n, .int .i64 d] w fun e w' => e = .returned (.bool (kidB n d)) ∧ Below w.heap.size w w' := by
  have HB0 := Lib.hid (fun ca => (Below.refl _ w).alloc (Nat.le_refl _) (.cells ca 31))
  have x0 : (cellsA n)[0]? = some (.int .i64 n.id) := rfl
  have x1 : (cellsA n)[1]? = some (.int .i64 n.pa) := rfl
  have HR : Hid (kidB n d = ((n.pa == d) && (n.id != 1))) := rfl
  unfold nodeV
  generalize kidB n d = res at HR ⊢
  generalize cellsA n = ca at *
  generalize n.id = id at *
  generalize n.pa = pa at *
  cases h1 : (pa == d) <;> cases h2 : (id != 1)
  all_goals
    go_enter Try.func52, Try.ntmps52
    go_wp2
    go_ret
    rw [HR.out, h1, h2]
    exact ⟨rfl, HB0.out ca⟩

/-- What is asked of a function value: function g, bound to the addresses lb; at every node and in every later world it says p; it may lay blocks. -/
def Asks (g : Nat) (lb : Array Value) (p : ND → Bool) (w : World) : Prop :=
  ∀ (W : World) (n : ND), Below w.heap.size w W → Calls Try.prog g (#[nodeV n] ++ lb) W fun e w' => e = .returned (.bool (p n)) ∧ Below W.heap.size W w'
theorem Asks.later {g : Nat} {lb : Array Value} {p : ND → Bool} {w w' : World} (h : Asks g lb p w) (hB : Below w.heap.size w w') : Asks g lb p w' :=
  fun W n hW => h W n (hB.trans (hW.mono hB.size))

theorem below1 {w : World} {o : Obj} {w' : World} (h : Below (w.alloc o).heap.size (w.alloc o) w') : Below w.heap.size w w' :=
  ((Below.refl _ w).alloc (Nat.le_refl _) o).trans (h.mono (by simp))

set_option maxRecDepth 100000 in
set_option maxHeartbeats 1600000 in
/-- The place of the first node that p holds of, or -1. -/
def idxI (L : List ND) (p : ND → Bool) : Int := if L.findIdx p < L.length then (L.findIdx p : Int) else -1
theorem idxI_hit {L : List ND} {p : ND → Bool} {k : Nat} (hk : k < L.length) (h1 : p (getN L k) = true) (h2 : ∀ j, j < k → p (getN L j) = false) : idxI L p = k := by
  have e : L.findIdx p = k := by
    rw [List.findIdx_eq hk]
    refine ⟨by rw [getN_get hk]; exact h1, fun j hj => ?_⟩
    rw [getN_get (by omega)]
    exact h2 j hj
  unfold idxI
  rw [e, if_pos hk]
theorem idxI_miss {L : List ND} {p : ND → Bool} (h2 : ∀ j, j < L.length → p (getN L j) = false) : idxI L p = -1 := by
  unfold idxI
  rw [if_neg]
  rw [List.findIdx_lt_length]
  rintro ⟨n, hn, h⟩
  obtain ⟨j, hj, rfl⟩ := List.getElem_of_mem hn
  rw [getN_get hj, h2 j hj] at h
  cases h

set_option maxRecDepth 100000 in
set_option maxHeartbeats 3200000 in
theorem IndexFunc_any (g : Nat) (lb : Array Value) (p : ND → Bool) (eg : ∀ args w, (callFunc g args).run Try.prog w = .ok (.enter g args) w) (v : Value) (L : List ND) (w : World) (h : NRow w v L) (hp : Asks g lb p w) :
    Calls Try.prog 80 #[v, .func (.func g) #[] lb] w fun e w' => e = .returned (.int .i64 (idxI L p)) ∧ Below w.heap.size w w' := by
  have HU := Lib.hid h
  have HP := Lib.hid hp
  obtain ⟨q, cap, rfl, hc, hm, _⟩ := h
  unfold maxLen at hm
  clear hp
  go_enter Try.func80, Try.ntmps80
  go_wp2
  go_loopw [5, 8] (fun _ v8 wr => ∃ k : Nat, v8 = .int .i64 (k : Int) ∧ k ≤ L.length ∧ Hid (∀ j, j < k → p (getN L j) = false) ∧ Hid (Below w.heap.size w wr)) (fun _ v8 _ => L.length - (intOf v8).toNat)
  case atStart => exact ⟨0, rfl, by omega, fun j hj => absurd hj (Nat.not_lt_zero _), Below.refl _ _⟩
  case round =>
    obtain ⟨k, rfl, hk, HA, HB⟩ := hrel
    by_cases hlt : k < L.length
    · obtain ⟨b, o, cap', hv, hb, hcl, _, hr⟩ := HU.out.form (by omega)
      obtain ⟨rfl, rfl⟩ : q = some ⟨b, o, none⟩ ∧ cap = cap' := by injection hv with h1 h2 h3; exact ⟨h1, h3⟩
      have hrg := Lib.hid (hr wr HB.out k hlt)
      have hcall := Lib.hid (HP.out wr (getN L k) HB.out)
      have k0 : (0 : Int) ≤ (k : Int) := by omega
      have k1 : (k : Int) < (L.length : Int) := by omega
      have hbb : b < wr.heap.size := Nat.lt_of_lt_of_le hb HB.out.size
      clear hv hr hb
      cases hq : p (getN L k) with
      | true =>
        have hres := Lib.hid (idxI_hit hlt hq HA.out)
        rw [hq] at hcall
        unfold nodeV at hcall
        replace hcall := Lib.hid hcall.out
        clear hq HA
        generalize getN L k = n at *
        go_wp2_with (first
          | (refine wpList_load_mid rfl 31 _ rfl b (o + k * 11) rfl (cellsN n) _ hrg.out Try.underlying31 rfl (by kernel_rfl) ?_)
          | (go_at_fn g; refine hcall.out.mono ?_; rintro e w' ⟨rfl, hB1⟩; have HB1 := Lib.hid (HB.out.trans (hB1.mono HB.out.size)); clear hB1))
        go_ret
        rw [hres.out]
        exact ⟨rfl, HB1.out⟩
      | false =>
        have HA2 : Hid (∀ j, j < k + 1 → p (getN L j) = false) := fun j hj => by
          by_cases e : j = k
          · subst e; exact hq
          · exact HA.out j (by omega)
        rw [hq] at hcall
        unfold nodeV at hcall
        replace hcall := Lib.hid hcall.out
        clear hq HA
        generalize getN L k = n at *
        go_wp2_with (first
          | (refine wpList_load_mid rfl 31 _ rfl b (o + k * 11) rfl (cellsN n) _ hrg.out Try.underlying31 rfl (by kernel_rfl) ?_)
          | (go_at_fn g; refine hcall.out.mono ?_; rintro e w' ⟨rfl, hB1⟩; have HB1 := Lib.hid (HB.out.trans (hB1.mono HB.out.size)); clear hB1))
        exact ⟨⟨k + 1, by go_num, by omega, HA2, HB1⟩, by simp [intOf]; omega⟩
    · obtain rfl : k = L.length := by omega
      have hres := Lib.hid (idxI_miss HA.out)
      clear HA
      go_wp2
      go_ret
      rw [hres.out]
      exact ⟨rfl, HB.out⟩
end Go.Proofs.Ytalhkoolpnmcdaa
