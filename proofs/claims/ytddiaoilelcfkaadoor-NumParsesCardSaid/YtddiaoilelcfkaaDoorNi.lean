/-
  The walk over the library's ParseInt at the bases 8, 10 and 16, 64 bits.
-/
import Derived.Test.YtddiaoilelcfkaaDoorNh
import Derived.Test.YtddiaoilelcfkaaDoorNe
import Derived.Lib.IfaceNeq
namespace Go.Proofs.YtddiaoilelcfkaaDoor
open Go.RowKit

set_option maxRecDepth 100000 in
theorem pu_empty (bv : Int) (w : World) : Calls Tryd.prog 49 #[.string ⟨#[]⟩, .int .i64 bv, .int .i64 64] w fun e w' => e = .returned (.tuple #[.int .u64 0, .iface 77 (.int .i64 2)]) ∧ w = w' := by
  go_enter Tryd.func49, Tryd.ntmps49
  go_wp2
  go_ret2
  exact ⟨rfl, rfl⟩
theorem pu_any (b : Nat) (bv : Int) (hb : (b = 8 ∧ bv = 8) ∨ (b = 10 ∧ bv = 10) ∨ (b = 16 ∧ bv = 16)) (t : ByteArray) (hmax : t.size ≤ 9223372036854775806) (w : World) :
    Calls Tryd.prog 49 #[.string t, .int .i64 bv, .int .i64 64] w (PU b t.data.toList w) := by
  by_cases h0 : t.size = 0
  · have ht : t = ⟨#[]⟩ := by
      obtain ⟨⟨l⟩⟩ := t
      cases l with
      | nil => rfl
      | cons _ _ => simp [ByteArray.size] at h0
    subst ht
    refine (pu_empty bv w).mono ?_
    rintro e w' ⟨rfl, rfl⟩
    exact ⟨Below.refl _ _, 0, _, rfl, by omega, by omega, .inr (.inr rfl), fun v h _ _ => absurd rfl h⟩
  · rcases hb with ⟨rfl, rfl⟩ | ⟨rfl, rfl⟩ | ⟨rfl, rfl⟩
    · exact pu_8 t h0 hmax w
    · exact pu_10 t h0 hmax w
    · exact pu_16 t h0 hmax w

/-- What ParseInt returns: some number of 64 bits and perhaps an error; if the text is a number that fits, that number and no error. -/
def PI (b : Nat) (l : List UInt8) (w : World) (e : Ending) (w' : World) : Prop :=
  Below w.heap.size w w' ∧ ∃ (a : Int) (er : Value), e = .returned (.tuple #[.int .i64 a, er]) ∧ inI a ∧ ErrIs er ∧
    (∀ v, l ≠ [] → val b 0 l = some v → v ≤ 9223372036854775807 → a = v ∧ er = .nilIface)
theorem PI_mk {b : Nat} {l : List UInt8} {w w' : World} (hB : Below w.heap.size w w') (er : Value) (a : Int) (h0 : inI a) (he : ErrIs er)
    (hok : ∀ v, l ≠ [] → val b 0 l = some v → v ≤ 9223372036854775807 → a = v ∧ er = .nilIface) : PI b l w (.returned (.tuple #[.int .i64 a, er])) w' := ⟨hB, a, er, rfl, h0, he, hok⟩

theorem neq_er (a b : Int) (W : World) : (binOp .neq 40 (.iface 77 (.int .i64 a)) (.iface 77 (.int .i64 b))).run Tryd.prog W = .ok (.bool (!(a == b))) W :=
  Lib.run_neq_iface_int W a b Tryd.underlying40 (by kernel_rfl) Tryd.underlying77
theorem noSign {b : Nat} (t : ByteArray) (h : 0 < t.size) (hc : t[0].toNat = 43 ∨ t[0].toNat = 45) (v : Nat) (hv : val b 0 t.data.toList = some v) : False := by
  obtain ⟨⟨l⟩⟩ := t
  cases l with
  | nil => simp [ByteArray.size] at h
  | cons c l =>
    simp only [val] at hv
    have e : c.toNat = 43 ∨ c.toNat = 45 := hc
    have : digN c = -1 := by unfold digN; rw [if_neg (by omega), if_neg (by omega)]
    rw [this] at hv
    simp at hv

set_option maxRecDepth 100000 in
set_option maxHeartbeats 1600000 in
theorem pi_core (b : Nat) (bv : Int) (t : ByteArray) (hmax : t.size ≤ 9223372036854775806) (w : World)
    (hpu : ∀ (s : ByteArray) (W : World), s.size ≤ 9223372036854775806 → Calls Tryd.prog 49 #[.string s, .int .i64 bv, .int .i64 64] W (PU b s.data.toList W)) :
    Calls Tryd.prog 38 #[.string t, .int .i64 bv, .int .i64 64] w (PI b t.data.toList w) := by
  have n11 := neq_er 1 1
  have n21 := neq_er 2 1
  have HPU := Lib.hid hpu
  clear hpu
  by_cases h0 : t.size = 0
  · have ht : t = ⟨#[]⟩ := by
      obtain ⟨⟨l⟩⟩ := t
      cases l with
      | nil => rfl
      | cons _ _ => simp [ByteArray.size] at h0
    subst ht
    go_enter Tryd.func38, Tryd.ntmps38
    go_wp2
    go_ret2
    exact PI_mk (Below.refl _ _) _ _ ⟨by omega, by omega⟩ (.inr (.inr rfl)) fun v h _ _ => absurd rfl h
  · have hemp : t.toList.isEmpty = false := by
      rw [← decide_eq_emptyBytes]
      exact decide_eq_false (fun h => h0 (by rw [h]; rfl))
    have hlt : 0 < t.size := by omega
    by_cases hp : t[0].toNat = 43
    · have hnone : ∀ v, val b 0 t.data.toList = some v → False := noSign t hlt (by omega)
      have HNO := Lib.hid hnone
      clear hnone
      have hsz : (t.extract 1 t.size).size ≤ 9223372036854775806 := by simp; omega
      go_enter Tryd.func38, Tryd.ntmps38
      go_wp2_with fail
      refine (HPU.out _ _ hsz).mono ?_
      rintro e w' ⟨hB, a, er, rfl, a0, a1, her, hok⟩
      clear hok
      rcases her with rfl | rfl | rfl
      all_goals go_wp2
      all_goals go_ret2
      all_goals exact PI_mk hB _ _ ⟨by (try unfold wrap64); omega, by (try unfold wrap64); omega⟩ (by simp [ErrIs]) fun v _ h _ => (HNO.out v h).elim
    by_cases hm : t[0].toNat = 45
    · have hnone : ∀ v, val b 0 t.data.toList = some v → False := noSign t hlt (by omega)
      have HNO := Lib.hid hnone
      clear hnone
      have hsz : (t.extract 1 t.size).size ≤ 9223372036854775806 := by simp; omega
      go_enter Tryd.func38, Tryd.ntmps38
      go_wp2_with fail
      refine (HPU.out _ _ hsz).mono ?_
      rintro e w' ⟨hB, a, er, rfl, a0, a1, her, hok⟩
      clear hok
      rcases her with rfl | rfl | rfl
      all_goals go_wp2
      all_goals go_ret2
      all_goals exact PI_mk hB _ _ ⟨by (try unfold wrap64); omega, by (try unfold wrap64); omega⟩ (by simp [ErrIs]) fun v _ h _ => (HNO.out v h).elim
    · go_enter Tryd.func38, Tryd.ntmps38
      go_wp2_with fail
      refine (HPU.out _ _ hmax).mono ?_
      rintro e w' ⟨hB, a, er, rfl, a0, a1, her, hok⟩
      have HOK := Lib.hid hok
      clear hok
      rcases her with rfl | rfl | rfl
      · by_cases hbig : 9223372036854775808 ≤ a
        · go_wp2
          go_ret2
          exact PI_mk hB _ _ ⟨by omega, by omega⟩ (by simp [ErrIs]) fun v h1 h2 h3 => by have := (HOK.out v h1 h2 (by omega)).1; omega
        · go_wp2
          go_ret2
          exact PI_mk hB _ _ ⟨by omega, by omega⟩ (by simp [ErrIs]) fun v h1 h2 h3 => ⟨(HOK.out v h1 h2 (by omega)).1, rfl⟩
      all_goals go_wp2
      all_goals go_ret2
      all_goals exact PI_mk hB _ _ ⟨by (try unfold wrap64); omega, by (try unfold wrap64); omega⟩ (by simp [ErrIs]) fun v h1 h2 h3 => by have := (HOK.out v h1 h2 (by omega)).2; cases this
end Go.Proofs.YtddiaoilelcfkaaDoor
