/-
  The map from a name to its first user; firstByName.
-/
import Derived.Test.YtadnkbhigcegmaaDoorUf
import Derived.Maps.OwnSet
import Derived.Maps.OwnOps
namespace Go.Proofs.YtadnkbhigcegmaaDoor
open Go.RowKit Go.Maps Go.WideMaps Go.WideShapes

def Big (L : List U) : Prop := L.length ≤ 100000 ∧ ∀ k, (getL L k).n.length ≤ 100000 ∧ (getL L k).l.length ≤ 100000 ∧ (getL L k).m.length ≤ 100000 ∧ ∀ j, ((getL L k).m.getD j []).length ≤ 100000

theorem lawS : Keyed Tryd.prog 9 := string_keyed Tryd.underlying9
theorem zeroI (w : World) : (zeroValue 3).run Tryd.prog w = .ok (.int .i64 0) w := by kernel_rfl
theorem keyS {x : List UInt8} (h : x.length ≤ 1000000) : keyOf Tryd.prog 9 (.string (mk x)) = some (.string x) := by
  rw [keyOf_string_mk Tryd.underlying9 (by rw [mk_size]; unfold maxLen; omega), mk_data]

theorem isKey_str (x : List UInt8) : WideAt.IsKeyLit (.string x) := trivial
theorem at_app (A : List U) (u : U) (x : List UInt8) : atL (A ++ [u]) x = if hasL A x = true then atL A x else if u.n = x then A.length else A.length + 1 := by
  unfold atL hasL atL
  rw [List.findIdx_append]
  simp only [decide_eq_true_eq]
  split
  · rfl
  · by_cases h : u.n = x
    · subst h; rw [if_pos rfl]; simp [List.findIdx_cons]
    · rw [if_neg h]
      have : (u.n == x) = false := by simpa using h
      simp [List.findIdx_cons, this]
      omega
theorem has_app (A : List U) (u : U) (x : List UInt8) : hasL (A ++ [u]) x = (hasL A x || decide (u.n = x)) := by
  have h := at_app A u x
  have hl := atL_le A x
  rw [hasL, h]
  by_cases hh : hasL A x = true
  · rw [if_pos hh, hh]
    unfold hasL at hh
    simp at hh ⊢
    omega
  · have hf : hasL A x = false := by simpa using hh
    rw [if_neg hh, hf]
    by_cases e : u.n = x
    · rw [if_pos e]; simp [e]
    · rw [if_neg e]; simp [e]
theorem take_get {L : List U} {k : Nat} (h : k < L.length) : L.take (k + 1) = L.take k ++ [getL L k] := by
  rw [List.take_succ_eq_append_getElem h, getL_get h]

/-- Block b is a map of at most n names, each with the index of its first user in L. -/
def FMap (w : World) (b n : Nat) (L : List U) : Prop :=
  ∃ D : DataW Unit, w.ownsMap Tryd.prog 9 (plainElem Tryd.prog 3) b n D ∧ ∀ x : List UInt8, Maps.has D (.string x) = hasL L x ∧ (hasL L x = true → D.atKey (.string x) (.lit (.int .i64 0)) = .lit (.int .i64 (atL L x : Int)))
theorem FMap.made (w : World) : FMap (w.alloc (.map #[] 0)) w.heap.size 0 [] := ⟨_, World.ownsMap_made w _ _ _, fun x => ⟨rfl, fun h => by simp [hasL] at h⟩⟩
theorem FMap.kept {w w' : World} {b n : Nat} {L : List U} (h : FMap w b n L) (hB : Below w.heap.size w w') : FMap w' b n L := by
  obtain ⟨D, hown, hD⟩ := h
  refine ⟨D, ?_, hD⟩
  have hlt := hown.lt
  exact hown.kept (row := none) ⟨hB.os, hB.tape, hB.output, hB.size, fun k hk _ => hB.block k hk⟩ (by simp)
theorem FMap.same {w : World} {b n : Nat} {L : List U} {k : Nat} (hk : k < L.length) (h : FMap w b n (L.take k)) (hh : hasL (L.take k) (getL L k).n = true) : FMap w b (n + 1) (L.take (k + 1)) := by
  obtain ⟨D, hown, hD⟩ := h
  refine ⟨D, hown.mono (Nat.le_succ _), fun x => ?_⟩
  rw [take_get hk, has_app, at_app]
  obtain ⟨h1, h2⟩ := hD x
  by_cases e : (getL L k).n = x
  · rw [e] at hh
    exact ⟨by rw [h1, hh]; simp, fun _ => by rw [if_pos hh]; exact h2 hh⟩
  · rw [decide_eq_false e, Bool.or_false]
    exact ⟨h1, fun h => by rw [if_pos h]; exact h2 h⟩
theorem FMap.more {w w' : World} {b n : Nat} {L : List U} {k : Nat} (hk : k < L.length) {D : DataW Unit} (hown : w.ownsMap Tryd.prog 9 (plainElem Tryd.prog 3) b n D)
    (hD : ∀ x : List UInt8, Maps.has D (.string x) = hasL (L.take k) x ∧ (hasL (L.take k) x = true → D.atKey (.string x) (.lit (.int .i64 0)) = .lit (.int .i64 (atL (L.take k) x : Int))))
    (hh : hasL (L.take k) (getL L k).n = false) (hown' : w'.ownsMap Tryd.prog 9 (plainElem Tryd.prog 3) b (n + 1) (D.put (.string (getL L k).n) (.lit (.int .i64 (k : Int))))) : FMap w' b (n + 1) (L.take (k + 1)) := by
  refine ⟨_, hown', fun x => ?_⟩
  have hm := (hown.tidy lawS).isMap
  rw [take_get hk, has_app, at_app]
  obtain ⟨h1, h2⟩ := hD x
  by_cases e : (getL L k).n = x
  · subst e
    rw [has_put_same hm (isKey_str _), hh]
    refine ⟨by simp, fun _ => ?_⟩
    rw [if_neg (by simp), if_pos rfl, atKey_put_same hm (isKey_str _), List.length_take, Nat.min_eq_left (by omega)]
  · have hne : (Lit.string x) ≠ .string (getL L k).n := fun h => e (by injection h with h; exact h.symm)
    rw [has_put_other hne, h1, decide_eq_false e, Bool.or_false]
    exact ⟨rfl, fun h => by rw [if_pos h, atKey_put_other hne]; exact h2 h⟩

set_option maxRecDepth 100000 in
set_option maxHeartbeats 1600000 in
theorem firstByName_any (v : Value) (L : List U) (w : World) (h : URow w v L) (hb : Big L) :
    Calls Tryd.prog 34 #[v] w fun e w' => e = .returned (.map (some w.heap.size)) ∧ FMap w' w.heap.size L.length L ∧ Below w.heap.size w w' := by
  have HU := Lib.hid h
  have hl := hb.1
  have HN := Lib.hid (fun k => (hb.2 k).1)
  obtain ⟨p, cap, rfl, hc, hm, _⟩ := h
  clear hb
  have hmm := @run_makeMap Tryd.prog
  go_enter Tryd.func34, Tryd.ntmps34
  go_wp2
  go_loopw [11] (fun vi wr => ∃ k : Nat, vi = .int .i64 (k : Int) ∧ k ≤ L.length ∧ Hid (FMap wr w.heap.size k (L.take k)) ∧ Hid (Below w.heap.size w wr)) (fun vi _ => L.length - (intOf vi).toNat)
  case atStart => exact ⟨0, rfl, by omega, FMap.made w, (Below.refl _ w).alloc (Nat.le_refl _) _⟩
  case round =>
    obtain ⟨k, rfl, hk, HF, HB⟩ := hrel
    have hsz := HB.out.size
    by_cases hlt : k < L.length
    · obtain ⟨b, o, cap', q, c, hp, hb, hcl, c0, c1, c2, hqc, hs⟩ := HU.out.at_ HB.out hlt
      obtain ⟨rfl, rfl⟩ : p = some ⟨b, o, none⟩ ∧ cap = cap' := by injection hp with h1 h2 h3; exact ⟨h1, h3⟩
      have HB' := fun o => Lib.hid (HB.out.alloc hsz o)
      have HF' := fun o => Lib.hid (HF.out.kept ((Below.refl wr.heap.size wr).alloc (Nat.le_refl _) o))
      have hkey := keyS (x := (getL L k).n) (by have := HN.out k; omega)
      clear hp hs HF
      by_cases hh : hasL (L.take k) (getL L k).n = true
      · have HF2 := fun o => Lib.hid ((HF' o).out.same hlt hh)
        obtain ⟨D, hown, hD⟩ := (HF' (.cells #[.string (mk (getL L k).n), .string (mk (getL L k).l), .slice q (getL L k).m.length c] 32)).out
        have hhas : Maps.has D (.string (getL L k).n) = true := ((hD _).1).trans hh
        have HO := Lib.hid hown
        clear hh hown hD HF'
        generalize hu : getL L k = uk at c0 c1 c2 hqc HO hkey hhas
        clear hu
        obtain ⟨un, ul, um⟩ := uk
        go_wp2_with (at_lookup; refine wpList_lookup_own_ok_int _ rfl _ _ 53 rfl 9 3 .i64 lawS Tryd.underlying53 Tryd.underlying3 (zeroI _) w.heap.size k D rfl HO.out _ _ rfl hkey ?_; intro cc hat hwc)
        go_roundw
        case rel => exact ⟨k + 1, by go_num, by omega, HF2 _, HB' _⟩
        case measure => simp [intOf]; omega
      · have hh : hasL (L.take k) (getL L k).n = false := by simpa using hh
        obtain ⟨D, hown, hD⟩ := (HF' (.cells #[.string (mk (getL L k).n), .string (mk (getL L k).l), .slice q (getL L k).m.length c] 32)).out
        have hhas : Maps.has D (.string (getL L k).n) = false := ((hD _).1).trans hh
        have HM := Lib.hid (fun w' h' => FMap.more (w' := w') hlt hown hD hh h')
        have HO := Lib.hid hown
        clear hh hown hD HF'
        generalize hu : getL L k = uk at c0 c1 c2 hqc HO hkey hhas HM
        clear hu
        obtain ⟨un, ul, um⟩ := uk
        go_wp2_with (first
          | (at_lookup; refine wpList_lookup_own_ok_int _ rfl _ _ 53 rfl 9 3 .i64 lawS Tryd.underlying53 Tryd.underlying3 (zeroI _) w.heap.size k D rfl HO.out _ _ rfl hkey ?_; intro cc hat hwc)
          | (at_mapUpdate; refine wpList_mapUpdate_own _ rfl _ _ _ 53 rfl 9 3 lawS Tryd.underlying53 _ w.heap.size k _ rfl HO.out (by unfold maxLen; omega) _ _ _ rfl rfl hkey _ [] (plainElem_int Tryd.underlying3 (WalkArith.wf_i64 (by omega))) ?_)
          | go_in)
        intro w1 hown1 hgrow1
        have R1 := Lib.hid (HM.out _ hown1)
        have R2 := Lib.hid ((HB' _).out.grown hgrow1 (by simp; omega) (fun j hj => by cases hj; exact Nat.le_refl _))
        clear hown1 hgrow1
        go_wp2
        go_roundw
        case rel => exact ⟨k + 1, by go_num, by omega, R1, R2⟩
        case measure => simp [intOf]; omega
    · have hkn : k = L.length := by omega
      have HF2 := HF.out
      rw [hkn, List.take_length] at HF2
      have HF3 := Lib.hid HF2
      clear hkn HF2
      go_wp2
      go_ret
      exact ⟨rfl, HF3.out, HB.out⟩
end Go.Proofs.YtadnkbhigcegmaaDoor
