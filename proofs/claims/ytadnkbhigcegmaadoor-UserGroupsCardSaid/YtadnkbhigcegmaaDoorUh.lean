/-
  isGroup; package user's Check.
-/
import Derived.Test.YtadnkbhigcegmaaDoorUg
import Derived.Laws.Cover1
namespace Go.Proofs.YtadnkbhigcegmaaDoor
open Go.RowKit Go.Maps Go.WideMaps Go.WideShapes

theorem memsOk_true {L : List U} {ms : List (List UInt8)} (h : ∀ k, k < ms.length → memOk L ms k = true) : memsOk L ms = true := by unfold memsOk; exact decide_eq_true h
theorem memsOk_false {L : List U} {ms : List (List UInt8)} {k : Nat} (hk : k < ms.length) (h : memOk L ms k = false) : memsOk L ms = false := by
  unfold memsOk
  rw [decide_eq_false_iff_not]
  intro H
  rw [H k hk] at h; cases h
theorem memOk_go {L : List U} {ms : List (List UInt8)} {k : Nat} (h : ∀ j, j < k → memOk L ms j = true) (he : memOk L ms k = true) : ∀ j, j < k + 1 → memOk L ms j = true := fun j hj => by
  by_cases e : j = k
  · subst e; exact he
  · exact h j (by omega)
theorem memOk_not {L : List U} {ms : List (List UInt8)} {k : Nat} (h : hasL L (ms.getD k []) = false) : memOk L ms k = false := by unfold memOk; rw [h]; rfl
theorem memOk_zero {L : List U} {ms : List (List UInt8)} (h : hasL L (ms.getD 0 []) = true) : memOk L ms 0 = true := by unfold memOk; rw [h]; simp
theorem memOk_succ {L : List U} {ms : List (List UInt8)} {k : Nat} (h : hasL L (ms.getD (k + 1) []) = true) : memOk L ms (k + 1) = ltL (ms.getD k []) (ms.getD (k + 1) []) := by unfold memOk; rw [h]; simp

set_option maxRecDepth 100000 in
set_option maxHeartbeats 3200000 in
theorem isGroup_any (u : U) (L : List U) (q : Option Addr) (c b n : Nat) (w : World) (hs : SRow w (.slice q u.m.length c) u.m) (hF : FMap w b n L) (hml : u.m.length ≤ 100000) (hll : u.l.length ≤ 100000) (hmm : ∀ j, (u.m.getD j []).length ≤ 100000) :
    Calls Tryd.prog 35 #[.agg #[.string (mk u.n), .string (mk u.l), .slice q u.m.length c], .map (some b)] w fun e w' => e = .returned (.bool (groupL L u)) ∧ Below w.heap.size w w' := by
  obtain ⟨un, ul, um⟩ := u
  simp only at hs hml hll hmm ⊢
  obtain ⟨_, _, hv, hqc, hqm, _⟩ := id hs
  injection hv with hv1 hv2 hv3
  subst hv1 hv3
  have hB := (Below.refl w.heap.size w).alloc (Nat.le_refl _) (.cells #[.string (mk un), .string (mk ul), .slice q um.length c] 32)
  have HS := Lib.hid (hs.below hB)
  have HF := Lib.hid (hF.kept hB)
  have HB := Lib.hid hB
  have HML := Lib.hid hmm
  have hcb : (um.length : Int) ≤ (c : Int) := by omega
  have hg : groupL L ⟨un, ul, um⟩ = (leadOk L ul && memsOk L um) := rfl
  rw [hg]
  clear hs hF hB hv2 hmm hg
  obtain ⟨D, hown, hD⟩ := HF.out
  have HO := Lib.hid hown
  have HD := Lib.hid (fun x => (hD x).1)
  have hkey := keyS (x := ul) (by omega)
  have hhas := HD.out ul
  clear hown hD HF
  by_cases hlead : leadOk L ul = true
  · rw [hlead, Bool.true_and]
    have hcases : (hasL L ul = true) ∨ (hasL L ul = false ∧ ul = []) := by
      unfold leadOk at hlead
      rw [Bool.or_eq_true] at hlead
      cases hx : hasL L ul with
      | true => exact .inl rfl
      | false =>
        refine .inr ⟨rfl, ?_⟩
        rcases hlead with h | h
        · simpa using h
        · rw [hx] at h; cases h
    have hstart : (Maps.has D (.string ul) = true) ∨ (Maps.has D (.string ul) = false ∧ (mk ul).toList = [] ∧ (mk ul).toList.isEmpty = true) := by
      rcases hcases with h | ⟨h1, h2⟩
      · exact .inl (hhas.trans h)
      · exact .inr ⟨hhas.trans h1, by rw [mk_toList]; exact h2, by rw [mk_toList, h2]; rfl⟩
    have hT := Lib.hid (fun h => memsOk_true (L := L) (ms := um) h)
    have hN := Lib.hid (fun k hk h => memsOk_false (L := L) (ms := um) (k := k) hk h)
    clear hcases hlead hhas
    generalize memsOk L um = res at hT hN ⊢
    rcases hstart with h0 | ⟨h0, h1, h2⟩
    all_goals
      go_enter Tryd.func35, Tryd.ntmps35
      go_wp2_with (at_lookup; refine wpList_lookup_own_ok_int _ rfl _ _ 53 rfl 9 3 .i64 lawS Tryd.underlying53 Tryd.underlying3 (zeroI _) b n D rfl HO.out _ _ rfl hkey ?_; intro cc hat hwc)
      clear h0 hat hwc hkey
      go_loop [28] (fun vi => ∃ k : Nat, vi = .int .i64 (k : Int) ∧ k ≤ um.length ∧ Hid (∀ j, j < k → memOk L um j = true)) (fun vi => um.length - (intOf vi).toNat)
      case atStart => exact ⟨0, rfl, by omega, fun j hj => by omega⟩
      case round =>
        obtain ⟨k, rfl, hk, ha⟩ := hrel
        by_cases hlt : k < um.length
        · obtain ⟨bb, o, hp, hb, c0⟩ := HS.out.at_ (Below.refl _ _) hlt
          subst hp
          have hkey := keyS (x := um.getD k []) (by have := HML.out k; omega)
          have hhas := HD.out (um.getD k [])
          by_cases hh : hasL L (um.getD k []) = true
          · rw [hh] at hhas
            cases k with
            | zero =>
              have HA := Lib.hid (memOk_go ha.out (memOk_zero hh))
              clear hh
              generalize um.getD 0 [] = t at c0 hkey hhas
              rw [Nat.add_zero] at c0
              go_wp2_with (at_lookup; refine wpList_lookup_own_ok_int _ rfl _ _ 53 rfl 9 3 .i64 lawS Tryd.underlying53 Tryd.underlying3 (zeroI _) b n D rfl HO.out _ _ rfl hkey ?_; intro cc hat hwc)
              exact ⟨⟨1, rfl, by omega, HA⟩, by simp [intOf]; omega⟩
            | succ j =>
              obtain ⟨bb', o', hp', hb', c1⟩ := HS.out.at_ (Below.refl _ _) (show j < um.length by omega)
              injection hp' with hp'
              injection hp' with hp1 hp2
              subst hp1 hp2
              have hm := memOk_succ (ms := um) hh
              have htot := lt_total (um.getD (j + 1) []) (um.getD j [])
              have hge : ((j + 1 : Nat) : Int) - 1 = (j : Int) := by omega
              by_cases hlq : ltL (um.getD j []) (um.getD (j + 1) []) = true
              · have HA := Lib.hid (memOk_go ha.out (hm.trans hlq))
                have hq : (Op.bytesLess (mk (um.getD (j + 1) [])).toList (mk (um.getD j [])).toList || (mk (um.getD (j + 1) [])).toList == (mk (um.getD j [])).toList) = false := by
                  rw [mk_toList, mk_toList, htot]; unfold ltL at hlq; rw [hlq]; rfl
                clear hh hm htot hlq
                generalize um.getD (j + 1) [] = t at c0 hkey hhas hq
                generalize um.getD j [] = t' at c1 hq
                go_wp2_with (at_lookup; refine wpList_lookup_own_ok_int _ rfl _ _ 53 rfl 9 3 .i64 lawS Tryd.underlying53 Tryd.underlying3 (zeroI _) b n D rfl HO.out _ _ rfl hkey ?_; intro cc hat hwc)
                exact ⟨⟨j + 1 + 1, by go_num, by omega, HA⟩, by simp [intOf]; omega⟩
              · have hlq : ltL (um.getD j []) (um.getD (j + 1) []) = false := by simpa using hlq
                have HA := Lib.hid (hN.out _ hlt (hm.trans hlq))
                have hq : (Op.bytesLess (mk (um.getD (j + 1) [])).toList (mk (um.getD j [])).toList || (mk (um.getD (j + 1) [])).toList == (mk (um.getD j [])).toList) = true := by
                  rw [mk_toList, mk_toList, htot]; unfold ltL at hlq; rw [hlq]; rfl
                clear hh hm htot hlq
                generalize um.getD (j + 1) [] = t at c0 hkey hhas hq
                generalize um.getD j [] = t' at c1 hq
                go_wp2_with (at_lookup; refine wpList_lookup_own_ok_int _ rfl _ _ 53 rfl 9 3 .i64 lawS Tryd.underlying53 Tryd.underlying3 (zeroI _) b n D rfl HO.out _ _ rfl hkey ?_; intro cc hat hwc)
                go_ret
                rw [HA.out]
                exact ⟨rfl, HB.out⟩
          · have hh : hasL L (um.getD k []) = false := by simpa using hh
            rw [hh] at hhas
            have HA := Lib.hid (hN.out k hlt (memOk_not hh))
            clear hh
            generalize um.getD k [] = t at c0 hkey hhas
            go_wp2_with (at_lookup; refine wpList_lookup_own_ok_int _ rfl _ _ 53 rfl 9 3 .i64 lawS Tryd.underlying53 Tryd.underlying3 (zeroI _) b n D rfl HO.out _ _ rfl hkey ?_; intro cc hat hwc)
            go_ret
            rw [HA.out]
            exact ⟨rfl, HB.out⟩
        · have hkn : k = um.length := by omega
          have HA := Lib.hid (hT.out (by rw [← hkn]; exact ha.out))
          clear hkn
          go_wp2
          go_ret
          rw [HA.out]
          exact ⟨rfl, HB.out⟩
  · have hlead : leadOk L ul = false := by simpa using hlead
    rw [hlead, Bool.false_and]
    unfold leadOk at hlead
    rw [Bool.or_eq_false_iff] at hlead
    obtain ⟨h1, h2⟩ := hlead
    rw [h2] at hhas
    have g1 : (mk ul).toList ≠ [] := by rw [mk_toList]; simpa using h1
    have g0 : (mk ul).toList.isEmpty = false := by simp [g1]
    clear h1 h2
    go_enter Tryd.func35, Tryd.ntmps35
    go_wp2_with (at_lookup; refine wpList_lookup_own_ok_int _ rfl _ _ 53 rfl 9 3 .i64 lawS Tryd.underlying53 Tryd.underlying3 (zeroI _) b n D rfl HO.out _ _ rfl hkey ?_; intro cc hat hwc)
    go_ret
    exact ⟨rfl, HB.out⟩
end Go.Proofs.YtadnkbhigcegmaaDoor
