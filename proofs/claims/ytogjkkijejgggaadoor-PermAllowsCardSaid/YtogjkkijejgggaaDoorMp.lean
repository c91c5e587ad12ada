/-
  The walks over the statements of layer 6, first part: texts, open modes, what is inherited.
-/
import Derived.Test.YtogjkkijejgggaaDoorMo
namespace Go.Proofs.YtogjkkijejgggaaDoor
open Go.RowKit

set_option maxRecDepth 100000 in
set_option maxHeartbeats 3200000 in
theorem permTexts_walk (m : Int) (s : ByteArray) (hm : inI m) (hs : s.size ≤ maxLen) (W : World) (g : G W) :
    Calls Tryd.prog 3 #[.int .i64 m, .string s] W fun e w' => e = .returned (.bool true) ∧ Below W.heap.size W w' := by
  obtain ⟨l, rfl⟩ : ∃ l, s = mk l := ⟨s.data.toList, (mk_of s).symm⟩
  have A := Lib.hid (fun w' (h : Below W.heap.size W w') => alive_any w' (g.below h))
  have hsz := mk_size l
  by_cases hlen : l.length ≤ 100
  · have hs2 : ((mk l).size : Int) ≤ 100 := by omega
    have PA := Lib.hid (Parse_any l (by omega) W g)
    have PR := Lib.hid (fun w' => RParse_any l (by omega) w')
    have TA := Lib.hid (fun w' (h : Below W.heap.size W w') => Text_any m hm w' (g.below h))
    have TR := Lib.hid (fun w' => RText_any m hm w')
    have YA := Lib.hid (fun w' => Type_any m hm w')
    have YR := Lib.hid (fun w' => RType_any m hm w')
    generalize parseI l = p at *
    generalize textI m = t at *
    generalize typeI m = y at *
    obtain ⟨p1, p2⟩ := p
    dsimp only at PA PR
    clear hsz hlen g hm
    go_enter Tryd.func3, Tryd.ntmps3
    go_wp2_with fail
    refine PA.out.mono ?_
    rintro e w1 ⟨rfl, hB⟩
    have HB := Lib.hid hB
    clear hB
    go_wp2_with fail
    refine (PR.out _).mono ?_
    rintro e w2 ⟨rfl, hB⟩
    replace HB := Lib.hid (HB.out.trans (hB.mono HB.out.size))
    clear hB
    go_wp2_with fail
    refine (TA.out _ HB.out).mono ?_
    rintro e w3 ⟨rfl, hB⟩
    replace HB := Lib.hid (HB.out.trans (hB.mono HB.out.size))
    clear hB
    go_wp2_with fail
    refine (TR.out _).mono ?_
    rintro e w4 ⟨rfl, hB⟩
    replace HB := Lib.hid (HB.out.trans (hB.mono HB.out.size))
    clear hB
    go_wp2_with fail
    refine (YA.out _).mono ?_
    rintro e w' ⟨rfl, rfl⟩
    go_wp2_with fail
    refine (YR.out _).mono ?_
    rintro e w' ⟨rfl, rfl⟩
    go_wp2_with fail
    refine (A.out _ HB.out).mono ?_
    rintro e w5 ⟨rfl, hB⟩
    replace HB := Lib.hid (HB.out.trans (hB.mono HB.out.size))
    clear hB
    go_wp2
    go_ret
    exact ⟨rfl, HB.out⟩
  · have hs2 : (100 : Int) < ((mk l).size : Int) := by omega
    unfold maxLen at hs
    clear hlen hsz g
    go_enter Tryd.func3, Tryd.ntmps3
    go_wp2_with fail
    refine (A.out _ (Below.refl _ _)).mono ?_
    rintro e w1 ⟨rfl, hB⟩
    have HB := Lib.hid hB
    clear hB
    go_wp2
    go_ret
    exact ⟨rfl, HB.out⟩

set_option maxRecDepth 100000 in
set_option maxHeartbeats 3200000 in
theorem permOpens_walk (m d f : Int) (hm : inI m) (hd : inI d) (hf : inI f) (W : World) (g : G W) :
    Calls Tryd.prog 4 #[.int .i64 m, .int .i64 d, .int .i64 f] W fun e w' => e = .returned (.bool true) ∧ Below W.heap.size W w' := by
  have A := Lib.hid (alive_any W g)
  have OA := Lib.hid (Open_any m hm W)
  have OR := Lib.hid (ROpen_any m hm W)
  have IA := Lib.hid (Inherit_any d f hd hf W)
  have IR := Lib.hid (RInherit_any d f hd hf W)
  generalize openI m = o at *
  generalize inhI d f = i at *
  obtain ⟨o1, o2⟩ := o
  dsimp only at OA OR
  clear hm hd hf g
  go_enter Tryd.func4, Tryd.ntmps4
  go_wp2_with fail
  refine OA.out.mono ?_
  rintro e w' ⟨rfl, rfl⟩
  go_wp2_with fail
  refine OR.out.mono ?_
  rintro e w' ⟨rfl, rfl⟩
  go_wp2_with fail
  refine IA.out.mono ?_
  rintro e w' ⟨rfl, rfl⟩
  go_wp2_with fail
  refine IR.out.mono ?_
  rintro e w' ⟨rfl, rfl⟩
  go_wp2_with fail
  refine A.out.mono ?_
  rintro e w5 ⟨rfl, hB⟩
  have HB := Lib.hid hB
  clear hB
  go_wp2
  go_ret
  exact ⟨rfl, HB.out⟩

set_option maxRecDepth 100000 in
set_option maxHeartbeats 3200000 in
theorem permInherits_walk (d m : Int) (hd : inI d) (hm : inI m) (W : World) (g : G W) :
    Calls Tryd.prog 8 #[.int .i64 d, .int .i64 m] W fun e w' => e = .returned (.bool true) ∧ Below W.heap.size W w' := by
  have A := Lib.hid (alive_any W g)
  have I1 := Lib.hid (Inherit_any d m hd hm W)
  clear g
  by_cases hb : 0 ≤ d ∧ 0 ≤ m
  · obtain ⟨b0, b1⟩ := hb
    obtain ⟨l0, l1, l2, l3, l4, l5⟩ := inh_laws b1 hm.2 b0
    have I2 := Inherit_any d (inhI d m) hd ⟨by have := l0; omega, by have := hm.2; omega⟩ W
    rw [l5] at I2
    have Y1 := Type_any (inhI d m) ⟨by omega, by have := hm.2; omega⟩ W
    rw [l4] at Y1
    have Y2 := Lib.hid (Type_any m hm W)
    generalize typeI m = y at *
    generalize inhI d m = i at *
    replace I2 := Lib.hid I2
    replace Y1 := Lib.hid Y1
    obtain ⟨hm1, hm2⟩ := hm
    obtain ⟨hd1, hd2⟩ := hd
    clear l4 l5
    go_enter Tryd.func8, Tryd.ntmps8
    go_wp2_with fail
    refine I1.out.mono ?_
    rintro e w' ⟨rfl, rfl⟩
    go_wp2_with fail
    refine Y1.out.mono ?_
    rintro e w' ⟨rfl, rfl⟩
    go_wp2_with fail
    refine Y2.out.mono ?_
    rintro e w' ⟨rfl, rfl⟩
    go_wp2_with fail
    refine I2.out.mono ?_
    rintro e w' ⟨rfl, rfl⟩
    go_wp2_with fail
    refine A.out.mono ?_
    rintro e w5 ⟨rfl, hB⟩
    have HB := Lib.hid hB
    clear hB
    go_wp2
    go_ret
    exact ⟨rfl, HB.out⟩
  · have e0 : inhI d m = 0 := by unfold inhI; exact if_neg hb
    rw [e0] at I1
    clear e0
    by_cases b0 : 0 ≤ d
    all_goals
      (try (have b1 : m < 0 := by omega))
      clear hb
      go_enter Tryd.func8, Tryd.ntmps8
      go_wp2_with fail
      refine I1.out.mono ?_
      rintro e w' ⟨rfl, rfl⟩
      go_wp2_with fail
      refine A.out.mono ?_
      rintro e w5 ⟨rfl, hB⟩
      have HB := Lib.hid hB
      clear hB
      go_wp2
      go_ret
      exact ⟨rfl, HB.out⟩
end Go.Proofs.YtogjkkijejgggaaDoor
