/-
  Walks: StatReturns.
-/
import Derived.Test.YtinjnbcikoejkaaDoorSu
import Derived.Test.YtinjnbcikoejkaaDoorSz
namespace Go.Proofs.YtinjnbcikoejkaaDoor
open Go.RowKit

set_option maxRecDepth 100000 in
set_option maxHeartbeats 6400000 in
theorem statReturns_walk (d : DD) (hd : inD d) (hb : bigD d) (s1 : ByteArray) (hs1 : s1.size ≤ maxLen) (s2 : ByteArray) (hs2 : s2.size ≤ maxLen) (w : World) (g : G w) :
    Calls Tryd.prog 8 #[dirV d, .string s1, .string s2] w fun e w' => e = .returned (.bool true) ∧ Below w.heap.size w w' := by
  unfold maxLen at hs1 hs2
  have hB0 : Below w.heap.size w (w.alloc (.cells (cellsA d) 25)) := (Below.refl _ w).alloc (Nat.le_refl _) _
  have hK0 := BlkD.new w d
  have hA := Lib.hid (fun W (h : Below w.heap.size w W) => awake_any W (g.below h))
  have hR := Lib.hid (fun W => RCheck_any d hd hb W)
  have hP := Lib.hid (fun W g => Put_dir d hd hb W g)
  have HG := Lib.hid g
  generalize hW : w.alloc (.cells (cellsA d) 25) = W at hB0 hK0
  replace hW := Lib.hid hW
  have HB0 := Lib.hid hB0
  have HK0 := Lib.hid hK0
  clear hB0 hK0 g hd hb
  unfold dirV at hR hP ⊢
  by_cases h1 : 200 < s1.size
  · go_enter Tryd.func8, Tryd.ntmps8
    go_wp2_with fail
    simp only [hW.out]
    refine (hA.out _ HB0.out).mono ?_
    rintro e W2 ⟨rfl, hB2⟩
    have HB2 := Lib.hid (HB0.out.trans (hB2.mono HB0.out.size))
    clear hB2
    go_wp2
    go_ret
    exact ⟨rfl, HB2.out⟩
  by_cases h2 : 200 < s2.size
  · go_enter Tryd.func8, Tryd.ntmps8
    go_wp2_with fail
    simp only [hW.out]
    refine (hA.out _ HB0.out).mono ?_
    rintro e W2 ⟨rfl, hB2⟩
    have HB2 := Lib.hid (HB0.out.trans (hB2.mono HB0.out.size))
    clear hB2
    go_wp2
    go_ret
    exact ⟨rfl, HB2.out⟩
  obtain ⟨p, rfl⟩ : ∃ p, s1 = mk p := ⟨_, (mk_of s1).symm⟩
  obtain ⟨q, rfl⟩ : ∃ q, s2 = mk q := ⟨_, (mk_of s2).symm⟩
  have d1 : decide ((200 : Int) < ((mk p).size : Int)) = false := decide_eq_false (by omega)
  have d2 : decide ((200 : Int) < ((mk q).size : Int)) = false := decide_eq_false (by omega)
  by_cases hc : checkR d = 0
  · have hpl := putS_len hc
    have hgp := get_put hc p q
    have z1 := mk_size p
    have z2 := mk_size q
    have hGt := fun W g => Get_dir (p ++ ((putS d).1 ++ q)) (p.length : Int) (by simp; omega) W g
    rw [hgp, ← z1] at hGt
    rw [hc] at hR
    rw [hpl.2] at hP
    obtain ⟨hpl, _⟩ := hpl
    generalize (putS d).1 = x at *
    have z3 := mk_size x
    have a1 : ∀ W, (Op.stringOp .add (mk p) (mk x)).run Tryd.prog W = .ok (.string (mk (p ++ x))) W := add_mk (by omega) rfl
    have a2 : ∀ W, (Op.stringOp .add (mk (p ++ x)) (mk q)).run Tryd.prog W = .ok (.string (mk (p ++ (x ++ q)))) W := add_mk (by simp; omega) (by simp)
    have hsum : (((mk p).size + x.length : Nat) : Int) = ((mk p).size : Int) + ((mk x).size : Int) := by rw [z3]; omega
    unfold dirV at hGt
    simp only [hsum] at hGt
    replace hGt := Lib.hid hGt
    have hx3 : (mk x).size ≤ 313 := by omega
    have hE := eql_dir d d
    have hgd := fun x y => guard_dir .eql x y d d
    rw [eqB_self d] at hE
    clear hgp hc hsum z1 z2 z3
    go_enter Tryd.func8, Tryd.ntmps8
    go_wp2_with (simp only [hW.out]; refine wpList_gload_row rfl 25 _ rfl w.heap.size rfl 25 (cellsA d) (0, 0) _ HK0.out Tryd.underlying25 rfl (by kernel_rfl) ?_)
    refine (hR.out _).mono ?_
    rintro e W1 ⟨rfl, hB1⟩
    have HB1 := Lib.hid (HB0.out.trans (hB1.mono HB0.out.size))
    have HK1 := Lib.hid (HK0.out.below hB1 HK0.out.lt)
    clear hB1
    go_wp2_with (refine wpList_load_row rfl 25 _ rfl w.heap.size rfl 25 (cellsA d) (0, 0) _ HK1.out Tryd.underlying25 rfl (by kernel_rfl) ?_)
    refine (hP.out _ (HG.out.below HB1.out)).mono ?_
    rintro e W2 ⟨rfl, hB2⟩
    have HB2 := Lib.hid (HB1.out.trans (hB2.mono HB1.out.size))
    have HK2 := Lib.hid (HK1.out.below hB2 HK1.out.lt)
    clear hB2
    go_wp2_with fail
    refine (hGt.out _ (HG.out.below HB2.out)).mono ?_
    rintro e W3 ⟨rfl, hB3⟩
    have HB3 := HB2.out.trans (hB3.mono HB2.out.size)
    have HK3 := HK2.out.below hB3 HK2.out.lt
    obtain ⟨W4, hW4, HB4, HK4, HX4⟩ : ∃ W4, W3.alloc (.cells (cellsA d) 25) = W4 ∧ Below w.heap.size w W4 ∧ BlkD W4 w.heap.size d ∧ BlkD W4 W3.heap.size d := ⟨_, rfl, HB3.alloc HB3.size _, HK3.alloc _, BlkD.new W3 d⟩
    replace hW4 := Lib.hid hW4
    replace HB4 := Lib.hid HB4
    replace HK4 := Lib.hid HK4
    replace HX4 := Lib.hid HX4
    clear hB3 HB3 HK3
    go_wp2_with (first
      | (refine wpList_store_row rfl 25 _ _ rfl W3.heap.size (cellsA d) rfl rfl 25 (cellsA noD) (heap_alloc_new W3 _) (by kernel_rfl) rfl (cellsA_one d) ?_; rw [World.setRow_alloc_new, hW4.out])
      | (refine wpList_gload_row rfl 25 _ rfl W3.heap.size rfl 25 (cellsA d) (0, 0) _ HX4.out Tryd.underlying25 rfl (by kernel_rfl) ?_)
      | (refine wpList_gload_row rfl 25 _ rfl w.heap.size rfl 25 (cellsA d) (0, 0) _ HK4.out Tryd.underlying25 rfl (by kernel_rfl) ?_))
    refine (hA.out _ HB4.out).mono ?_
    rintro e W5 ⟨rfl, hB5⟩
    have HB5 := Lib.hid (HB4.out.trans (hB5.mono HB4.out.size))
    clear hB5
    go_wp2
    go_ret
    exact ⟨rfl, HB5.out⟩
  · generalize checkR d = c at *
    have hne : (c != 0) = true := by simpa using hc
    clear hc
    go_enter Tryd.func8, Tryd.ntmps8
    go_wp2_with (simp only [hW.out]; refine wpList_gload_row rfl 25 _ rfl w.heap.size rfl 25 (cellsA d) (0, 0) _ HK0.out Tryd.underlying25 rfl (by kernel_rfl) ?_)
    refine (hR.out _).mono ?_
    rintro e W1 ⟨rfl, hB1⟩
    have HB1 := Lib.hid (HB0.out.trans (hB1.mono HB0.out.size))
    clear hB1
    go_wp2_with fail
    refine (hA.out _ HB1.out).mono ?_
    rintro e W2 ⟨rfl, hB2⟩
    have HB2 := Lib.hid (HB1.out.trans (hB2.mono HB1.out.size))
    clear hB2
    go_wp2
    go_ret
    exact ⟨rfl, HB2.out⟩
end Go.Proofs.YtinjnbcikoejkaaDoor
