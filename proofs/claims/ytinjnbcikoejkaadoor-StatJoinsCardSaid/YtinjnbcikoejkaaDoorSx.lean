/-
  Walks: StatGets.
-/
import Derived.Test.YtinjnbcikoejkaaDoorSt
import Derived.Test.YtinjnbcikoejkaaDoorSs
namespace Go.Proofs.YtinjnbcikoejkaaDoor
open Go.RowKit

set_option maxRecDepth 100000 in
set_option maxHeartbeats 6400000 in
theorem statGets_walk (s : ByteArray) (a : Int) (hs : s.size ≤ maxLen) (ha : inI a) (w : World) (g : G w) :
    Calls Tryd.prog 5 #[.string s, .int .i64 a] w fun e w' => e = .returned (.bool true) ∧ Below w.heap.size w w' := by
  unfold maxLen at hs
  have hA := Lib.hid (fun W (h : Below w.heap.size w W) => awake_any W (g.below h))
  by_cases h5 : 5000 < s.size
  · go_enter Tryd.func5, Tryd.ntmps5
    go_wp2_with fail
    refine (hA.out _ (Below.refl _ _)).mono ?_
    rintro e W2 ⟨rfl, hB2⟩
    have HB2 := Lib.hid hB2
    clear hB2
    go_wp2
    go_ret
    exact ⟨rfl, HB2.out⟩
  · have hP := fun W g => Get_dir s.data.toList a (by rw [show s.data.toList.length = s.size from Array.length_toList]; omega) W g
    have hQ := fun W => RGet_any s.data.toList a ha (by rw [mk_of]; omega) W
    rw [← getS_PQ] at hQ
    rw [mk_of] at hP hQ
    unfold dirV at hP hQ
    generalize getS numP s.data.toList a = res at *
    obtain ⟨D, n, er⟩ := res
    dsimp only at hP hQ
    replace hP := Lib.hid hP
    replace hQ := Lib.hid hQ
    have HG := Lib.hid g
    have hE := eql_dir D D
    have hgd := fun x y => guard_dir .eql x y D D
    rw [eqB_self D] at hE
    have hnn : (n == n) = true := by simp
    have hee : (er == er) = true := by simp
    clear g
    go_enter Tryd.func5, Tryd.ntmps5
    go_wp2_with fail
    refine (hP.out _ HG.out).mono ?_
    rintro e W1 ⟨rfl, hB1⟩
    obtain ⟨Wa, hWa, HBa, HKa⟩ : ∃ Wa, W1.alloc (.cells (cellsA D) 25) = Wa ∧ Below w.heap.size w Wa ∧ BlkD Wa W1.heap.size D := ⟨_, rfl, hB1.alloc hB1.size _, BlkD.new W1 D⟩
    replace hWa := Lib.hid hWa
    replace HBa := Lib.hid HBa
    replace HKa := Lib.hid HKa
    clear hB1 hP
    go_wp2_with (refine wpList_store_row rfl 25 _ _ rfl W1.heap.size (cellsA D) rfl rfl 25 (cellsA noD) (heap_alloc_new W1 _) (by kernel_rfl) rfl (cellsA_one D) ?_; rw [World.setRow_alloc_new, hWa.out])
    refine (hQ.out _).mono ?_
    rintro e W2 ⟨rfl, hB2⟩
    obtain ⟨Wb, hWb, HBb, HKb, HKc⟩ : ∃ Wb, W2.alloc (.cells (cellsA D) 25) = Wb ∧ Below w.heap.size w Wb ∧ BlkD Wb W1.heap.size D ∧ BlkD Wb W2.heap.size D :=
      ⟨_, rfl, (HBa.out.trans (hB2.mono HBa.out.size)).alloc (HBa.out.trans (hB2.mono HBa.out.size)).size _, (HKa.out.below hB2 HKa.out.lt).alloc _, BlkD.new W2 D⟩
    replace hWb := Lib.hid hWb
    replace HBb := Lib.hid HBb
    replace HKb := Lib.hid HKb
    replace HKc := Lib.hid HKc
    clear hB2 hQ
    go_wp2_with (first
      | (refine wpList_store_row rfl 25 _ _ rfl W2.heap.size (cellsA D) rfl rfl 25 (cellsA noD) (heap_alloc_new W2 _) (by kernel_rfl) rfl (cellsA_one D) ?_; rw [World.setRow_alloc_new, hWb.out])
      | (refine wpList_load_row rfl 25 _ rfl W1.heap.size rfl 25 (cellsA D) (0, 0) _ HKb.out Tryd.underlying25 rfl (by kernel_rfl) ?_)
      | (refine wpList_load_row rfl 25 _ rfl W2.heap.size rfl 25 (cellsA D) (0, 0) _ HKc.out Tryd.underlying25 rfl (by kernel_rfl) ?_))
    refine (hA.out _ HBb.out).mono ?_
    rintro e W3 ⟨rfl, hB3⟩
    have HB3 := Lib.hid (HBb.out.trans (hB3.mono HBb.out.size))
    clear hB3
    go_wp2
    go_ret
    exact ⟨rfl, HB3.out⟩
end Go.Proofs.YtinjnbcikoejkaaDoor
