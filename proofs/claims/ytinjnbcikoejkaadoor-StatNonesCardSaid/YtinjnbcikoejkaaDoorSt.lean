/-
  Walks: the fixed examples.
-/
import Derived.Test.YtinjnbcikoejkaaDoorSo
import Derived.Test.YtinjnbcikoejkaaDoorSj
import Derived.Test.YtinjnbcikoejkaaDoorSh
import Derived.BigFrame
namespace Go.Proofs.YtinjnbcikoejkaaDoor
open Go.RowKit

def exD : DD := ⟨1, 0, 128, 2, 1, 2147484141, 5, 6, 0, [47], [97, 100, 109], [97, 100, 109], []⟩
def exS : List UInt8 := [62, 0, 1, 0, 0, 0, 0, 0, 128, 2, 0, 0, 0, 1, 0, 0, 0, 0, 0, 0, 0, 237, 1, 0, 128, 5, 0, 0, 0, 0, 0, 0, 0, 6, 0, 0, 0, 0, 0, 0, 0, 0, 0, 0, 0, 0, 0, 0, 0, 1, 0, 47, 3, 0, 97, 100, 109, 3, 0, 97, 100, 109, 0, 0]
set_option maxRecDepth 100000 in
theorem ex_put : putS exD = (exS, 0) := by kernel_rfl
set_option maxRecDepth 100000 in
theorem ex_get : getS numP exS 0 = (exD, 64, 0) := by kernel_rfl
theorem ex_in : inD exD := fun k hk => by
  rcases k9 hk with rfl | rfl | rfl | rfl | rfl | rfl | rfl | rfl | rfl <;> exact ⟨by decide, by decide⟩
theorem ex_big : bigD exD := fun k hk => by
  unfold maxLen
  rcases k4 hk with rfl | rfl | rfl | rfl <;> decide

/-- A whole description out of its block, where the operation has a guard that says yes. -/
theorem wpList_gload_row {P : Program} {ops : Array Oper} {rest : List Oper} {o : Oper} {a : Act} {w : World} {Q : Exit → Act → World → Prop} (hw : Region.wanted o (yielded ops a.tmps) = true) (ty : TypeId) (x : Operand) (ho : o.op = .load ty x)
    (g : Nat) (hx : a.eval x = .pointer (some ⟨g, 0, none⟩)) (t : TypeId) (cs : Array Value) (fr : Nat × Nat) (d : TypeDesc) (hg : w.heap[g]? = some (.cells cs t fr))
    (hu : P.underlying ty = some d) (hd : (match d with | .struct _ | .array _ _ => true | _ => false) = true) (hi : (P.info? ty).map (·.size) = some cs.size)
    (h : wpList P ops Q rest (a.put o.dst (.agg cs)) w) : wpList P ops Q (o :: rest) a w :=
  BigFrame.wpList_want hw fun _ hK => wp_load_row ty x ho g hx t cs fr d hg hu hd hi (hK _ _ h)

/-- Walks: a description is laid into a new block. -/
theorem ex_alloc (w : World) : ∃ W, w.alloc (.cells #[.int .i64 1, .int .i64 0, .int .i64 128, .int .i64 2, .int .i64 1, .int .i64 2147484141, .int .i64 5, .int .i64 6, .int .i64 0, .string ⟨#[47]⟩, .string ⟨#[97, 100, 109]⟩, .string ⟨#[97, 100, 109]⟩, .string ⟨#[]⟩] 25) = W ∧ Below w.heap.size w W ∧ BlkD W w.heap.size exD ∧ w.heap.size < W.heap.size :=
  ⟨_, rfl, (Below.refl _ w).alloc (Nat.le_refl _) _, BlkD.new w exD, by simp⟩

set_option maxRecDepth 100000 in
set_option maxHeartbeats 6400000 in
theorem awake_any (w : World) (g : G w) :
    Calls Tryd.prog 11 #[] w fun e w' => e = .returned (.bool true) ∧ Below w.heap.size w w' := by
  obtain ⟨W, hW, hB0, hK0, hsz⟩ := ex_alloc w
  have hP := Lib.hid (fun W g => Put_dir exD ex_in ex_big W g)
  rw [ex_put] at hP
  have hGt := Lib.hid (fun W g => Get_dir exS 0 (by decide) W g)
  rw [ex_get] at hGt
  have hs : (mk exS).size = 64 := rfl
  have h0 : ((mk exS)[0]'(by rw [hs]; omega)) = 62 := rfl
  have hCh := Lib.hid (fun W => Changes_any exD W)
  rw [show eqB exD noneD = false from by decide] at hCh
  have hCn := Lib.hid (fun W => Changes_any noneD W)
  rw [show eqB noneD noneD = true from by decide] at hCn
  have hE := eql_dir exD exD
  have hgd := fun x y => guard_dir .eql x y exD exD
  rw [show eqB exD exD = true from by decide] at hE
  unfold dirV at hP hGt hCh hCn
  have HG := Lib.hid g
  replace hW := Lib.hid hW
  replace hB0 := Lib.hid hB0
  replace hK0 := Lib.hid hK0
  clear g
  generalize hxs : exS = S at *
  generalize hxd : exD = D at *
  replace hxd := Lib.hid hxd
  clear hxs
  dsimp only at hP hGt
  go_enter Tryd.func11, Tryd.ntmps11
  go_wp2_with (simp only [hW.out]; refine wpList_load_row rfl 25 _ rfl w.heap.size rfl 25 (cellsA D) (0, 0) _ hK0.out Tryd.underlying25 rfl (by kernel_rfl) ?_)
  refine (hP.out _ (HG.out.below hB0.out)).mono ?_
  rintro e W1 ⟨rfl, hB1⟩
  have HB1 := Lib.hid (hB0.out.trans (hB1.mono hB0.out.size))
  have HK1 := Lib.hid (hK0.out.below hB1 hsz)
  clear hB1 hP
  go_wp2_with fail
  refine (hGt.out _ (HG.out.below HB1.out)).mono ?_
  rintro e W2 ⟨rfl, hB2⟩
  have HB2 := HB1.out.trans (hB2.mono HB1.out.size)
  have HK2 := HK1.out.below hB2 HK1.out.lt
  have HB3 := Lib.hid (HB2.alloc HB2.size (.cells (cellsA D) 25))
  have HK3 := Lib.hid (HK2.alloc (.cells (cellsA D) 25))
  have HX3 := Lib.hid (BlkD.new W2 D)
  clear hB2 hGt HB2 HK2
  go_wp2_with (first
    | (refine wpList_store_row rfl 25 _ _ rfl W2.heap.size (cellsA D) rfl rfl 25 (cellsA noD) (heap_alloc_new W2 _) (by kernel_rfl) rfl (cellsA_one D) ?_; rw [World.setRow_alloc_new])
    | (refine wpList_gload_row rfl 25 _ rfl W2.heap.size rfl 25 (cellsA D) (0, 0) _ HX3.out Tryd.underlying25 rfl (by kernel_rfl) ?_)
    | (refine wpList_gload_row rfl 25 _ rfl w.heap.size rfl 25 (cellsA D) (0, 0) _ HK3.out Tryd.underlying25 rfl (by kernel_rfl) ?_))
  refine (hCh.out _).mono ?_
  rintro e W4 ⟨rfl, hB4⟩
  have HB4 := Lib.hid (HB3.out.trans (hB4.mono HB3.out.size))
  clear hB4
  go_wp2_with fail
  refine (None_any _).mono ?_
  rintro e W5 ⟨rfl, hB5⟩
  have HB5 := Lib.hid (HB4.out.trans (hB5.mono HB4.out.size))
  clear hB5
  unfold dirV
  go_wp2_with fail
  refine (hCn.out _).mono ?_
  rintro e W6 ⟨rfl, hB6⟩
  have HB6 := Lib.hid (HB5.out.trans (hB6.mono HB5.out.size))
  clear hB6
  go_wp2
  go_ret
  exact ⟨rfl, HB6.out⟩
end Go.Proofs.YtinjnbcikoejkaaDoor
