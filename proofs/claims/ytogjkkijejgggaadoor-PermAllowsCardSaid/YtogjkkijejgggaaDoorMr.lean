/-
  The walks over the statements of layer 6, third part: what is allowed.
-/
import Derived.Test.YtogjkkijejgggaaDoorMq
import Derived.Deep.RegionHeld3
namespace Go.Proofs.YtogjkkijejgggaaDoor
open Go.RowKit

theorem cell_below {W w1 w2 : World} {B : Nat} {j : Nat} {c : Value} (hB : Below w1.heap.size w1 w2) (hb : B < w1.heap.size) (h : w1.cell? ⟨B, j, none⟩ = some c) : w2.cell? ⟨B, j, none⟩ = some c :=
  (hB.cell (p := ⟨B, j, none⟩) hb).trans h

set_option maxRecDepth 100000 in
set_option maxHeartbeats 3200000 in
theorem permAllows_walk (v : Value) (L : List U) (x u g : List UInt8) (m want : Int) (hi : inI m) (W : World) (hU : URow W v L) (gg : G W) :
    Calls Tryd.prog 5 #[v, .agg #[.string (mk x), .string (mk u), .string (mk g), .int .i64 m, .int .i64 want]] W fun e w' => e = .returned (.bool true) ∧ Below W.heap.size W w' := by
  have A := Lib.hid (fun w' (h : Below W.heap.size W w') => alive_any w' (gg.below h))
  have hB1 := (Below.refl W.heap.size W).alloc (Nat.le_refl _) (.cells #[.string (mk x), .string (mk u), .string (mk g), .int .i64 m, .int .i64 want] 34 (0, 0))
  have F := Lib.hid (few_any v L _ (hU.below hB1))
  have PA := Lib.hid (fun hl hm w' (h : Below W.heap.size W w') => Allows_any v L x u g m want hi w' (hU.below h) hl hm)
  have PR := Lib.hid (fun hl hm w' (h : Below W.heap.size W w') => RAllows_any v L x u g m want hi w' (hU.below h) hl hm)
  have hFO : Hid (∀ b, FewOk L b → b = true → L.length ≤ 100000 ∧ Memb L 1000000) := fun b h => h
  have hx := heap_alloc_new W (.cells #[.string (mk x), .string (mk u), .string (mk g), .int .i64 m, .int .i64 want] 34 (0, 0))
  have HX := Lib.hid hx
  generalize FewOk L = Ok at *
  generalize allowsI (memberL L x g) (x == u) m want = r at *
  have HB := Lib.hid hB1
  clear hB1 hU gg hx hi
  go_enter Tryd.func5, Tryd.ntmps5
  go_wp2_with fail
  refine F.out.mono ?_
  rintro e w' ⟨b, rfl, hb, rfl⟩
  replace hb := Lib.hid hb
  cases b
  · go_wp2_with fail
    refine (A.out _ HB.out).mono ?_
    rintro e w2 ⟨rfl, hB⟩
    replace HB := Lib.hid (HB.out.trans (hB.mono HB.out.size))
    clear hB
    go_wp2
    go_ret
    exact ⟨rfl, HB.out⟩
  · obtain ⟨hl, hm⟩ := hFO.out _ hb.out rfl
    replace PA := Lib.hid (PA.out hl hm)
    replace PR := Lib.hid (PR.out hl hm)
    clear hl hm hb F
    have hrr : (r == r) = true := by simp
    have HB0 : Hid (Below W.heap.size W (W.alloc (.cells #[.string (mk x), .string (mk u), .string (mk g), .int .i64 m, .int .i64 want] 34 (0, 0))).drew) := ⟨HB.out.os, HB.out.tape, HB.out.output, HB.out.size, HB.out.block⟩
    have hcel : ∀ j, (W.alloc (.cells #[.string (mk x), .string (mk u), .string (mk g), .int .i64 m, .int .i64 want] 34 (0, 0))).cell? ⟨W.heap.size, j, none⟩ = #[.string (mk x), .string (mk u), .string (mk g), .int .i64 m, .int .i64 want][j]? := fun j => Joins.cell_of_block HX.out j
    have x0 := hcel 0
    have x1 := hcel 1
    have x2 := hcel 2
    have x3 := hcel 3
    have x4 := hcel 4
    clear hcel
    generalize hW1 : W.alloc (.cells #[.string (mk x), .string (mk u), .string (mk g), .int .i64 m, .int .i64 want] 34 (0, 0)) = W1 at *
    have hlt : W.heap.size < W1.heap.size := by rw [← hW1]; simp
    replace hW1 := Lib.hid hW1
    go_wp2
    go_region_held3 (fun w' => w'.cell? ⟨W.heap.size, 0, none⟩ = some (.string (mk x)) ∧ w'.cell? ⟨W.heap.size, 1, none⟩ = some (.string (mk u)) ∧ w'.cell? ⟨W.heap.size, 2, none⟩ = some (.string (mk g)) ∧ w'.cell? ⟨W.heap.size, 3, none⟩ = some (.int .i64 m) ∧ w'.cell? ⟨W.heap.size, 4, none⟩ = some (.int .i64 want))
      (first | exact ⟨x0, x1, x2, x3, x4⟩ | exact ⟨y0, y1, y2, y3, y4⟩ | exact ⟨z0, z1, z2, z3, z4⟩ | exact ⟨u0, u1, u2, u3, u4⟩)
      (first | (go_at_call 21; refine (PA.out _ HB0.out).mono ?_; rintro e W3 ⟨rfl, hB3⟩; have hl3 := Nat.lt_of_lt_of_le hlt hB3.size; have HB3 := Lib.hid (HB0.out.trans (hB3.mono HB0.out.size)); have y0 := cell_below (W := W) hB3 hlt x0; have y1 := cell_below (W := W) hB3 hlt x1; have y2 := cell_below (W := W) hB3 hlt x2; have y3 := cell_below (W := W) hB3 hlt x3; have y4 := cell_below (W := W) hB3 hlt x4) | (go_at_call 22; refine (PR.out _ HB3.out).mono ?_; rintro e W4 ⟨rfl, hB4⟩; have hl4 := Nat.lt_of_lt_of_le hl3 hB4.size; have HB4 := Lib.hid (HB3.out.trans (hB4.mono HB3.out.size)); have z0 := cell_below (W := W) hB4 hl3 y0; have z1 := cell_below (W := W) hB4 hl3 y1; have z2 := cell_below (W := W) hB4 hl3 y2; have z3 := cell_below (W := W) hB4 hl3 y3; have z4 := cell_below (W := W) hB4 hl3 y4) | (go_at_call 9; refine (A.out _ HB4.out).mono ?_; rintro e W5 ⟨rfl, hB5⟩; have HB5 := Lib.hid (HB4.out.trans (hB5.mono HB4.out.size)); have u0 := cell_below (W := W) hB5 hl4 z0; have u1 := cell_below (W := W) hB5 hl4 z1; have u2 := cell_below (W := W) hB5 hl4 z2; have u3 := cell_below (W := W) hB5 hl4 z3; have u4 := cell_below (W := W) hB5 hl4 z4))
    clear x0 x1 x2 x3 x4 y0 y1 y2 y3 y4 z0 z1 z2 z3 z4 u0 u1 u2 u3 u4 hB3 hB4 hB5
    go_wp2
    go_ret
    exact ⟨rfl, HB5.out⟩
end Go.Proofs.YtogjkkijejgggaaDoor
