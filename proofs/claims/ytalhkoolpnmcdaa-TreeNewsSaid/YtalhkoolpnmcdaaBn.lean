/-
  The law's awake: the walk.
-/
import Derived.Test.YtalhkoolpnmcdaaBm
import Derived.Test.YtalhkoolpnmcdaaAz
namespace Go.Proofs.Ytalhkoolpnmcdaa
open Go.RowKit

theorem row_form {W : World} {v : Value} {L : List ND} (h : NRow W v L) : ∃ q cap, v = .slice q L.length cap := by
  obtain ⟨q, cap, rfl, _⟩ := h
  exact ⟨q, cap, rfl⟩
theorem NRow.setRow {W : World} {b : Nat} {nx : Int} {v0 v : Value} {L : List ND} (h : NRow W v L) (hb : BlkT W b nx v0) (cs : Array Value) : NRow (W.setRow b cs) v L := by
  obtain ⟨q, cap, rfl, hc, hm, h⟩ := h
  refine ⟨q, cap, rfl, hc, hm, fun hL => ?_⟩
  obtain ⟨b', o, rfl, hlt, hr⟩ := h hL
  have hne : b' ≠ b := by
    rintro rfl
    have h10 := hr 0 (List.length_pos_iff.2 hL) 10 _ rfl
    unfold BlkT at hb
    rw [Joins.cell_of_block hb] at h10
    simp at h10
  refine ⟨b', o, rfl, by simpa [World.setRow] using hlt, fun k hk j u hu => ?_⟩
  have := hr k hk j u hu
  unfold World.cell? at this ⊢
  rw [setRow_other W b b' cs hne]
  exact this
/-- The law's tree is in its box. -/
structure KSt (w W : World) (b : Nat) (t : TT) (v : Value) : Prop where
  bel : Below w.heap.size w W
  blk : BlkT W b t.1 v
  row : NRow W v t.2
  lo : w.heap.size ≤ b
theorem KSt.start {w w1 : World} {t : TT} {v : Value} (hB : Below w.heap.size w w1) (hr : NRow w1 v t.2) : KSt w (w1.alloc (.cells #[.int .i64 t.1, v] 26)) w1.heap.size t v :=
  ⟨hB.alloc hB.size _, BlkT.new w1 t.1 v, hr.below ((Below.refl _ w1).alloc (Nat.le_refl _) _), hB.size⟩
theorem KSt.go {w W W' : World} {b : Nat} {t : TT} {v : Value} (h : KSt w W b t v) (hB : Below W.heap.size W W') : KSt w W' b t v :=
  ⟨h.bel.trans (hB.mono h.bel.size), h.blk.below hB (Array.getElem?_eq_some_iff.1 h.blk).1, h.row.below hB, h.lo⟩
theorem KSt.put {w W : World} {b : Nat} {t t' : TT} {v v' : Value} (h : KSt w W b t v) (hr : NRow W v' t'.2) : KSt w (W.setRow b #[.int .i64 t'.1, v']) b t' v' :=
  ⟨below_setRow h.bel h.lo _, setRow_heap _ _ _ _ _ _ h.blk, hr.setRow h.blk _, h.lo⟩

set_option maxRecDepth 100000 in
set_option maxHeartbeats 6400000 in
theorem awake_any (w : World) : Calls Try.prog 11 #[] w fun e w' => e = .returned (.bool true) ∧ Below w.heap.size w w' := by
  have hC1 : ∀ W, Calls Try.prog 13 #[.string (mk adm), .int .i64 493, .int .i64 5] W fun e w' => GivesT A1.1 A1.2 W e w' := fun W => New_any adm 493 5 W
  replace hC1 := Lib.hid hC1
  have hC2 : ∀ v W, NRow W v A1.2 → Calls Try.prog 33 #[treeV A1.1 v, .int .i64 1, .string (mk [100]), .int .i64 2147484159, .string (mk ann), .string (mk adm), .int .i64 6] W fun e w' => Gives3 C2.1 2 0 W e w' := fun v W h => by
    have := Create_any A1.1 v A1.2 1 [100] 2147484159 ann adm 6 W h vld1 (by simp) (by unfold inI; omega)
    rw [show createT (A1.1, A1.2) 1 [100] 2147484159 ann adm 6 = C2 from rfl, c2_res.1, c2_res.2] at this
    exact this
  have hC3 : ∀ v W, NRow W v C2.1.2 → Calls Try.prog 33 #[treeV C2.1.1 v, .int .i64 2, .string (mk [102]), .int .i64 420, .string (mk ann), .string (mk adm), .int .i64 7] W fun e w' => Gives3 C3.1 3 0 W e w' := fun v W h => by
    have := Create_any C2.1.1 v C2.1.2 2 [102] 420 ann adm 7 W h vld2 (by simp) (by unfold inI; omega)
    rw [show createT (C2.1.1, C2.1.2) 2 [102] 420 ann adm 7 = C3 from rfl, c3_res.1, c3_res.2] at this
    exact this
  have hC4 : ∀ v W, NRow W v C3.1.2 → Calls Try.prog 32 #[treeV C3.1.1 v, .int .i64 3, .int .i64 2, .string (mk [97, 98]), .string (mk bob), .int .i64 8] W fun e w' => Gives3 C4.1 2 0 W e w' := fun v W h => by
    have := Write_any C3.1.1 v C3.1.2 3 2 [97, 98] bob 8 W h vld3 (by simp) (by omega)
    rw [show writeT (C3.1.1, C3.1.2) 3 2 [97, 98] bob 8 = C4 from rfl, c4_res.1, c4_res.2] at this
    exact this
  have hRd : ∀ v W, NRow W v C4.1.2 → Calls Try.prog 29 #[treeV C4.1.1 v, .int .i64 3, .int .i64 1, .int .i64 2] W fun e w' => e = .returned (.tuple #[.string (mk [0, 97]), .int .i64 0]) ∧ Below W.heap.size W w' := fun v W h => by
    have := Read_any C4.1.1 v C4.1.2 3 1 2 W h vld4
    rw [r4_res] at this
    exact this
  have hPt : ∀ v W, NRow W v C4.1.2 → Calls Try.prog 22 #[treeV C4.1.1 v, .int .i64 3] W fun e w' => e = .returned (.tuple #[.string (mk [47, 100, 47, 102]), .int .i64 0]) ∧ Below W.heap.size W w' := fun v W h => by
    have := Path_vld v 3 W h vld4
    rw [p4_res] at this
    exact this
  have hNd : ∀ v W, NRow W v C4.1.2 → Calls Try.prog 18 #[treeV C4.1.1 v, .int .i64 1] W fun e w' => e = .returned (.tuple #[nodeV (nodeN C4.1.2 1), .bool true]) ∧ Below W.heap.size W w' := fun v W h => by
    have := Node_any C4.1.1 v C4.1.2 1 W h vld4.rise (by have := vld4.len; omega)
    rw [n4_res.1] at this
    exact this
  have hRt : ∀ v W, NRow W v C4.1.2 → Calls Try.prog 16 #[treeV C4.1.1 v] W fun e w' => e = .returned (.bool true) ∧ Below W.heap.size W w' := fun v W h => Right_vld v W h vld4
  obtain ⟨_, n1, n2, n3⟩ := n4_res
  have e1 : ((mk [0, 97]).toList == [0, 97]) = true := by rw [mk_toList]; decide
  have e2 : ((mk [47, 100, 47, 102]).toList == [47, 100, 47, 102]) = true := by rw [mk_toList]; decide
  have e3 : ((mk ann).toList == [97, 110, 110]) = true := by rw [mk_toList]; decide
  replace hC2 := Lib.hid hC2
  replace hC3 := Lib.hid hC3
  replace hC4 := Lib.hid hC4
  replace hRd := Lib.hid hRd
  replace hPt := Lib.hid hPt
  replace hNd := Lib.hid hNd
  replace hRt := Lib.hid hRt
  generalize A1 = t1 at *
  generalize C2.1 = t2 at *
  generalize C3.1 = t3 at *
  generalize C4.1 = t4 at *
  generalize nodeN t4.2 1 = nd at *
  obtain ⟨x1, L1⟩ := t1
  obtain ⟨x2, L2⟩ := t2
  obtain ⟨x3, L3⟩ := t3
  obtain ⟨x4, L4⟩ := t4
  unfold treeV at hC2 hC3 hC4 hRd hPt hNd hRt
  dsimp only at hC1 hC2 hC3 hC4 hRd hPt hNd hRt
  go_enter Try.func11, Try.ntmps11
  go_wp2_with fail
  refine (hC1.out _).mono ?_
  rintro e w1 ⟨v1, rfl, hO1, hB1⟩
  obtain ⟨q1, k1, rfl⟩ := row_form hO1.row
  have K1 := Lib.hid (KSt.start (t := (x1, L1)) hB1 hO1.row)
  unfold treeV
  dsimp only
  clear hO1 hB1
  go_wp2_with (first
    | (refine wpList_store_row rfl 26 _ _ rfl w1.heap.size #[.int .i64 x1, .slice q1 L1.length k1] rfl rfl 26 #[.int .i64 0, .slice none 0 0] (heap_alloc_new w1 _) (by kernel_rfl) rfl (treeA_one _ _ _ _) ?_; rw [World.setRow_alloc_new])
    | (refine wpList_load_row rfl 26 _ rfl w1.heap.size rfl 26 #[.int .i64 x1, .slice q1 L1.length k1] (0, 0) _ K1.out.blk Try.underlying26 rfl (by kernel_rfl) ?_))
  refine (hC2.out _ _ K1.out.row).mono ?_
  rintro e w2 ⟨v2, rfl, hr2, hB2⟩
  obtain ⟨q2, k2, rfl⟩ := row_form hr2
  have J2 := Lib.hid (K1.out.go hB2)
  have K2 := Lib.hid (J2.out.put (t' := (x2, L2)) hr2)
  unfold treeV
  dsimp only
  clear hr2 hB2
  go_wp2_with (first
    | (refine wpList_store_row rfl 26 _ _ rfl w1.heap.size #[.int .i64 x2, .slice q2 L2.length k2] rfl rfl 26 #[.int .i64 x1, .slice q1 L1.length k1] J2.out.blk (by kernel_rfl) rfl (treeA_one _ _ _ _) ?_)
    | (refine wpList_load_row rfl 26 _ rfl w1.heap.size rfl 26 #[.int .i64 x2, .slice q2 L2.length k2] (0, 0) _ K2.out.blk Try.underlying26 rfl (by kernel_rfl) ?_))
  refine (hC3.out _ _ K2.out.row).mono ?_
  rintro e w3 ⟨v3, rfl, hr3, hB3⟩
  obtain ⟨q3, k3, rfl⟩ := row_form hr3
  have J3 := Lib.hid (K2.out.go hB3)
  have K3 := Lib.hid (J3.out.put (t' := (x3, L3)) hr3)
  unfold treeV
  dsimp only
  clear hr3 hB3
  go_wp2_with (first
    | (refine wpList_store_row rfl 26 _ _ rfl w1.heap.size #[.int .i64 x3, .slice q3 L3.length k3] rfl rfl 26 #[.int .i64 x2, .slice q2 L2.length k2] J3.out.blk (by kernel_rfl) rfl (treeA_one _ _ _ _) ?_)
    | (refine wpList_load_row rfl 26 _ rfl w1.heap.size rfl 26 #[.int .i64 x3, .slice q3 L3.length k3] (0, 0) _ K3.out.blk Try.underlying26 rfl (by kernel_rfl) ?_))
  refine (hC4.out _ _ K3.out.row).mono ?_
  rintro e w4 ⟨v4, rfl, hr4, hB4⟩
  obtain ⟨q4, k4, rfl⟩ := row_form hr4
  have J4 := Lib.hid (K3.out.go hB4)
  have K4 := Lib.hid (J4.out.put (t' := (x4, L4)) hr4)
  unfold treeV
  dsimp only
  clear hr4 hB4
  go_wp2_with (first
    | (refine wpList_store_row rfl 26 _ _ rfl w1.heap.size #[.int .i64 x4, .slice q4 L4.length k4] rfl rfl 26 #[.int .i64 x3, .slice q3 L3.length k3] J4.out.blk (by kernel_rfl) rfl (treeA_one _ _ _ _) ?_)
    | (refine wpList_load_row rfl 26 _ rfl w1.heap.size rfl 26 #[.int .i64 x4, .slice q4 L4.length k4] (0, 0) _ K4.out.blk Try.underlying26 rfl (by kernel_rfl) ?_))
  refine (hRd.out _ _ K4.out.row).mono ?_
  rintro e w5 ⟨rfl, hB5⟩
  have K5 := Lib.hid (K4.out.go hB5)
  clear hB5
  go_wp2_with (refine wpList_load_row rfl 26 _ rfl w1.heap.size rfl 26 #[.int .i64 x4, .slice q4 L4.length k4] (0, 0) _ K5.out.blk Try.underlying26 rfl (by kernel_rfl) ?_)
  refine (hPt.out _ _ K5.out.row).mono ?_
  rintro e w6 ⟨rfl, hB6⟩
  have K6 := Lib.hid (K5.out.go hB6)
  clear hB6
  go_wp2_with (refine wpList_load_row rfl 26 _ rfl w1.heap.size rfl 26 #[.int .i64 x4, .slice q4 L4.length k4] (0, 0) _ K6.out.blk Try.underlying26 rfl (by kernel_rfl) ?_)
  refine (hNd.out _ _ K6.out.row).mono ?_
  rintro e w7 ⟨rfl, hB7⟩
  have K7 := Lib.hid (K6.out.go hB7)
  clear hB7
  obtain ⟨W8, hW8, hB8, hb8, hN8, hs8⟩ := lay1 (n := nd) K7.out.bel K7.out.bel.size
  have K8 := Lib.hid (K7.out.go hb8)
  have c2 : W8.cell? ⟨w7.heap.size, 2, none⟩ = some (.int .i64 1) := by rw [← n1]; exact hN8.cell 2
  have c7 : W8.cell? ⟨w7.heap.size, 7, none⟩ = some (.string (mk ann)) := by rw [← n2]; exact hN8.cell 7
  have c4 : W8.cell? ⟨w7.heap.size, 4, none⟩ = some (.int .i64 2147484141) := by rw [← n3]; exact hN8.cell 4
  replace hW8 := Lib.hid hW8
  clear hB8 hb8 hN8 hs8 n1 n2 n3
  go_wp2_with (first
    | (refine wpList_store_row rfl 31 _ _ rfl w7.heap.size (cellsA nd) rfl rfl 31 (cellsA noN) (heap_alloc_new w7 _) (by kernel_rfl) rfl (cellsA_one nd) ?_; rw [World.setRow_alloc_new, hW8.out])
    | (refine wpList_gload_row (by rfl) 26 _ rfl w1.heap.size rfl 26 #[.int .i64 x4, .slice q4 L4.length k4] (0, 0) _ K8.out.blk Try.underlying26 rfl (by kernel_rfl) ?_))
  refine (hRt.out _ _ K8.out.row).mono ?_
  rintro e w9 ⟨rfl, hB9⟩
  have K9 := Lib.hid (K8.out.go hB9)
  clear hB9
  go_wp2
  go_ret
  exact ⟨rfl, K9.out.bel⟩
end Go.Proofs.Ytalhkoolpnmcdaa
