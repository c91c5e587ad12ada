/-
  The user of a line: the reference's.
-/
import Derived.Test.YtadnkbhigcegmaaDoorUo
namespace Go.Proofs.YtadnkbhigcegmaaDoor
open Go.RowKit

theorem parts_some (d : UInt8) (dv : Int) (hdv : dv = (d.toNat : Int)) (x : List UInt8) (hs : x.length ≤ 100000) (w : World) :
    Calls Tryd.prog 43 #[.string (mk x), .int .u8 dv] w fun e w' => ∃ q c, e = .returned (.slice q (pieces d x).length c) ∧ SRow w' (.slice q (pieces d x).length c) (pieces d x) ∧ Below w.heap.size w w' :=
  (parts_any d dv hdv x hs w).mono fun _ _ ⟨q, c, h1, h2, h3⟩ => ⟨q, c, h1, SRow.of_own h2, h3⟩

set_option maxRecDepth 100000 in
set_option maxHeartbeats 3200000 in
theorem line_any (t : List UInt8) (hlt : t.length ≤ 100000) (w : World) :
    Calls Tryd.prog 44 #[.string (mk t)] w fun e w' => ∃ mv, e = .returned (.tuple #[.agg #[.string (mk (optU (lineL t)).n), .string (mk (optU (lineL t)).l), mv], .bool (lineL t).isSome]) ∧ SRowT w.heap.size w' mv (optU (lineL t)).m ∧ Below w.heap.size w w' := by
  have hB0 := (Below.refl w.heap.size w).alloc (Nat.le_refl _) (.cells #[.string ⟨#[]⟩, .string ⟨#[]⟩, .slice none 0 0] 32)
  have HX0 := Lib.hid (heap_alloc_new w (.cells #[.string ⟨#[]⟩, .string ⟨#[]⟩, .slice none 0 0] 32 (0, 0)))
  have HS := Lib.hid (parts_some 58 58 rfl t hlt (w.alloc (.cells #[.string ⟨#[]⟩, .string ⟨#[]⟩, .slice none 0 0] 32)))
  have HB0 := Lib.hid hB0
  have HPM := Lib.hid (fun y hy => pieces_mem (d := 58) (l := t) (x := y) hy)
  have hplt := pieces_len 58 t
  clear hB0
  by_cases h3 : (pieces 58 t).length = 3
  · have hP3 := three_at h3
    have HL3 := Lib.hid (line_3 hP3)
    have hm0 := HPM.out ((pieces 58 t).getD 2 []) (by rw [hP3]; simp)
    clear HPM hP3
    generalize (pieces 58 t) = P at h3 HS HL3 hm0 hplt
    generalize lineL t = res at HL3 ⊢
    go_enter Tryd.func44, Tryd.ntmps44
    go_wp2_with fail
    refine HS.out.mono ?_
    rintro e w1 ⟨q, c, rfl, hs1, hB1⟩
    have hx1 := (hB1.block w.heap.size (by simp)).trans HX0.out
    have HB1 := Lib.hid (HB0.out.trans (hB1.mono HB0.out.size))
    have hz1 := hB1.size
    simp only [World.size_alloc] at hz1
    obtain ⟨bb, o, rfl, hbb, c0⟩ := hs1.at_ (Below.refl _ _) (k := 0) (by omega)
    obtain ⟨_, _, hp1, _, c1⟩ := hs1.at_ (Below.refl _ _) (k := 1) (by omega)
    injection hp1 with hp1; injection hp1 with hp1 hp2; subst hp1 hp2
    obtain ⟨_, _, hp1, _, c2⟩ := hs1.at_ (Below.refl _ _) (k := 2) (by omega)
    injection hp1 with hp1; injection hp1 with hp1 hp2; subst hp1 hp2
    rw [Nat.add_zero] at c0
    have HX1 := Lib.hid hx1
    have hPc : (P.length : Int) ≤ c := by
      obtain ⟨_, _, hv, h, _⟩ := id hs1
      injection hv with _ _ h4; omega
    clear hs1
    rw [h3] at hPc ⊢
    generalize P.getD 0 [] = a0 at *
    generalize P.getD 1 [] = a1 at *
    generalize P.getD 2 [] = a2 at *
    clear hB1 hx1
    go_wp2_with fail
    have hne : bb ≠ w1.heap.size := by omega
    go_region_held3 (fun W => W.cell? ⟨bb, o, none⟩ = some (.string (mk a0)) ∧ W.cell? ⟨bb, o + 1, none⟩ = some (.string (mk a1))) (first | exact ⟨c0, c1⟩ | go_keep) ((fail))
    have hbel := below_drewN ((Below.refl w1.heap.size w1).alloc (Nat.le_refl _) (.cells #[.string (mk a0), .string (mk a1), .slice none 0 0] 32)) 1
    have hy2 : (w1.alloc (.cells #[.string (mk a0), .string (mk a1), .slice none 0 0] 32 (0, 0))).drew.heap[w1.heap.size]? = _ := heap_alloc_new w1 _
    generalize hW2 : (w1.alloc (.cells #[.string (mk a0), .string (mk a1), .slice none 0 0] 32)).drew = W2 at hy2 ⊢
    have hbel2 : Below w1.heap.size w1 W2 := by rw [← hW2]; exact hbel
    have hx2 := (hbel2.block w.heap.size (by omega)).trans HX1.out
    have e2 := (hbel2.cell (p := ⟨bb, o + 2, none⟩) hbb).trans c2
    have hz2 := hbel2.size
    have hz3 : W2.heap.size = w1.heap.size + 1 := by rw [← hW2]; simp [World.drew]
    have hlt5 : w1.heap.size < W2.heap.size := by omega
    have hlt6 : w.heap.size < W2.heap.size := by omega
    clear hz3
    have HB2 := Lib.hid (HB1.out.trans (hbel2.mono HB1.out.size))
    clear hbel hbel2 hW2 c0 c1 c2
    have z0 := blk3_0 hx2
    have z1 := blk3_1 hx2
    have z2 := blk3_2 hx2
    have f0 := blk3_f hx2 0
    have f1 := blk3_f hx2 1
    have f2 := blk3_f hx2 2
    have y0 := blk3_0 hy2
    have y1 := blk3_1 hy2
    have y2 := blk3_2 hy2
    have g2 := blk3_f hy2 2
    have HX2 := Lib.hid hx2
    have HY2 := Lib.hid hy2
    have hne2 : w1.heap.size ≠ w.heap.size := by omega
    have hne3 : w.heap.size ≠ w1.heap.size := by omega
    clear hx2 hy2 HX1
    by_cases h20 : a2 = []
    · have q1 : (mk a2).toList = [] := by rw [mk_toList]; exact h20
      have q2 : (mk a2).toList.isEmpty = true := by simp [q1]
      have HR : Hid (res = some ⟨a0, a1, []⟩) := HL3.out.trans (if_pos h20)
      clear HL3 h20
      go_wp2
      refine bodyPost_ret (results_user rfl rfl (blk3_set HX2.out _ _ _)) rfl ?_
      rw [HR.out]
      exact ⟨_, rfl, SRowT.nil_ _ _, below_set3 HB2.out (Nat.le_refl _) _ _ _⟩
    · have q1 : (mk a2).toList ≠ [] := by rw [mk_toList]; exact h20
      have q2 : (mk a2).toList.isEmpty = false := by simp [q1]
      have HR := Lib.hid (HL3.out.trans (if_neg h20))
      have S2 := Lib.hid (parts_any 44 44 rfl a2 (by omega) W2)
      have hpl := pieces_len 44 a2
      clear HL3 h20
      generalize pieces 44 a2 = M at S2 HR hpl
      go_wp2_with fail
      refine S2.out.mono ?_
      rintro e W3 ⟨q3, c3, rfl, hs3, hB3⟩
      have hx3 := (hB3.block w.heap.size (by omega)).trans HX2.out
      have hy3 := (hB3.block w1.heap.size (by omega)).trans HY2.out
      have HB3 := Lib.hid (HB2.out.trans (hB3.mono HB2.out.size))
      have hs4 := own_set hs3 ⟨w1.heap.size, 2, none⟩ hlt5 (.slice q3 M.length c3)
      have HS4 := Lib.hid hs4
      have HSR := Lib.hid (SRow.of_own hs4)
      have hqc : (M.length : Int) ≤ c3 := by
        obtain ⟨_, _, hv, h, _⟩ := SRow.of_own hs4
        injection hv with _ _ h4; omega
      clear z0 z1 z2 f0 f1 f2 y0 y1 y2 g2
      have z0 := blk3_0 hx3
      have z1 := blk3_1 hx3
      have z2 := blk3_2 hx3
      have f0 := blk3_f hx3 0
      have f1 := blk3_f hx3 1
      have f2 := blk3_f hx3 2
      have y0 := blk3_0 hy3
      have y1 := blk3_1 hy3
      have y2 := blk3_2 hy3
      have g2 := blk3_f hy3 2
      have HX3 := Lib.hid hx3
      have hml : M.length ≤ 100001 := by omega
      clear hs3 hB3 hx3 hy3 hs4 S2 HX2 HY2 hpl
      have hT := Lib.hid (fun j (hj : j < M.length) h => cont_hit (x := []) hj h)
      have hN := Lib.hid (fun h => cont_end (M := M) (x := []) h)
      generalize M.contains [] = cb at HR hT hN
      go_wp2
      go_loop [33] (fun vi => ∃ k : Nat, vi = .int .i64 (k : Int) ∧ k ≤ M.length ∧ Hid (∀ j, j < k → M.getD j [] ≠ [])) (fun vi => M.length - (intOf vi).toNat)
      case atStart => exact ⟨0, rfl, by omega, fun j hj => by omega⟩
      case round =>
        obtain ⟨k, rfl, hk, ha⟩ := hrel
        by_cases hlk : k < M.length
        · obtain ⟨b', o', hp, hb', d0⟩ := HSR.out.at_ (Below.refl _ _) hlk
          subst hp
          by_cases hn : M.getD k [] = []
          · have HR2 : Hid (res = none) := HR.out.trans (if_pos (hT.out k hlk hn))
            have hq : (mk (M.getD k [])).toList = [] := by rw [mk_toList]; exact hn
            have hq2 : (mk (M.getD k [])).toList.isEmpty = true := by rw [hq]; rfl
            clear hn
            generalize M.getD k [] = y at d0 hq hq2
            go_wp2
            refine bodyPost_ret (results_user rfl rfl (blk3_set ((Below.heap_setCell _ _ _ _ hne3).trans HX3.out) _ _ _)) rfl ?_
            rw [HR2.out]
            exact ⟨_, rfl, SRowT.nil_ _ _, below_set3 (HB3.out.setCell (p := ⟨w1.heap.size, 2, none⟩) (by show w.heap.size ≤ w1.heap.size; omega) _) (Nat.le_refl _) _ _ _⟩
          · have hq : (mk (M.getD k [])).toList ≠ [] := by rw [mk_toList]; exact hn
            have hq2 : (mk (M.getD k [])).toList.isEmpty = false := List.isEmpty_eq_false_iff.2 hq
            have HA := Lib.hid (cont_go ha.out hn)
            clear hn
            generalize M.getD k [] = y at d0 hq hq2
            go_wp2
            exact ⟨⟨k + 1, by go_num, by omega, HA⟩, by simp [intOf]; omega⟩
        · have hkn : k = M.length := by omega
          have HR2 : Hid (res = some ⟨a0, a1, M⟩) := HR.out.trans (if_neg (by rw [hN.out (by rw [← hkn]; exact ha.out)]; simp))
          clear hkn
          go_wp2
          refine bodyPost_ret (results_user rfl rfl (blk3_set ((Below.heap_setCell _ _ _ _ hne3).trans HX3.out) _ _ _)) rfl ?_
          rw [HR2.out]
          exact ⟨_, rfl, (SRowT.of_own (own_set (own_set (own_set HS4.out ⟨w.heap.size, 0, none⟩ hlt6 _) ⟨w.heap.size, 1, none⟩ hlt6 _) ⟨w.heap.size, 2, none⟩ hlt6 _)).mono (by omega), below_set3 (HB3.out.setCell (p := ⟨w1.heap.size, 2, none⟩) (by show w.heap.size ≤ w1.heap.size; omega) _) (Nat.le_refl _) _ _ _⟩
  · have HR : Hid (lineL t = none) := line_not3 h3
    generalize lineL t = res at HR ⊢
    clear HPM
    generalize (pieces 58 t) = P at h3 HS hplt
    have h3' : ((P.length : Int) != 3) = true := by simp; omega
    clear h3
    go_enter Tryd.func44, Tryd.ntmps44
    go_wp2_with fail
    refine HS.out.mono ?_
    rintro e w1 ⟨q, c, rfl, hs1, hB1⟩
    have hx1 := (hB1.block w.heap.size (by simp)).trans HX0.out
    have HB1 := Lib.hid (HB0.out.trans (hB1.mono HB0.out.size))
    have z0 := blk3_0 hx1
    have z1 := blk3_1 hx1
    have z2 := blk3_2 hx1
    have f0 := blk3_f hx1 0
    have f1 := blk3_f hx1 1
    have f2 := blk3_f hx1 2
    have HX1 := Lib.hid hx1
    clear hs1 hB1 hx1
    go_wp2
    refine bodyPost_ret (results_user rfl rfl (blk3_set HX1.out _ _ _)) rfl ?_
    rw [HR.out]
    exact ⟨_, rfl, SRowT.nil_ _ _, below_set3 HB1.out (Nat.le_refl _) _ _ _⟩
end Go.Proofs.YtadnkbhigcegmaaDoor
