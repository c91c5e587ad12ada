/-
  Walks: the reference's Get.
-/
import Derived.Test.YtlfdmbfbfadifaaGreatDoorSp
import Derived.Deep.RegionHeld3
namespace Go.Proofs.YtlfdmbfbfadifaaGreatDoor.St
open Go.RowKit

theorem zero_qid (W : World) (x y z : Int) : (W.alloc (.cells #[.int .i64 0, .int .i64 0, .int .i64 0] 25)).setRow W.heap.size #[.int .i64 x, .int .i64 y, .int .i64 z] = W.alloc (.cells #[.int .i64 x, .int .i64 y, .int .i64 z] 25) := World.setRow_alloc_new _ _ _ _

set_option maxRecDepth 100000 in
set_option maxHeartbeats 12800000 in
theorem RGet_any (l : List UInt8) (a : Int) (ha64 : inI a) (hl : (mk l).size ≤ 1000000) (w : World) :
    Calls Tryz.prog 82 #[.string (mk l), .int .i64 a] w fun e w' => e = .returned (.tuple #[dirV (getS numQ l a).1, .int .i64 (getS numQ l a).2.1, .int .i64 (getS numQ l a).2.2]) ∧ Below w.heap.size w w' := by
  have hz := Lib.hid zero_dir
  have hza := Lib.hid zero_arr
  have hB0 : Below w.heap.size w (w.alloc (.cells (cellsA noD) 27)) := (Below.refl _ w).alloc (Nat.le_refl _) _
  have hK0 := BlkD.new w noD
  generalize hW : w.alloc (.cells (cellsA noD) 27) = W at hB0 hK0
  have HX0 := Lib.hid (hK0.setRow noD)
  have hL := mk_size l
  have hR := Lib.hid (fun (res : DD × Int × Int) (h : getS numQ l a = res) => h)
  obtain ⟨ha1, ha2⟩ := ha64
  replace hW := Lib.hid hW
  replace hB0 := Lib.hid hB0
  replace hK0 := Lib.hid hK0
  by_cases hneg : a < 0
  · have hr := Lib.hid (getQ_arg (l := l) (.inl hneg))
    clear hL hR
    generalize getS numQ l a = res at hr ⊢
    have HX := HX0
    go_enter Tryz.func82, Tryz.ntmps82
    go_wp2_with (simp only [hz.out, hW.out]; refine wpList_store_row rfl 27 _ _ rfl w.heap.size (cellsA noD) rfl rfl 27 (cellsA noD) hK0.out (by kernel_rfl) rfl (cellsA_one noD) ?_)
    refine bodyPost_ret (results_dir3 rfl rfl HX.out) rfl ?_
    rw [hr.out]
    exact ⟨rfl, below_setRow hB0.out (Nat.le_refl _) _⟩
  by_cases hbig : ((mk l).size : Int) < a
  · have hr := Lib.hid (getQ_arg (l := l) (.inr (by rw [← hL]; exact hbig)))
    clear hL hR
    generalize getS numQ l a = res at hr ⊢
    have HX := HX0
    go_enter Tryz.func82, Tryz.ntmps82
    go_wp2_with (simp only [hz.out, hW.out]; refine wpList_store_row rfl 27 _ _ rfl w.heap.size (cellsA noD) rfl rfl 27 (cellsA noD) hK0.out (by kernel_rfl) rfl (cellsA_one noD) ?_)
    refine bodyPost_ret (results_dir3 rfl rfl HX.out) rfl ?_
    rw [hr.out]
    exact ⟨rfl, below_setRow hB0.out (Nat.le_refl _) _⟩
  obtain ⟨a, rfl⟩ : ∃ b : Nat, a = b := ⟨a.toNat, by omega⟩
  by_cases h2 : (mk l).size < a + 2
  · have hr := Lib.hid (getQ_short (l := l) (a := a) (by rw [← hL]; omega) (textAt_short (by rw [← hL]; exact h2)))
    clear hL hR
    generalize getS numQ l (a : Int) = res at hr ⊢
    have HX := HX0
    go_enter Tryz.func82, Tryz.ntmps82
    go_wp2_with (simp only [hz.out, hW.out]; refine wpList_store_row rfl 27 _ _ rfl w.heap.size (cellsA noD) rfl rfl 27 (cellsA noD) hK0.out (by kernel_rfl) rfl (cellsA_one noD) ?_)
    refine bodyPost_ret (results_dir3 rfl rfl HX.out) rfl ?_
    rw [hr.out]
    exact ⟨rfl, below_setRow hB0.out (Nat.le_refl _) _⟩
  have hv := val_two l a (by omega)
  have hnl : ¬ l.length < a + 2 := by rw [← hL]; exact h2
  have hsl := fun h => textAt_long (l := l) (a := a) hnl h
  have hso := fun h => textAt_ok (l := l) (a := a) hnl h
  have hx := mk_cut l (a + 2)
  have hcl := cut_len l (a + 2)
  rw [← hL] at hsl hso hcl
  have hgs := fun h => getQ_short (l := l) (a := a) (by rw [← hL]; omega) h
  have hv6 := val_cut2 l a
  generalize val (cut l a 2) = n at *
  have b0 : a < (mk l).size := by omega
  have b1 : a + 1 < (mk l).size := by omega
  have c0l := (mk l)[a].toNat_lt
  have c1l := (mk l)[a + 1].toNat_lt
  generalize hc0 : (mk l)[a] = c0 at *
  generalize hc1 : (mk l)[a + 1] = c1 at *
  have kn : (c0.toNat : Int) + 256 * (c1.toNat : Int) = (n : Int) := by rw [hv]; omega
  replace kn := Lib.hid kn
  by_cases h3 : (mk l).size < a + 2 + n
  · have hr := Lib.hid (hgs (hsl h3))
    clear hL hR hv hnl hsl hso hx hcl hgs
    generalize getS numQ l (a : Int) = res at hr ⊢
    have k0 : (0 : Int) ≤ (a : Int) := by omega
    have k1 : (a : Int) < ((mk l).size : Int) := by omega
    have k2 : IntKind.i64.wrap ((a : Int) + 1) = (a : Int) + 1 := IntWalk.i64_in _ (by omega)
    have k3 : (0 : Int) ≤ (a : Int) + 1 := by omega
    have k4 : (a : Int) + 1 < ((mk l).size : Int) := by omega
    have k5 : ((a : Int) + 1).toNat = a + 1 := by omega
    go_enter Tryz.func82, Tryz.ntmps82
    go_wp2
    go_quiet (fail)
    rw [kn.out]
    simp only [hz.out, hW.out]
    have hB2 := Lib.hid (below_drewN hB0.out nq)
    have hK2 : Hid (BlkD (W.drewN nq) w.heap.size noD) := hK0.out
    have HX := Lib.hid (hK2.out.setRow noD)
    generalize W.drewN nq = wq at *
    clear kn k0 k1 k2 k3 k4 k5 hc0 hc1 c0l c1l hB0 hK0
    go_wp2_with (refine wpList_store_row rfl 27 _ _ rfl w.heap.size (cellsA noD) rfl rfl 27 (cellsA noD) hK2.out (by kernel_rfl) rfl (cellsA_one noD) ?_)
    refine bodyPost_ret (results_dir3 rfl rfl HX.out) rfl ?_
    rw [hr.out]
    exact ⟨rfl, below_setRow hB2.out (Nat.le_refl _) _⟩
  have hte := hso h3
  have hxt := hx n
  have htl := hcl n (by omega)
  generalize ht : cut l (a + 2) n = t at *
  replace ht := Lib.hid ht
  have hst := mk_size t
  rw [htl] at hst
  by_cases h47 : n < 47
  · have hr := Lib.hid (getQ_form hte (.inl (by rw [htl]; exact h47)))
    clear hL hR hv hnl hsl hso hx hcl hgs hte hxt htl hst
    generalize getS numQ l (a : Int) = res at hr ⊢
    have k0 : (0 : Int) ≤ (a : Int) := by omega
    have k1 : (a : Int) < ((mk l).size : Int) := by omega
    have k2 : IntKind.i64.wrap ((a : Int) + 1) = (a : Int) + 1 := IntWalk.i64_in _ (by omega)
    have k3 : (0 : Int) ≤ (a : Int) + 1 := by omega
    have k4 : (a : Int) + 1 < ((mk l).size : Int) := by omega
    have k5 : ((a : Int) + 1).toNat = a + 1 := by omega
    go_enter Tryz.func82, Tryz.ntmps82
    go_wp2
    go_quiet (fail)
    rw [kn.out]
    simp only [hz.out, hW.out]
    have hB2 := Lib.hid (below_drewN hB0.out nq)
    have hK2 : Hid (BlkD (W.drewN nq) w.heap.size noD) := hK0.out
    have HX := Lib.hid (hK2.out.setRow noD)
    generalize W.drewN nq = wq at *
    clear kn k0 k1 k2 k3 k4 k5 hc0 hc1 c0l c1l hB0 hK0
    go_wp2_with (refine wpList_store_row rfl 27 _ _ rfl w.heap.size (cellsA noD) rfl rfl 27 (cellsA noD) hK2.out (by kernel_rfl) rfl (cellsA_one noD) ?_)
    refine bodyPost_ret (results_dir3 rfl rfl HX.out) rfl ?_
    rw [hr.out]
    exact ⟨rfl, below_setRow hB2.out (Nat.le_refl _) _⟩
  have hdr := mk_drop (t := t) (by omega)
  rw [hst] at hdr
  have hF := fun h => getQ_form hte (.inr h)
  have hC := fun d a' => getQ_check (d := d) (a' := a') hte (by omega)
  have hO := fun d a' => getQ_ok (d := d) (a' := a') hte (by omega)
  have hT := Lib.hid (texts_any (t.drop 47) (by rw [mk_size, List.length_drop]; omega))
  have hTB := Lib.hid (fun d a' => txT_big (s := t.drop 47) (by unfold maxLen; rw [List.length_drop]; omega) 4 d a' (by omega))
  have n6 := Lib.hid (number_lit t 6 1 6 1 rfl rfl (by omega) (by omega) (by omega) (by omega))
  have n7 := Lib.hid (number_lit t 7 4 7 4 rfl rfl (by omega) (by omega) (by omega) (by omega))
  have n11 := Lib.hid (number_lit t 11 8 11 8 rfl rfl (by omega) (by omega) (by omega) (by omega))
  have n0 := Lib.hid (number_lit t 0 2 0 2 rfl rfl (by omega) (by omega) (by omega) (by omega))
  have n2 := Lib.hid (number_lit t 2 4 2 4 rfl rfl (by omega) (by omega) (by omega) (by omega))
  have n19 := Lib.hid (number_lit t 19 4 19 4 rfl rfl (by omega) (by omega) (by omega) (by omega))
  have n23 := Lib.hid (number_lit t 23 8 23 8 rfl rfl (by omega) (by omega) (by omega) (by omega))
  have n31 := Lib.hid (number_lit t 31 8 31 8 rfl rfl (by omega) (by omega) (by omega) (by omega))
  have n39 := Lib.hid (number_lit t 39 8 39 8 rfl rfl (by omega) (by omega) (by omega) (by omega))
  replace hdr := Lib.hid hdr
  replace hF := Lib.hid hF
  replace hC := Lib.hid hC
  replace hO := Lib.hid hO
  replace hxt := Lib.hid hxt
  clear hL hR hv hnl hsl hso hx hcl hgs hte htl HX0
  generalize getS numQ l (a : Int) = res at hF hC hO ⊢
  have k0 : (0 : Int) ≤ (a : Int) := by omega
  have k1 : (a : Int) < ((mk l).size : Int) := by omega
  have k2 : IntKind.i64.wrap ((a : Int) + 1) = (a : Int) + 1 := IntWalk.i64_in _ (by omega)
  have k3 : (0 : Int) ≤ (a : Int) + 1 := by omega
  have k4 : (a : Int) + 1 < ((mk l).size : Int) := by omega
  have k5 : ((a : Int) + 1).toNat = a + 1 := by omega
  go_enter Tryz.func82, Tryz.ntmps82
  go_wp2
  go_quiet (fail)
  rw [kn.out]
  simp only [hz.out, hW.out]
  have hB2 := Lib.hid (below_drewN hB0.out nq)
  have hK2 : Hid (BlkD (W.drewN nq) w.heap.size noD) := hK0.out
  have HX := Lib.hid (hK2.out.setRow noD)
  generalize W.drewN nq = wq at *
  clear kn k0 k1 k2 k3 k4 k5 hc0 hc1 c0l c1l hB0 hK0
  have hmin : min (a + 2 + n) (mk l).size - (a + 2) = n := by omega
  go_wp2_with fail
  simp only [hxt.out]
  rw [hdr.out]
  refine (hT.out _).mono ?_
  rintro e W3 ⟨d, rfl, hB3, hsome⟩
  have HB3 := hB2.out.trans (hB3.mono hB2.out.size)
  have HK3 := hK2.out.below hB3 hK2.out.lt
  have HB4 := HB3.alloc HB3.size (.cells (arrT d) 143)
  have HK4 := HK3.alloc (.cells (arrT d) 143)
  have HA4 := BlkT.new W3 d
  clear hT hdr hmin hB3 HB3 HK3 HX hxt
  generalize hxx : txX (List.drop 47 t) = okb at *
  generalize hW4 : W3.alloc (.cells (arrT d) 143) = W4 at HB4 HK4 HA4
  replace hW4 := Lib.hid hW4
  replace hxx := Lib.hid hxx
  replace HB4 := Lib.hid HB4
  have HX := Lib.hid (HK4.setRow noD)
  replace HK4 := Lib.hid HK4
  replace HA4 := Lib.hid HA4
  replace hsome := Lib.hid hsome
  cases okb
  · have hr := Lib.hid (hF.out rfl)
    clear hF hC hO
    go_wp2_with (first | (refine wpList_store_row rfl 143 _ _ rfl W3.heap.size (arrT d) rfl rfl 143 (arrT noD) (heap_alloc_new W3 _) (by kernel_rfl) rfl (arrT_one d) ?_; rw [World.setRow_alloc_new, hW4.out]) | (refine wpList_store_row rfl 27 _ _ rfl w.heap.size (cellsA noD) rfl rfl 27 (cellsA noD) HK4.out (by kernel_rfl) rfl (cellsA_one noD) ?_))
    refine bodyPost_ret (results_dir3 rfl rfl HX.out) rfl ?_
    rw [hr.out]
    exact ⟨rfl, below_setRow HB4.out (Nat.le_refl _) _⟩
  · obtain ⟨a', hte⟩ := hsome.out rfl
    replace hC := Lib.hid (hC.out d a' rfl hte)
    replace hO := Lib.hid (hO.out d a' rfl hte)
    have hbd := hTB.out d a' hte
    have hCk := Lib.hid (RCheck_any (rdD numQ t d) (rdD_in t d) (rdD_big hbd))
    clear hF hsome hte hbd hTB
    go_wp2_with (first
      | (refine wpList_store_row rfl 143 _ _ rfl W3.heap.size (arrT d) rfl rfl 143 (arrT noD) (heap_alloc_new W3 _) (by kernel_rfl) rfl (arrT_one d) ?_; rw [World.setRow_alloc_new, hW4.out])
      | (refine wpList_store_row rfl 25 _ _ rfl W4.heap.size #[.int .i64 (numQ (cut t 6 1)), .int .i64 (numQ (cut t 7 4)), .int .i64 (numQ (cut t 11 8))] rfl rfl 25 #[.int .i64 0, .int .i64 0, .int .i64 0] (heap_alloc_new W4 _) (by kernel_rfl) rfl rfl ?_; rw [World.setRow_alloc_new])
      | (go_at_call 92; first | (with_reducible refine (n6.out _).mono ?_; rintro e w' ⟨rfl, rfl⟩) | (with_reducible refine (n7.out _).mono ?_; rintro e w' ⟨rfl, rfl⟩) | (with_reducible refine (n11.out _).mono ?_; rintro e w' ⟨rfl, rfl⟩)))
    have HB5 := HB4.out.alloc HB4.out.size (.cells #[.int .i64 (numQ (cut t 6 1)), .int .i64 (numQ (cut t 7 4)), .int .i64 (numQ (cut t 11 8))] 25)
    have HK5 := HK4.out.alloc (.cells #[.int .i64 (numQ (cut t 6 1)), .int .i64 (numQ (cut t 7 4)), .int .i64 (numQ (cut t 11 8))] 25)
    have HA5 := HA4.out.alloc (.cells #[.int .i64 (numQ (cut t 6 1)), .int .i64 (numQ (cut t 7 4)), .int .i64 (numQ (cut t 11 8))] 25)
    have HQ5 := heap_alloc_new W4 (.cells #[.int .i64 (numQ (cut t 6 1)), .int .i64 (numQ (cut t 7 4)), .int .i64 (numQ (cut t 11 8))] 25 (0, 0))
    generalize hW5 : W4.alloc (.cells #[.int .i64 (numQ (cut t 6 1)), .int .i64 (numQ (cut t 7 4)), .int .i64 (numQ (cut t 11 8))] 25) = W5 at *
    have q0 : W5.cell? ⟨W4.heap.size, 0, none⟩ = some (.int .i64 (numQ (cut t 6 1))) := by rw [Joins.cell_of_block HQ5 0]; rfl
    have q1 : W5.cell? ⟨W4.heap.size, 1, none⟩ = some (.int .i64 (numQ (cut t 7 4))) := by rw [Joins.cell_of_block HQ5 1]; rfl
    have q2 : W5.cell? ⟨W4.heap.size, 2, none⟩ = some (.int .i64 (numQ (cut t 11 8))) := by rw [Joins.cell_of_block HQ5 2]; rfl
    have y0 : W5.cell? ⟨W3.heap.size, 0, none⟩ = some (.string (mk d.nm)) := HA5.cell (k := 0) (by omega)
    have y1 : W5.cell? ⟨W3.heap.size, 1, none⟩ = some (.string (mk d.ui)) := HA5.cell (k := 1) (by omega)
    have y2 : W5.cell? ⟨W3.heap.size, 2, none⟩ = some (.string (mk d.gi)) := HA5.cell (k := 2) (by omega)
    have y3 : W5.cell? ⟨W3.heap.size, 3, none⟩ = some (.string (mk d.mu)) := HA5.cell (k := 3) (by omega)
    obtain ⟨W7, hE, HB7, HK7, HD7⟩ : ∃ W7, W5.alloc (.cells #[.int .i64 (numQ (cut t 0 2)), .int .i64 (numQ (cut t 2 4)), .int .i64 (numQ (cut t 6 1)), .int .i64 (numQ (cut t 7 4)), .int .i64 (numQ (cut t 11 8)), .int .i64 (numQ (cut t 19 4)), .int .i64 (numQ (cut t 23 8)), .int .i64 (numQ (cut t 31 8)), .int .i64 (numQ (cut t 39 8)), .string (mk d.nm), .string (mk d.ui), .string (mk d.gi), .string (mk d.mu)] 27) = W7 ∧ Below w.heap.size w W7.drew ∧ BlkD W7.drew w.heap.size noD ∧ BlkD W7.drew W5.heap.size (rdD numQ t d) :=
      ⟨_, rfl, below_drew (HB5.alloc HB5.size _), (HK5.alloc _).drew, (BlkD.new W5 (rdD numQ t d)).drew⟩
    replace hE := Lib.hid hE
    replace HB7 := Lib.hid HB7
    replace HK7 := Lib.hid HK7
    replace HD7 := Lib.hid HD7
    clear HB5 HK5 HA5 HQ5 HX
    replace hW5 := Lib.hid hW5
    go_region_held3 (fun W' => W'.cell? ⟨W4.heap.size, 0, none⟩ = some (.int .i64 (numQ (cut t 6 1))) ∧ W'.cell? ⟨W4.heap.size, 1, none⟩ = some (.int .i64 (numQ (cut t 7 4))) ∧ W'.cell? ⟨W4.heap.size, 2, none⟩ = some (.int .i64 (numQ (cut t 11 8))) ∧ W'.cell? ⟨W3.heap.size, 0, none⟩ = some (.string (mk d.nm)) ∧ W'.cell? ⟨W3.heap.size, 1, none⟩ = some (.string (mk d.ui)) ∧ W'.cell? ⟨W3.heap.size, 2, none⟩ = some (.string (mk d.gi)) ∧ W'.cell? ⟨W3.heap.size, 3, none⟩ = some (.string (mk d.mu))) (first | exact ⟨q0, q1, q2, y0, y1, y2, y3⟩ | go_keep) (first | (go_at_call 92; with_reducible refine (n0.out _).mono ?_; rintro e w' ⟨rfl, rfl⟩) | (go_at_call 92; with_reducible refine (n2.out _).mono ?_; rintro e w' ⟨rfl, rfl⟩) | (go_at_call 92; with_reducible refine (n19.out _).mono ?_; rintro e w' ⟨rfl, rfl⟩) | (go_at_call 92; with_reducible refine (n23.out _).mono ?_; rintro e w' ⟨rfl, rfl⟩) | (go_at_call 92; with_reducible refine (n31.out _).mono ?_; rintro e w' ⟨rfl, rfl⟩) | (go_at_call 92; with_reducible refine (n39.out _).mono ?_; rintro e w' ⟨rfl, rfl⟩))
    all_goals rw [hE.out]
    all_goals generalize W7.drew = W8 at *
    all_goals clear q0 q1 q2 y0 y1 y2 y3
    all_goals (
      have HXo := Lib.hid (HK7.out.setRow noD)
      by_cases hc : checkR (rdD numQ t d) = 0
      · have hr := Lib.hid (hO.out hc)
        have hCk' := fun W => hCk.out W
        rw [hc] at hCk'
        replace hCk' := Lib.hid hCk'
        go_wp2_with (refine wpList_load_row rfl 27 _ rfl W5.heap.size rfl 27 (cellsA (rdD numQ t d)) (0, 0) _ HD7.out Tryz.underlying27 rfl (by kernel_rfl) ?_)
        refine (hCk'.out _).mono ?_
        rintro e W9 ⟨rfl, hB9⟩
        have HB9 := Lib.hid (HB7.out.trans (hB9.mono HB7.out.size))
        have HK9 := Lib.hid (HK7.out.below hB9 HK7.out.lt)
        have HD9 := Lib.hid (HD7.out.below hB9 HD7.out.lt)
        have HX := Lib.hid (HK9.out.setRow (rdD numQ t d))
        clear hB9 hCk' hCk hc
        go_wp2_with (first
          | (refine wpList_load_row rfl 27 _ rfl W5.heap.size rfl 27 (cellsA (rdD numQ t d)) (0, 0) _ HD9.out Tryz.underlying27 rfl (by kernel_rfl) ?_)
          | (refine wpList_store_row rfl 27 _ _ rfl w.heap.size (cellsA (rdD numQ t d)) rfl rfl 27 (cellsA noD) HK9.out (by kernel_rfl) rfl (cellsA_one (rdD numQ t d)) ?_))
        refine bodyPost_ret (results_dir3 rfl rfl HX.out) rfl ?_
        rw [hr.out]
        exact ⟨rfl, below_setRow HB9.out (Nat.le_refl _) _⟩
      · have hr := Lib.hid (hC.out hc)
        generalize checkR (rdD numQ t d) = cx at *
        have hne : (cx != 0) = true := by simpa using hc
        clear hc
        go_wp2_with (refine wpList_load_row rfl 27 _ rfl W5.heap.size rfl 27 (cellsA (rdD numQ t d)) (0, 0) _ HD7.out Tryz.underlying27 rfl (by kernel_rfl) ?_)
        refine (hCk.out _).mono ?_
        rintro e W9 ⟨rfl, hB9⟩
        have HB9 := Lib.hid (HB7.out.trans (hB9.mono HB7.out.size))
        have HK9 := Lib.hid (HK7.out.below hB9 HK7.out.lt)
        have HX := Lib.hid (HK9.out.setRow noD)
        clear hB9 hCk
        go_wp2_with (refine wpList_store_row rfl 27 _ _ rfl w.heap.size (cellsA noD) rfl rfl 27 (cellsA noD) HK9.out (by kernel_rfl) rfl (cellsA_one noD) ?_)
        refine bodyPost_ret (results_dir3 rfl rfl HX.out) rfl ?_
        rw [hr.out]
        exact ⟨rfl, below_setRow HB9.out (Nat.le_refl _) _⟩)
end Go.Proofs.YtlfdmbfbfadifaaGreatDoor.St
