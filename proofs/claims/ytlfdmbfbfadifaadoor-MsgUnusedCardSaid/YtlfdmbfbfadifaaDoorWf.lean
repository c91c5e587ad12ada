/-
  Walks: the reference's Numbers and Check.
-/
import Derived.Test.YtlfdmbfbfadifaaDoorWe
namespace Go.Proofs.YtlfdmbfbfadifaaDoor
open Go.RowKit

theorem in_lit (n : Int) (g : Nat) (gi : Int) (h : gi = (g : Int)) (hn : inI n) (w : World) :
    Calls Tryd.prog 89 #[.int .i64 n, .int .i64 gi] w fun e w' => e = .returned (.bool (inB n g)) ∧ w = w' := by rw [h]; exact in_any n g hn w
theorem sum_lit (n : Int) (g : Nat) (gi : Int) (h : gi = (g : Int)) (hn : inI n) (hg : g < 9223372036854775808) (w : World) :
    Calls Tryd.prog 88 #[.int .i64 n, .int .i64 gi] w fun e w' => e = .returned (.bool (sumB n g)) ∧ w = w' := by rw [h]; exact sum_any n g hn hg w
theorem allN_eq (d : DD) : ∀ b0 b1 b2 b3 b4 b5 b6 b7 b8, inB d.ty 65534 = b0 → inB d.dv 4294967294 = b1 → sumB d.qt 232 = b2 → inB d.qv 2147483647 = b3 → inB d.qp 1099511627776 = b4 → sumB d.mo 3892314623 = b5 → inB d.ai 1099511627776 = b6 → inB d.mi 1099511627776 = b7 → inB d.ln 9007199254740991 = b8 →
    allN d = (b0 && (b1 && (b2 && (b3 && (b4 && (b5 && (b6 && (b7 && b8)))))))) := by
  rintro _ _ _ _ _ _ _ _ _ rfl rfl rfl rfl rfl rfl rfl rfl rfl; rfl

set_option maxRecDepth 100000 in
set_option maxHeartbeats 6400000 in
theorem Numbers_any (d : DD) (hd : inD d) (w : World) :
    Calls Tryd.prog 87 #[dirV d] w fun e w' => e = .returned (.bool (allN d)) ∧ Below w.heap.size w w' := by
  unfold dirV
  have HB0 := Lib.hid (fun ca => (Below.refl _ w).alloc (Nat.le_refl _) (.cells ca 32))
  have c0 := Lib.hid (fun W => in_lit d.ty 65534 65534 rfl (hd 0 (by omega)) W)
  have c1 := Lib.hid (fun W => in_lit d.dv 4294967294 4294967294 rfl (hd 1 (by omega)) W)
  have c2 := Lib.hid (fun W => sum_lit d.qt 232 232 rfl (hd 2 (by omega)) (by omega) W)
  have c3 := Lib.hid (fun W => in_lit d.qv 2147483647 2147483647 rfl (hd 3 (by omega)) W)
  have c4 := Lib.hid (fun W => in_lit d.qp 1099511627776 1099511627776 rfl (hd 4 (by omega)) W)
  have c5 := Lib.hid (fun W => sum_lit d.mo 3892314623 3892314623 rfl (hd 5 (by omega)) (by omega) W)
  have c6 := Lib.hid (fun W => in_lit d.ai 1099511627776 1099511627776 rfl (hd 6 (by omega)) W)
  have c7 := Lib.hid (fun W => in_lit d.mi 1099511627776 1099511627776 rfl (hd 7 (by omega)) W)
  have c8 := Lib.hid (fun W => in_lit d.ln 9007199254740991 9007199254740991 rfl (hd 8 (by omega)) W)
  have HR := Lib.hid (allN_eq d _ _ _ _ _ _ _ _ _ rfl rfl rfl rfl rfl rfl rfl rfl rfl)
  generalize allN d = res at HR ⊢
  have x0 : (cellsA d)[0]? = some (.int .i64 d.ty) := rfl
  have x1 : (cellsA d)[1]? = some (.int .i64 d.dv) := rfl
  have x2 : (cellsA d)[2]? = some (.int .i64 d.qt) := rfl
  have x3 : (cellsA d)[3]? = some (.int .i64 d.qv) := rfl
  have x4 : (cellsA d)[4]? = some (.int .i64 d.qp) := rfl
  have x5 : (cellsA d)[5]? = some (.int .i64 d.mo) := rfl
  have x6 : (cellsA d)[6]? = some (.int .i64 d.ai) := rfl
  have x7 : (cellsA d)[7]? = some (.int .i64 d.mi) := rfl
  have x8 : (cellsA d)[8]? = some (.int .i64 d.ln) := rfl
  clear hd
  generalize cellsA d = ca at *
  generalize d.ty = n0 at *
  generalize d.dv = n1 at *
  generalize d.qt = n2 at *
  generalize d.qv = n3 at *
  generalize d.qp = n4 at *
  generalize d.mo = n5 at *
  generalize d.ai = n6 at *
  generalize d.mi = n7 at *
  generalize d.ln = n8 at *
  generalize inB n0 65534 = b0 at *
  generalize inB n1 4294967294 = b1 at *
  generalize sumB n2 232 = b2 at *
  generalize inB n3 2147483647 = b3 at *
  generalize inB n4 1099511627776 = b4 at *
  generalize sumB n5 3892314623 = b5 at *
  generalize inB n6 1099511627776 = b6 at *
  generalize inB n7 1099511627776 = b7 at *
  generalize inB n8 9007199254740991 = b8 at *
  go_enter Tryd.func87, Tryd.ntmps87
  go_wp2_with (first
    | (go_at_call 88; first | (with_reducible refine (c2.out _).mono ?_; rintro e w' ⟨rfl, rfl⟩) | (with_reducible refine (c5.out _).mono ?_; rintro e w' ⟨rfl, rfl⟩))
    | (go_at_call 89; first | (with_reducible refine (c0.out _).mono ?_; rintro e w' ⟨rfl, rfl⟩) | (with_reducible refine (c1.out _).mono ?_; rintro e w' ⟨rfl, rfl⟩) | (with_reducible refine (c3.out _).mono ?_; rintro e w' ⟨rfl, rfl⟩) | (with_reducible refine (c4.out _).mono ?_; rintro e w' ⟨rfl, rfl⟩) | (with_reducible refine (c6.out _).mono ?_; rintro e w' ⟨rfl, rfl⟩) | (with_reducible refine (c7.out _).mono ?_; rintro e w' ⟨rfl, rfl⟩) | (with_reducible refine (c8.out _).mono ?_; rintro e w' ⟨rfl, rfl⟩)))
  all_goals (go_ret; clear c0 c1 c2 c3 c4 c5 c6 c7 c8 x0 x1 x2 x3 x4 x5 x6 x7 x8; rw [HR.out]; refine ⟨retb ?_, HB0.out _⟩; clear HR HB0; simp_all)

theorem RCheck_eq (d : DD) {b : Bool} (h : allN d = b) : checkR d = if b then (if nameOk d.nm && shortB d then 0 else 6) else 5 := by rw [← h]; rfl

set_option maxRecDepth 100000 in
set_option maxHeartbeats 3200000 in
theorem RCheck_any (d : DD) (hd : inD d) (hb : bigD d) (w : World) :
    Calls Tryd.prog 84 #[dirV d] w fun e w' => e = .returned (.int .i64 (checkR d)) ∧ Below w.heap.size w w' := by
  have hB0 : Below w.heap.size w (w.alloc (.cells (cellsA d) 32)) := (Below.refl _ w).alloc (Nat.le_refl _) _
  have hK0 := BlkD.new w d
  have hN := Lib.hid (Numbers_any d hd)
  unfold dirV at hN ⊢
  have H6 := Lib.hid (fun b h => RCheck_eq d (b := b) h)
  replace H6 := Lib.hid (H6.out _ rfl)
  generalize checkR d = res at H6 ⊢
  generalize allN d = bn at H6 hN
  have hsz : (w.alloc (.cells (cellsA d) 32)).heap.size = w.heap.size + 1 := by simp
  have HB := Lib.hid hb
  have hld := Lib.hid (run_loadVar_row (P := Tryd.prog) _ _ _ 32 _ _ _ hK0 Tryd.underlying32 rfl (by kernel_rfl))
  clear hd hb
  have HK0 := Lib.hid hK0
  have HB0 := Lib.hid hB0
  replace hsz := Lib.hid hsz
  clear hB0 hK0
  cases bn
  · have hr : Hid (res = 5) := H6.out
    go_enter Tryd.func84, Tryd.ntmps84
    go_wp2_with (refine wpList_load_row rfl 32 _ rfl w.heap.size rfl 32 (cellsA d) (0, 0) _ HK0.out Tryd.underlying32 rfl (by kernel_rfl) ?_)
    refine (hN.out _).mono ?_
    rintro e w1 ⟨rfl, hB1⟩
    have HB1 := Lib.hid (HB0.out.trans (hB1.mono (by rw [hsz.out]; omega)))
    clear hB1
    go_wp2
    go_ret
    rw [hr.out]
    exact ⟨rfl, HB1.out⟩
  · have h6 : res = if (nameOk d.nm && shortB d) = true then 0 else 6 := H6.out
    clear H6
    have b0 := HB.out 0 (by omega)
    have b1 := HB.out 1 (by omega)
    have b2 := HB.out 2 (by omega)
    have b3 := HB.out 3 (by omega)
    simp only [txt] at b0 b1 b2 b3
    have hV := Lib.hid (fun W => RValidM d.nm b0 W)
    have s1 := mk_size d.ui
    have s2 := mk_size d.gi
    have s3 := mk_size d.mu
    unfold maxLen at b1 b2 b3
    have hs : shortB d = decide ((mk d.ui).size ≤ 64 ∧ (mk d.gi).size ≤ 64 ∧ (mk d.mu).size ≤ 64) := by rw [s1, s2, s3]; rfl
    have hnc := name_cases d.nm
    rw [← s1] at b1
    rw [← s2] at b2
    rw [← s3] at b3
    clear s1 s2 s3 b0
    have hcell : Hid (∀ w1, Below (w.alloc (.cells (cellsA d) 32)).heap.size (w.alloc (.cells (cellsA d) 32)) w1 → (w1.cell? ⟨w.heap.size, 9, none⟩ = some (.string (mk d.nm)) ∧ w1.cell? ⟨w.heap.size, 10, none⟩ = some (.string (mk d.ui))) ∧ w1.cell? ⟨w.heap.size, 11, none⟩ = some (.string (mk d.gi)) ∧ w1.cell? ⟨w.heap.size, 12, none⟩ = some (.string (mk d.mu))) := fun w1 hB => by
      have h := HK0.out.below hB (by rw [hsz.out]; omega)
      exact ⟨⟨h.txtc (k := 0) (by omega), h.txtc (k := 1) (by omega)⟩, h.txtc (k := 2) (by omega), h.txtc (k := 3) (by omega)⟩
    generalize d.nm = nm at *
    generalize d.ui = ui at *
    generalize d.gi = gi at *
    generalize d.mu = mu at *
    go_enter Tryd.func84, Tryd.ntmps84
    go_wp2_with (refine wpList_load_row rfl 32 _ rfl w.heap.size rfl 32 (cellsA d) (0, 0) _ HK0.out Tryd.underlying32 rfl (by kernel_rfl) ?_)
    refine (hN.out _).mono ?_
    rintro e w1 ⟨rfl, hB1⟩
    have HB1 := Lib.hid (HB0.out.trans (hB1.mono (by rw [hsz.out]; omega)))
    obtain ⟨⟨x9, x10⟩, x11, x12⟩ := hcell.out w1 hB1
    clear hB1 hcell hN
    rcases hnc with ⟨n1, n2, n3⟩ | ⟨n1, n2, n3, n4⟩ | ⟨n1, n2, n3, n4⟩
    · have hr : res = if shortB d = true then 0 else 6 := by rw [h6, n3, Bool.true_and]
      rw [hs] at hr
      replace hr := Lib.hid hr
      clear h6 n3 hs hV
      go_wp2
      all_goals go_ret
      all_goals (rw [hr.out]; refine ⟨ret1 ?_, HB1.out⟩; clear hr; simp only [decide_eq_true_eq]; (repeat' split) <;> (try rfl) <;> exfalso <;> simp_all <;> omega)
    · have hr : res = if shortB d = true then 0 else 6 := by rw [h6, n4, Bool.true_and]
      rw [hs] at hr
      replace hr := Lib.hid hr
      clear h6 n4 hs hV
      go_wp2
      all_goals go_ret
      all_goals (rw [hr.out]; refine ⟨ret1 ?_, HB1.out⟩; clear hr; simp only [decide_eq_true_eq]; (repeat' split) <;> (try rfl) <;> exfalso <;> simp_all <;> omega)
    · rw [n4] at h6
      clear n4
      generalize validL nm = vv at hV h6
      cases vv
      · have hr : Hid (res = 6) := h6
        clear h6 hs
        go_wp2_with (go_at_call 83; refine (hV.out _).mono ?_; rintro e w' ⟨rfl, rfl⟩)
        go_ret
        rw [hr.out]
        exact ⟨rfl, HB1.out⟩
      · have hr : res = if shortB d = true then 0 else 6 := by rw [h6, Bool.true_and]
        rw [hs] at hr
        replace hr := Lib.hid hr
        clear h6 hs
        go_wp2_with (go_at_call 83; refine (hV.out _).mono ?_; rintro e w' ⟨rfl, rfl⟩)
        all_goals go_ret
        all_goals (rw [hr.out]; refine ⟨ret1 ?_, HB1.out⟩; clear hr; simp only [decide_eq_true_eq]; (repeat' split) <;> (try rfl) <;> exfalso <;> simp_all <;> omega)
end Go.Proofs.YtlfdmbfbfadifaaDoor
