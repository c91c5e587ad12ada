/-
  Walks: short, StatChecks, StatPuts, StatNones.
-/
import Derived.Test.YtinjnbcikoejkaaDoorSt
import Derived.Test.YtinjnbcikoejkaaDoorSl
namespace Go.Proofs.YtinjnbcikoejkaaDoor
open Go.RowKit

def shB (d : DD) : Bool := decide (d.nm.length ≤ 1000 ∧ d.ui.length ≤ 1000 ∧ d.gi.length ≤ 1000 ∧ d.mu.length ≤ 1000)
set_option maxRecDepth 100000 in
set_option maxHeartbeats 3200000 in
theorem short_any (d : DD) (w : World) :
    Calls Tryd.prog 10 #[dirV d] w fun e w' => e = .returned (.bool (shB d)) ∧ Below w.heap.size w w' := by
  have HB0 := Lib.hid (fun ca => (Below.refl _ w).alloc (Nat.le_refl _) (.cells ca 25))
  have hr : shB d = (decide ((mk d.nm).size ≤ 1000) && (decide ((mk d.ui).size ≤ 1000) && (decide ((mk d.gi).size ≤ 1000) && decide ((mk d.mu).size ≤ 1000)))) := by
    rw [mk_size, mk_size, mk_size, mk_size, Bool.eq_iff_iff]; unfold shB; simp
  generalize shB d = res at hr ⊢
  unfold dirV
  replace hr := Lib.hid hr
  have x9 : (cellsA d)[9]? = some (.string (mk d.nm)) := rfl
  have x10 : (cellsA d)[10]? = some (.string (mk d.ui)) := rfl
  have x11 : (cellsA d)[11]? = some (.string (mk d.gi)) := rfl
  have x12 : (cellsA d)[12]? = some (.string (mk d.mu)) := rfl
  generalize cellsA d = ca at *
  generalize mk d.nm = n0 at *
  generalize mk d.ui = n1 at *
  generalize mk d.gi = n2 at *
  generalize mk d.mu = n3 at *
  go_enter Tryd.func10, Tryd.ntmps10
  go_wp2
  all_goals (go_ret; clear x9 x10 x11 x12; rw [hr.out]; refine ⟨retb ?_, HB0.out _⟩; clear hr HB0; rw [Bool.eq_iff_iff]; simp; try omega)

set_option maxRecDepth 100000 in
set_option maxHeartbeats 6400000 in
theorem statChecks_walk (d : DD) (hd : inD d) (hb : bigD d) (w : World) (g : G w) :
    Calls Tryd.prog 3 #[dirV d] w fun e w' => e = .returned (.bool true) ∧ Below w.heap.size w w' := by
  have hB0 : Below w.heap.size w (w.alloc (.cells (cellsA d) 25)) := (Below.refl _ w).alloc (Nat.le_refl _) _
  have hK0 := BlkD.new w d
  have hsz : w.heap.size < (w.alloc (.cells (cellsA d) 25)).heap.size := by simp
  have hS := Lib.hid (fun W => short_any d W)
  have hC := Lib.hid (fun W g => Check_any d hd hb W g)
  have hR := Lib.hid (fun W => RCheck_any d hd hb W)
  have hA := Lib.hid (fun W (h : Below w.heap.size w W) => awake_any W (g.below h))
  have HG := Lib.hid g
  have HB0 := Lib.hid hB0
  have HK0 := Lib.hid hK0
  replace hsz := Lib.hid hsz
  clear hB0 hK0 g hd hb
  unfold dirV at hS hC hR ⊢
  generalize shB d = sb at *
  generalize checkR d = cr at *
  have hcc : (cr == cr) = true := by simp
  go_enter Tryd.func3, Tryd.ntmps3
  go_wp2_with (refine wpList_load_row rfl 25 _ rfl w.heap.size rfl 25 (cellsA d) (0, 0) _ HK0.out Tryd.underlying25 rfl (by kernel_rfl) ?_)
  refine (hS.out _).mono ?_
  rintro e W1 ⟨rfl, hB1⟩
  have HB1 := Lib.hid (HB0.out.trans (hB1.mono HB0.out.size))
  have HK1 := Lib.hid (HK0.out.below hB1 hsz.out)
  clear hB1
  cases sb
  · go_wp2_with fail
    refine (hA.out _ HB1.out).mono ?_
    rintro e W2 ⟨rfl, hB2⟩
    have HB2 := Lib.hid (HB1.out.trans (hB2.mono HB1.out.size))
    clear hB2
    go_wp2
    go_ret
    exact ⟨rfl, HB2.out⟩
  · have hcs := Lib.hid (fun (W' : World) (h : Below W1.heap.size W1 W') => cells13 (HK1.out.below h HK1.out.lt))
    have HBd := Lib.hid (below_drew (Below.refl W1.heap.size W1))
    go_wp2
    go_region_held3 (fun W' => W'.cell? ⟨w.heap.size, 0, none⟩ = some (.int .i64 d.ty) ∧ W'.cell? ⟨w.heap.size, 1, none⟩ = some (.int .i64 d.dv) ∧ W'.cell? ⟨w.heap.size, 2, none⟩ = some (.int .i64 d.qt) ∧ W'.cell? ⟨w.heap.size, 3, none⟩ = some (.int .i64 d.qv) ∧ W'.cell? ⟨w.heap.size, 4, none⟩ = some (.int .i64 d.qp) ∧ W'.cell? ⟨w.heap.size, 5, none⟩ = some (.int .i64 d.mo) ∧ W'.cell? ⟨w.heap.size, 6, none⟩ = some (.int .i64 d.ai) ∧ W'.cell? ⟨w.heap.size, 7, none⟩ = some (.int .i64 d.mi) ∧ W'.cell? ⟨w.heap.size, 8, none⟩ = some (.int .i64 d.ln) ∧ W'.cell? ⟨w.heap.size, 9, none⟩ = some (.string (mk d.nm)) ∧ W'.cell? ⟨w.heap.size, 10, none⟩ = some (.string (mk d.ui)) ∧ W'.cell? ⟨w.heap.size, 11, none⟩ = some (.string (mk d.gi)) ∧ W'.cell? ⟨w.heap.size, 12, none⟩ = some (.string (mk d.mu)))
      (first | exact hcs.out _ HBd.out | exact hcs.out _ HQ1.out | exact hcs.out _ HQ2.out | exact hcs.out _ HQ3.out)
      (first | (go_at_call 12; refine (hC.out _ (HG.out.below (HB1.out.trans (HBd.out.mono HB1.out.size)))).mono ?_; rintro e W2 ⟨rfl, hB2⟩; have HQ1 := Lib.hid (HBd.out.trans (hB2.mono HBd.out.size)); clear hB2) | (go_at_call 13; refine (hR.out _).mono ?_; rintro e W3 ⟨rfl, hB3⟩; have HQ2 := Lib.hid (HQ1.out.trans (hB3.mono HQ1.out.size)); clear hB3) | (go_at_call 11; refine (hA.out _ (HB1.out.trans (HQ2.out.mono HB1.out.size))).mono ?_; rintro e W4 ⟨rfl, hB4⟩; have HQ3 := Lib.hid (HQ2.out.trans (hB4.mono HQ2.out.size)); clear hB4))
    have HB5 := Lib.hid (HB1.out.trans (HQ3.out.mono HB1.out.size))
    clear hcs HBd HQ1 HQ2 HQ3
    go_wp2
    go_ret
    exact ⟨rfl, HB5.out⟩

set_option maxRecDepth 100000 in
set_option maxHeartbeats 6400000 in
theorem statPuts_walk (d : DD) (hd : inD d) (hb : bigD d) (w : World) (g : G w) :
    Calls Tryd.prog 4 #[dirV d] w fun e w' => e = .returned (.bool true) ∧ Below w.heap.size w w' := by
  have hB0 : Below w.heap.size w (w.alloc (.cells (cellsA d) 25)) := (Below.refl _ w).alloc (Nat.le_refl _) _
  have hK0 := BlkD.new w d
  have hsz : w.heap.size < (w.alloc (.cells (cellsA d) 25)).heap.size := by simp
  have hS := Lib.hid (fun W => short_any d W)
  have hC := Lib.hid (fun W g => Put_dir d hd hb W g)
  have hR := Lib.hid (fun W => RPut_any d hd hb W)
  have hA := Lib.hid (fun W (h : Below w.heap.size w W) => awake_any W (g.below h))
  have HG := Lib.hid g
  have HB0 := Lib.hid hB0
  have HK0 := Lib.hid hK0
  replace hsz := Lib.hid hsz
  clear hB0 hK0 g hd hb
  unfold dirV at hS hC hR ⊢
  generalize shB d = sb at *
  generalize (putS d).2 = cr at *
  generalize mk (putS d).1 = st at *
  have hcc : (cr == cr) = true := by simp
  have hss : (st.toList == st.toList) = true := by simp
  go_enter Tryd.func4, Tryd.ntmps4
  go_wp2_with (refine wpList_load_row rfl 25 _ rfl w.heap.size rfl 25 (cellsA d) (0, 0) _ HK0.out Tryd.underlying25 rfl (by kernel_rfl) ?_)
  refine (hS.out _).mono ?_
  rintro e W1 ⟨rfl, hB1⟩
  have HB1 := Lib.hid (HB0.out.trans (hB1.mono HB0.out.size))
  have HK1 := Lib.hid (HK0.out.below hB1 hsz.out)
  clear hB1
  cases sb
  · go_wp2_with fail
    refine (hA.out _ HB1.out).mono ?_
    rintro e W2 ⟨rfl, hB2⟩
    have HB2 := Lib.hid (HB1.out.trans (hB2.mono HB1.out.size))
    clear hB2
    go_wp2
    go_ret
    exact ⟨rfl, HB2.out⟩
  · go_wp2_with (refine wpList_load_row rfl 25 _ rfl w.heap.size rfl 25 (cellsA d) (0, 0) _ HK1.out Tryd.underlying25 rfl (by kernel_rfl) ?_)
    refine (hC.out _ (HG.out.below HB1.out)).mono ?_
    rintro e W2 ⟨rfl, hB2⟩
    have HB2 := Lib.hid (HB1.out.trans (hB2.mono HB1.out.size))
    have HK2 := Lib.hid (HK1.out.below hB2 HK1.out.lt)
    clear hB2
    go_wp2_with (refine wpList_load_row rfl 25 _ rfl w.heap.size rfl 25 (cellsA d) (0, 0) _ HK2.out Tryd.underlying25 rfl (by kernel_rfl) ?_)
    refine (hR.out _).mono ?_
    rintro e W3 ⟨rfl, hB3⟩
    have HB3 := Lib.hid (HB2.out.trans (hB3.mono HB2.out.size))
    clear hB3
    go_wp2_with fail
    refine (hA.out _ HB3.out).mono ?_
    rintro e W4 ⟨rfl, hB4⟩
    have HB4 := Lib.hid (HB3.out.trans (hB4.mono HB3.out.size))
    clear hB4
    go_wp2
    go_ret
    exact ⟨rfl, HB4.out⟩
end Go.Proofs.YtinjnbcikoejkaaDoor
