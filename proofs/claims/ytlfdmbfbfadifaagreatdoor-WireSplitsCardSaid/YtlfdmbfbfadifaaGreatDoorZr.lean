/-
  wire.Split.
-/
import Derived.Test.YtlfdmbfbfadifaaGreatDoorZq
namespace Go.Proofs.YtlfdmbfbfadifaaGreatDoor
open Go.RowKit

theorem getR4 {l : List UInt8} {a : Nat} (h : a + 4 ≤ l.length) : ∃ q : Nat, getR l (a : Int) 4 = ((q : Int), (a : Int) + 4, 0) ∧ q < 4294967296 := by
  refine ⟨val (cut l a 4), getR_ok l a 4 ⟨by omega, by omega⟩ h, ?_⟩
  have := val_lt (cut l a 4)
  rw [cut_size l a 4 h] at this
  exact this
def SplPost (l : List UInt8) (ms : Int) (w : World) (e : Ending) (w' : World) : Prop :=
  ∃ v L, e = .returned (.tuple #[v, .string (mk (splW l ms).2.1), .int .i64 (splW l ms).2.2]) ∧ MSRow w' v L ∧ L.map strip = (splW l ms).1 ∧ Below w.heap.size w w'

set_option maxRecDepth 100000 in
set_option maxHeartbeats 12800000 in
theorem Split_zero (l : List UInt8) (ms : Int) (hl : (mk l).size ≤ 1000000) (h0 : ms = 0) (w : World) (g : G w) :
    Calls Tryz.prog 15 #[.string (mk l), .int .i64 ms] w fun e w' => SplPost l ms w e w' := by
  have HL := Lib.hid (mk_size l)
  subst h0
  have hlim : Hid (limR 0 = 8192) := Lib.hid rfl
  have hini : Hid (splW l 0 = splR l 8192 ((mk l).size + 1) [] 0) := Lib.hid (by rw [mk_size]; unfold splW; rw [hlim.out])
  obtain ⟨i0, hi, hz0, hz1, hz2⟩ := info_parts info_msgZ
  have hzm := zero_msgW
  have HO4 := Lib.hid (fun (a : Nat) W => oGet l (a : Int) 4 (by rw [← HL.out]; unfold maxLen; omega) W)
  have HG := Lib.hid (fun (a : Nat) W (h : Below w.heap.size w W) => Get_msg l (a : Int) (by rw [← HL.out]; exact hl) W (g.below h))
  have HC := Lib.hid (fun (a : Nat) W => oClone (l.drop a) W (by rw [mk_size, List.length_drop, ← HL.out]; omega))
  have HT := Lib.hid (fun a ha => mk_tail l a ha)
  clear g
  go_enter Tryz.func15, Tryz.ntmps15
  go_wp2
  go_loopw [8, 9] (fun vx va wr => ∃ (vv : Value) (L : List MM) (acc : List MM) (a n : Nat), vv = vx ∧ va = .int .i64 (a : Int) ∧ a ≤ (mk l).size ∧ (mk l).size < a + n ∧ L.length ≤ a ∧ Hid (splW l 0 = splR l 8192 n acc a) ∧ Hid (MSOwn w.heap.size wr vv L) ∧ Hid (L.map strip = acc) ∧ Hid (Below w.heap.size w wr)) (fun _ va _ => (mk l).size - (intOf va).toNat)
  case atStart => exact ⟨_, [], [], 0, (mk l).size + 1, rfl, rfl, by omega, by omega, by simp, hini, MSOwn.nil_ _ _, rfl, Below.refl _ _⟩
  case round =>
    obtain ⟨vv, L, acc, a, n, rfl, rfl, ha, hn, hal, hr, hO, hLa, hB⟩ := hrel
    by_cases hlt : (mk l).size < a + 4
    · have hd : decide ((4 : Int) ≤ ((mk l).size : Int) - (a : Int)) = false := by simp; omega
      have hres := Lib.hid (hr.out.trans (splR_end (by rw [← HL.out]; exact hlt)))
      have hcl := HC.out a wr
      have e6 := HT.out a (by rw [← HL.out]; exact ha)
      have e7 : (a : Int) ≤ ((mk l).size : Int) := by omega
      clear hr
      go_wp2_with fail
      refine hcl.mono ?_
      rintro e w2 ⟨rfl, hB2⟩
      have HB2 := Lib.hid (hB.out.trans (hB2.mono hB.out.size))
      have HO2 := Lib.hid (hO.out.below hB2)
      clear hB2
      go_wp2
      go_ret3
      exact ⟨_, L, by rw [hres.out]; rfl, HO2.out.row, by rw [hres.out]; exact hLa.out, HB2.out⟩
    obtain ⟨q, hq, hq2⟩ := getR4 (l := l) (a := a) (by rw [← HL.out]; omega)
    have hd4 : decide ((4 : Int) ≤ ((mk l).size : Int) - (a : Int)) = true := by simp; omega
    have e7 : (a : Int) ≤ ((mk l).size : Int) := by omega
    have hOG := HO4.out a wr
    rw [hq] at hOG
    dsimp only at hOG
    have s1 := fun (h1 : 8192 < (q : Int) ∨ (q : Int) < 7) => hr.out.trans (splR_bad (l := l) (lim := 8192) (n := n) (a := a) (acc := acc) (by omega) (by rw [← HL.out]; exact hlt) (by rw [hq]; exact h1))
    by_cases h1 : 8192 < (q : Int)
    · have hd5 : decide (8192 < (q : Int)) = true := by simpa using h1
      have hres := Lib.hid (s1 (.inl h1))
      clear hr s1 hq
      go_wp2_with fail
      refine hOG.mono ?_
      rintro e w2 ⟨rfl, rfl⟩
      go_wp2
      go_ret3
      exact ⟨_, [], by rw [hres.out]; rfl, MSRow.nil_ _, by rw [hres.out]; rfl, hB.out⟩
    have hd5 : decide (8192 < (q : Int)) = false := by simpa using h1
    by_cases h2 : (q : Int) < 7
    · have hd6 : decide ((q : Int) < 7) = true := by simpa using h2
      have hres := Lib.hid (s1 (.inr h2))
      clear hr s1 hq
      go_wp2_with fail
      refine hOG.mono ?_
      rintro e w2 ⟨rfl, rfl⟩
      go_wp2
      go_ret3
      exact ⟨_, [], by rw [hres.out]; rfl, MSRow.nil_ _, by rw [hres.out]; rfl, hB.out⟩
    have hd6 : decide ((q : Int) < 7) = false := by simpa using h2
    have h12 : ¬ (8192 < (getR l (a : Int) 4).1 ∨ (getR l (a : Int) 4).1 < 7) := by rw [hq]; rintro (h | h) <;> contradiction
    by_cases h3 : ((mk l).size : Int) - (a : Int) < (q : Int)
    · have hd7 : decide (((mk l).size : Int) - (a : Int) < (q : Int)) = true := by simpa using h3
      have hres := Lib.hid (hr.out.trans (splR_part (l := l) (lim := 8192) (n := n) (a := a) (acc := acc) (by omega) (by rw [← HL.out]; exact hlt) h12 (by rw [hq, ← HL.out]; exact h3)))
      have hcl := HC.out a wr
      have e6 := HT.out a (by rw [← HL.out]; exact ha)
      clear hr s1 hq h12
      go_wp2_with fail
      refine hOG.mono ?_
      rintro e w2 ⟨rfl, rfl⟩
      go_wp2_with fail
      refine hcl.mono ?_
      rintro e w2 ⟨rfl, hB2⟩
      have HB2 := Lib.hid (hB.out.trans (hB2.mono hB.out.size))
      have HO2 := Lib.hid (hO.out.below hB2)
      clear hB2
      go_wp2
      go_ret3
      exact ⟨_, L, by rw [hres.out]; rfl, HO2.out.row, by rw [hres.out]; exact hLa.out, HB2.out⟩
    have hd7 : decide (((mk l).size : Int) - (a : Int) < (q : Int)) = false := by simpa using h3
    have h3' : ¬ (l.length : Int) - (a : Int) < (getR l (a : Int) 4).1 := by rw [hq, ← HL.out]; exact h3
    have hGt := HG.out a wr hB.out
    have he1 := fun m x e h h' => hr.out.trans (splR_err (l := l) (lim := 8192) (acc := acc) (n := n) (a := a) (by omega) (by rw [← HL.out]; exact hlt) h12 h3' (m := m) (x := x) (e := e) h h')
    have he2 := fun m x h => hr.out.trans (splR_step (l := l) (lim := 8192) (acc := acc) (n := n) (a := a) (by omega) (by rw [← HL.out]; exact hlt) h12 h3' (m := m) (x := x) h)
    have he3 := fun m x h => getW_next (l := l) (a := a) (m := m) (x := x) h
    have hnv := getW_nv l (a : Int)
    clear s1 hq hr h12 h3'
    generalize hgs : getW l (a : Int) = res at *
    obtain ⟨D, nx, er⟩ := res
    dsimp only at hGt hnv
    by_cases h0e : er = 0
    · subst h0e
      have hst := he2 D nx rfl
      obtain ⟨c, rfl, hc1, hc2⟩ := he3 D nx rfl
      rw [← HL.out] at hc2
      rw [Int.toNat_natCast] at hst
      replace hst := Lib.hid hst
      clear he1 he2 he3 hgs
      replace hGt := Lib.hid hGt
      go_wp2_with fail
      refine hOG.mono ?_
      rintro e w2 ⟨rfl, rfl⟩
      go_wp2_with fail
      refine hGt.out.mono ?_
      rintro e W1 ⟨v1, v2, rfl, hRow, hB1⟩
      have hsp := Lib.hid (strip_with hnv v1 v2)
      have HB1 := hB.out.trans (hB1.mono hB.out.size)
      have HO1 := hO.out.below hB1
      have HR1 := hRow.toB (o := vv.ownBlock) (fun k hk => Nat.lt_succ_of_lt (hO.out.lt k hk))
      have H1 := Lib.hid (cellsB_one _ hRow.row.one.1 hRow.row.one.2)
      generalize withV D v1 v2 = mm at *
      unfold msgV
      obtain ⟨W2, hW2, HB2, HO2, HR2, HX2⟩ : ∃ W2, W1.alloc (.cells (cellsB mm) 30) = W2 ∧ Below w.heap.size w W2 ∧ MSOwn w.heap.size W2 vv L ∧ RowB vv.ownBlock W2 mm ∧ BlkM W2 W1.heap.size mm := ⟨_, rfl, HB1.alloc HB1.size _, HO1.below ((Below.refl _ W1).alloc (Nat.le_refl _) _), HR1.below ((Below.refl _ W1).alloc (Nat.le_refl _) _), BlkM.new W1 mm⟩
      obtain ⟨W3, hW3, HB3, HO3, HR3, HX3⟩ : ∃ W3, W2.alloc (.cells (cellsB mm) 30) = W3 ∧ Below w.heap.size w W3 ∧ MSOwn w.heap.size W3 vv L ∧ RowB vv.ownBlock W3 mm ∧ BlkM W3 W2.heap.size mm := ⟨_, rfl, HB2.alloc HB2.size _, HO2.below ((Below.refl _ W2).alloc (Nat.le_refl _) _), HR2.below ((Below.refl _ W2).alloc (Nat.le_refl _) _), BlkM.new W2 mm⟩
      replace hW2 := Lib.hid hW2
      replace hW3 := Lib.hid hW3
      replace HB2 := Lib.hid HB2
      replace HB3 := Lib.hid HB3
      replace HO2 := Lib.hid HO2
      replace HO3 := Lib.hid HO3
      replace HR2 := Lib.hid HR2
      replace HR3 := Lib.hid HR3
      replace HX2 := Lib.hid HX2
      replace HX3 := Lib.hid HX3
      replace hnv := Lib.hid hnv
      clear hB1 HB1 HO1 HR1 hRow hGt
      go_wp2_with (first
        | (simp only [hzm.out])
        | (refine wpList_store_row rfl 30 _ _ rfl W1.heap.size (cellsB mm) rfl rfl 30 (cellsB noM) (heap_alloc_new W1 _) (by kernel_rfl) rfl H1.out ?_; rw [World.setRow_alloc_new, hW2.out])
        | (refine wpList_load_row rfl 30 _ rfl W1.heap.size rfl 30 (cellsB mm) (0, 0) _ HX2.out Tryz.underlying30 rfl (by kernel_rfl) ?_)
        | (refine wpList_build_oneM rfl (.tmp 59) rfl mm rfl ?_; rw [hW3.out])
        | (at_builtin; refine wpList_append_own_at _ rfl (.tmp 58) (.tmp 60) 40 rfl w.heap.size 30 i0 (.agg (cellsB noM)) 39 424 Tryz.underlying40 hi hz0 hz1 hz2 rfl (by decide) _ _ _ rfl HO3.out.1 ⟨W2.heap.size, 0, none⟩ 1 1 (cellsM mm) rfl rfl (cells_msgAt HX3.out) (cellsM_one mm H1.out) (by unfold maxLen; omega) (by omega) HB3.out.size ?_; intro v' w4 hown' hgrow _ hob))
      have HO4' : Hid (MSOwn w.heap.size w4 v' (L ++ [mm])) := HO3.out.more HR3.out hgrow hob hown'
      have HB4 := Lib.hid (HB3.out.trans (below_grown HB3.out.size HO3.out.1 hgrow))
      clear hown' hgrow hob
      go_wp2
      exact ⟨⟨_, L ++ [mm], acc ++ [D], c, n - 1, rfl, rfl, by omega, by omega, by simp; omega, hst, HO4', Lib.hid (by rw [List.map_append, hLa.out]; simp only [List.map_cons, List.map_nil, hsp.out]), HB4⟩, by simp [intOf]; omega⟩
    · have hres := Lib.hid (he1 D nx er rfl h0e)
      have hne : (er != 0) = true := by simpa using h0e
      clear he1 he2 he3 hgs h0e
      replace hGt := Lib.hid hGt
      replace hnv := Lib.hid hnv
      go_wp2_with fail
      refine hOG.mono ?_
      rintro e w2 ⟨rfl, rfl⟩
      go_wp2_with fail
      refine hGt.out.mono ?_
      rintro e W1 ⟨v1, v2, rfl, hRow, hB1⟩
      have HB1 := hB.out.trans (hB1.mono hB.out.size)
      have H1 := Lib.hid (cellsB_one _ hRow.row.one.1 hRow.row.one.2)
      generalize withV D v1 v2 = mm at *
      unfold msgV
      obtain ⟨W2, hW2, HB2⟩ : ∃ W2, W1.alloc (.cells (cellsB mm) 30) = W2 ∧ Below w.heap.size w W2 := ⟨_, rfl, HB1.alloc HB1.size _⟩
      replace hW2 := Lib.hid hW2
      replace HB2 := Lib.hid HB2
      clear hB1 HB1 hGt hRow
      go_wp2_with (first | (simp only [hzm.out]) | (refine wpList_store_row rfl 30 _ _ rfl W1.heap.size (cellsB mm) rfl rfl 30 (cellsB noM) (heap_alloc_new W1 _) (by kernel_rfl) rfl H1.out ?_; rw [World.setRow_alloc_new, hW2.out]))
      go_ret3
      exact ⟨_, [], by rw [hres.out]; rfl, MSRow.nil_ _, by rw [hres.out]; rfl, HB2.out⟩

set_option maxRecDepth 100000 in
set_option maxHeartbeats 12800000 in
theorem Split_big (l : List UInt8) (ms : Int) (hl : (mk l).size ≤ 1000000) (h0 : ms ≠ 0) (h8 : 8192 < ms) (w : World) (g : G w) :
    Calls Tryz.prog 15 #[.string (mk l), .int .i64 ms] w fun e w' => SplPost l ms w e w' := by
  have HL := Lib.hid (mk_size l)
  have hlim : Hid (limR ms = 8192) := Lib.hid (by unfold limR; rw [if_pos (.inr h8)])
  have hb0 : (ms == 0) = false := by simpa using h0
  have hb8 : decide ((8192 : Int) < ms) = true := by simpa using h8
  have hini : Hid (splW l ms = splR l 8192 ((mk l).size + 1) [] 0) := Lib.hid (by rw [mk_size]; unfold splW; rw [hlim.out])
  obtain ⟨i0, hi, hz0, hz1, hz2⟩ := info_parts info_msgZ
  have hzm := zero_msgW
  have HO4 := Lib.hid (fun (a : Nat) W => oGet l (a : Int) 4 (by rw [← HL.out]; unfold maxLen; omega) W)
  have HG := Lib.hid (fun (a : Nat) W (h : Below w.heap.size w W) => Get_msg l (a : Int) (by rw [← HL.out]; exact hl) W (g.below h))
  have HC := Lib.hid (fun (a : Nat) W => oClone (l.drop a) W (by rw [mk_size, List.length_drop, ← HL.out]; omega))
  have HT := Lib.hid (fun a ha => mk_tail l a ha)
  clear g
  go_enter Tryz.func15, Tryz.ntmps15
  go_wp2
  go_loopw [8, 9] (fun vx va wr => ∃ (vv : Value) (L : List MM) (acc : List MM) (a n : Nat), vv = vx ∧ va = .int .i64 (a : Int) ∧ a ≤ (mk l).size ∧ (mk l).size < a + n ∧ L.length ≤ a ∧ Hid (splW l ms = splR l 8192 n acc a) ∧ Hid (MSOwn w.heap.size wr vv L) ∧ Hid (L.map strip = acc) ∧ Hid (Below w.heap.size w wr)) (fun _ va _ => (mk l).size - (intOf va).toNat)
  case atStart => exact ⟨_, [], [], 0, (mk l).size + 1, rfl, rfl, by omega, by omega, by simp, hini, MSOwn.nil_ _ _, rfl, Below.refl _ _⟩
  case round =>
    obtain ⟨vv, L, acc, a, n, rfl, rfl, ha, hn, hal, hr, hO, hLa, hB⟩ := hrel
    by_cases hlt : (mk l).size < a + 4
    · have hd : decide ((4 : Int) ≤ ((mk l).size : Int) - (a : Int)) = false := by simp; omega
      have hres := Lib.hid (hr.out.trans (splR_end (by rw [← HL.out]; exact hlt)))
      have hcl := HC.out a wr
      have e6 := HT.out a (by rw [← HL.out]; exact ha)
      have e7 : (a : Int) ≤ ((mk l).size : Int) := by omega
      clear hr
      go_wp2_with fail
      refine hcl.mono ?_
      rintro e w2 ⟨rfl, hB2⟩
      have HB2 := Lib.hid (hB.out.trans (hB2.mono hB.out.size))
      have HO2 := Lib.hid (hO.out.below hB2)
      clear hB2
      go_wp2
      go_ret3
      exact ⟨_, L, by rw [hres.out]; rfl, HO2.out.row, by rw [hres.out]; exact hLa.out, HB2.out⟩
    obtain ⟨q, hq, hq2⟩ := getR4 (l := l) (a := a) (by rw [← HL.out]; omega)
    have hd4 : decide ((4 : Int) ≤ ((mk l).size : Int) - (a : Int)) = true := by simp; omega
    have e7 : (a : Int) ≤ ((mk l).size : Int) := by omega
    have hOG := HO4.out a wr
    rw [hq] at hOG
    dsimp only at hOG
    have s1 := fun (h1 : 8192 < (q : Int) ∨ (q : Int) < 7) => hr.out.trans (splR_bad (l := l) (lim := 8192) (n := n) (a := a) (acc := acc) (by omega) (by rw [← HL.out]; exact hlt) (by rw [hq]; exact h1))
    by_cases h1 : 8192 < (q : Int)
    · have hd5 : decide (8192 < (q : Int)) = true := by simpa using h1
      have hres := Lib.hid (s1 (.inl h1))
      clear hr s1 hq
      go_wp2_with fail
      refine hOG.mono ?_
      rintro e w2 ⟨rfl, rfl⟩
      go_wp2
      go_ret3
      exact ⟨_, [], by rw [hres.out]; rfl, MSRow.nil_ _, by rw [hres.out]; rfl, hB.out⟩
    have hd5 : decide (8192 < (q : Int)) = false := by simpa using h1
    by_cases h2 : (q : Int) < 7
    · have hd6 : decide ((q : Int) < 7) = true := by simpa using h2
      have hres := Lib.hid (s1 (.inr h2))
      clear hr s1 hq
      go_wp2_with fail
      refine hOG.mono ?_
      rintro e w2 ⟨rfl, rfl⟩
      go_wp2
      go_ret3
      exact ⟨_, [], by rw [hres.out]; rfl, MSRow.nil_ _, by rw [hres.out]; rfl, hB.out⟩
    have hd6 : decide ((q : Int) < 7) = false := by simpa using h2
    have h12 : ¬ (8192 < (getR l (a : Int) 4).1 ∨ (getR l (a : Int) 4).1 < 7) := by rw [hq]; rintro (h | h) <;> contradiction
    by_cases h3 : ((mk l).size : Int) - (a : Int) < (q : Int)
    · have hd7 : decide (((mk l).size : Int) - (a : Int) < (q : Int)) = true := by simpa using h3
      have hres := Lib.hid (hr.out.trans (splR_part (l := l) (lim := 8192) (n := n) (a := a) (acc := acc) (by omega) (by rw [← HL.out]; exact hlt) h12 (by rw [hq, ← HL.out]; exact h3)))
      have hcl := HC.out a wr
      have e6 := HT.out a (by rw [← HL.out]; exact ha)
      clear hr s1 hq h12
      go_wp2_with fail
      refine hOG.mono ?_
      rintro e w2 ⟨rfl, rfl⟩
      go_wp2_with fail
      refine hcl.mono ?_
      rintro e w2 ⟨rfl, hB2⟩
      have HB2 := Lib.hid (hB.out.trans (hB2.mono hB.out.size))
      have HO2 := Lib.hid (hO.out.below hB2)
      clear hB2
      go_wp2
      go_ret3
      exact ⟨_, L, by rw [hres.out]; rfl, HO2.out.row, by rw [hres.out]; exact hLa.out, HB2.out⟩
    have hd7 : decide (((mk l).size : Int) - (a : Int) < (q : Int)) = false := by simpa using h3
    have h3' : ¬ (l.length : Int) - (a : Int) < (getR l (a : Int) 4).1 := by rw [hq, ← HL.out]; exact h3
    have hGt := HG.out a wr hB.out
    have he1 := fun m x e h h' => hr.out.trans (splR_err (l := l) (lim := 8192) (acc := acc) (n := n) (a := a) (by omega) (by rw [← HL.out]; exact hlt) h12 h3' (m := m) (x := x) (e := e) h h')
    have he2 := fun m x h => hr.out.trans (splR_step (l := l) (lim := 8192) (acc := acc) (n := n) (a := a) (by omega) (by rw [← HL.out]; exact hlt) h12 h3' (m := m) (x := x) h)
    have he3 := fun m x h => getW_next (l := l) (a := a) (m := m) (x := x) h
    have hnv := getW_nv l (a : Int)
    clear s1 hq hr h12 h3'
    generalize hgs : getW l (a : Int) = res at *
    obtain ⟨D, nx, er⟩ := res
    dsimp only at hGt hnv
    by_cases h0e : er = 0
    · subst h0e
      have hst := he2 D nx rfl
      obtain ⟨c, rfl, hc1, hc2⟩ := he3 D nx rfl
      rw [← HL.out] at hc2
      rw [Int.toNat_natCast] at hst
      replace hst := Lib.hid hst
      clear he1 he2 he3 hgs
      replace hGt := Lib.hid hGt
      go_wp2_with fail
      refine hOG.mono ?_
      rintro e w2 ⟨rfl, rfl⟩
      go_wp2_with fail
      refine hGt.out.mono ?_
      rintro e W1 ⟨v1, v2, rfl, hRow, hB1⟩
      have hsp := Lib.hid (strip_with hnv v1 v2)
      have HB1 := hB.out.trans (hB1.mono hB.out.size)
      have HO1 := hO.out.below hB1
      have HR1 := hRow.toB (o := vv.ownBlock) (fun k hk => Nat.lt_succ_of_lt (hO.out.lt k hk))
      have H1 := Lib.hid (cellsB_one _ hRow.row.one.1 hRow.row.one.2)
      generalize withV D v1 v2 = mm at *
      unfold msgV
      obtain ⟨W2, hW2, HB2, HO2, HR2, HX2⟩ : ∃ W2, W1.alloc (.cells (cellsB mm) 30) = W2 ∧ Below w.heap.size w W2 ∧ MSOwn w.heap.size W2 vv L ∧ RowB vv.ownBlock W2 mm ∧ BlkM W2 W1.heap.size mm := ⟨_, rfl, HB1.alloc HB1.size _, HO1.below ((Below.refl _ W1).alloc (Nat.le_refl _) _), HR1.below ((Below.refl _ W1).alloc (Nat.le_refl _) _), BlkM.new W1 mm⟩
      obtain ⟨W3, hW3, HB3, HO3, HR3, HX3⟩ : ∃ W3, W2.alloc (.cells (cellsB mm) 30) = W3 ∧ Below w.heap.size w W3 ∧ MSOwn w.heap.size W3 vv L ∧ RowB vv.ownBlock W3 mm ∧ BlkM W3 W2.heap.size mm := ⟨_, rfl, HB2.alloc HB2.size _, HO2.below ((Below.refl _ W2).alloc (Nat.le_refl _) _), HR2.below ((Below.refl _ W2).alloc (Nat.le_refl _) _), BlkM.new W2 mm⟩
      replace hW2 := Lib.hid hW2
      replace hW3 := Lib.hid hW3
      replace HB2 := Lib.hid HB2
      replace HB3 := Lib.hid HB3
      replace HO2 := Lib.hid HO2
      replace HO3 := Lib.hid HO3
      replace HR2 := Lib.hid HR2
      replace HR3 := Lib.hid HR3
      replace HX2 := Lib.hid HX2
      replace HX3 := Lib.hid HX3
      replace hnv := Lib.hid hnv
      clear hB1 HB1 HO1 HR1 hRow hGt
      go_wp2_with (first
        | (simp only [hzm.out])
        | (refine wpList_store_row rfl 30 _ _ rfl W1.heap.size (cellsB mm) rfl rfl 30 (cellsB noM) (heap_alloc_new W1 _) (by kernel_rfl) rfl H1.out ?_; rw [World.setRow_alloc_new, hW2.out])
        | (refine wpList_load_row rfl 30 _ rfl W1.heap.size rfl 30 (cellsB mm) (0, 0) _ HX2.out Tryz.underlying30 rfl (by kernel_rfl) ?_)
        | (refine wpList_build_oneM rfl (.tmp 59) rfl mm rfl ?_; rw [hW3.out])
        | (at_builtin; refine wpList_append_own_at _ rfl (.tmp 58) (.tmp 60) 40 rfl w.heap.size 30 i0 (.agg (cellsB noM)) 39 424 Tryz.underlying40 hi hz0 hz1 hz2 rfl (by decide) _ _ _ rfl HO3.out.1 ⟨W2.heap.size, 0, none⟩ 1 1 (cellsM mm) rfl rfl (cells_msgAt HX3.out) (cellsM_one mm H1.out) (by unfold maxLen; omega) (by omega) HB3.out.size ?_; intro v' w4 hown' hgrow _ hob))
      have HO4' : Hid (MSOwn w.heap.size w4 v' (L ++ [mm])) := HO3.out.more HR3.out hgrow hob hown'
      have HB4 := Lib.hid (HB3.out.trans (below_grown HB3.out.size HO3.out.1 hgrow))
      clear hown' hgrow hob
      go_wp2
      exact ⟨⟨_, L ++ [mm], acc ++ [D], c, n - 1, rfl, rfl, by omega, by omega, by simp; omega, hst, HO4', Lib.hid (by rw [List.map_append, hLa.out]; simp only [List.map_cons, List.map_nil, hsp.out]), HB4⟩, by simp [intOf]; omega⟩
    · have hres := Lib.hid (he1 D nx er rfl h0e)
      have hne : (er != 0) = true := by simpa using h0e
      clear he1 he2 he3 hgs h0e
      replace hGt := Lib.hid hGt
      replace hnv := Lib.hid hnv
      go_wp2_with fail
      refine hOG.mono ?_
      rintro e w2 ⟨rfl, rfl⟩
      go_wp2_with fail
      refine hGt.out.mono ?_
      rintro e W1 ⟨v1, v2, rfl, hRow, hB1⟩
      have HB1 := hB.out.trans (hB1.mono hB.out.size)
      have H1 := Lib.hid (cellsB_one _ hRow.row.one.1 hRow.row.one.2)
      generalize withV D v1 v2 = mm at *
      unfold msgV
      obtain ⟨W2, hW2, HB2⟩ : ∃ W2, W1.alloc (.cells (cellsB mm) 30) = W2 ∧ Below w.heap.size w W2 := ⟨_, rfl, HB1.alloc HB1.size _⟩
      replace hW2 := Lib.hid hW2
      replace HB2 := Lib.hid HB2
      clear hB1 HB1 hGt hRow
      go_wp2_with (first | (simp only [hzm.out]) | (refine wpList_store_row rfl 30 _ _ rfl W1.heap.size (cellsB mm) rfl rfl 30 (cellsB noM) (heap_alloc_new W1 _) (by kernel_rfl) rfl H1.out ?_; rw [World.setRow_alloc_new, hW2.out]))
      go_ret3
      exact ⟨_, [], by rw [hres.out]; rfl, MSRow.nil_ _, by rw [hres.out]; rfl, HB2.out⟩

set_option maxRecDepth 100000 in
set_option maxHeartbeats 12800000 in
theorem Split_mid (l : List UInt8) (ms : Int) (hl : (mk l).size ≤ 1000000) (h0 : ms ≠ 0) (h8 : ms ≤ 8192) (w : World) (g : G w) :
    Calls Tryz.prog 15 #[.string (mk l), .int .i64 ms] w fun e w' => SplPost l ms w e w' := by
  have HL := Lib.hid (mk_size l)
  have hlim : Hid (limR ms = ms) := Lib.hid (by unfold limR; rw [if_neg (by omega)])
  have hb0 : (ms == 0) = false := by simpa using h0
  have hb8 : decide ((8192 : Int) < ms) = false := by simpa using h8
  have hini : Hid (splW l ms = splR l ms ((mk l).size + 1) [] 0) := Lib.hid (by rw [mk_size]; unfold splW; rw [hlim.out])
  obtain ⟨i0, hi, hz0, hz1, hz2⟩ := info_parts info_msgZ
  have hzm := zero_msgW
  have HO4 := Lib.hid (fun (a : Nat) W => oGet l (a : Int) 4 (by rw [← HL.out]; unfold maxLen; omega) W)
  have HG := Lib.hid (fun (a : Nat) W (h : Below w.heap.size w W) => Get_msg l (a : Int) (by rw [← HL.out]; exact hl) W (g.below h))
  have HC := Lib.hid (fun (a : Nat) W => oClone (l.drop a) W (by rw [mk_size, List.length_drop, ← HL.out]; omega))
  have HT := Lib.hid (fun a ha => mk_tail l a ha)
  clear g
  go_enter Tryz.func15, Tryz.ntmps15
  go_wp2
  go_loopw [8, 9] (fun vx va wr => ∃ (vv : Value) (L : List MM) (acc : List MM) (a n : Nat), vv = vx ∧ va = .int .i64 (a : Int) ∧ a ≤ (mk l).size ∧ (mk l).size < a + n ∧ L.length ≤ a ∧ Hid (splW l ms = splR l ms n acc a) ∧ Hid (MSOwn w.heap.size wr vv L) ∧ Hid (L.map strip = acc) ∧ Hid (Below w.heap.size w wr)) (fun _ va _ => (mk l).size - (intOf va).toNat)
  case atStart => exact ⟨_, [], [], 0, (mk l).size + 1, rfl, rfl, by omega, by omega, by simp, hini, MSOwn.nil_ _ _, rfl, Below.refl _ _⟩
  case round =>
    obtain ⟨vv, L, acc, a, n, rfl, rfl, ha, hn, hal, hr, hO, hLa, hB⟩ := hrel
    by_cases hlt : (mk l).size < a + 4
    · have hd : decide ((4 : Int) ≤ ((mk l).size : Int) - (a : Int)) = false := by simp; omega
      have hres := Lib.hid (hr.out.trans (splR_end (by rw [← HL.out]; exact hlt)))
      have hcl := HC.out a wr
      have e6 := HT.out a (by rw [← HL.out]; exact ha)
      have e7 : (a : Int) ≤ ((mk l).size : Int) := by omega
      clear hr
      go_wp2_with fail
      refine hcl.mono ?_
      rintro e w2 ⟨rfl, hB2⟩
      have HB2 := Lib.hid (hB.out.trans (hB2.mono hB.out.size))
      have HO2 := Lib.hid (hO.out.below hB2)
      clear hB2
      go_wp2
      go_ret3
      exact ⟨_, L, by rw [hres.out]; rfl, HO2.out.row, by rw [hres.out]; exact hLa.out, HB2.out⟩
    obtain ⟨q, hq, hq2⟩ := getR4 (l := l) (a := a) (by rw [← HL.out]; omega)
    have hd4 : decide ((4 : Int) ≤ ((mk l).size : Int) - (a : Int)) = true := by simp; omega
    have e7 : (a : Int) ≤ ((mk l).size : Int) := by omega
    have hOG := HO4.out a wr
    rw [hq] at hOG
    dsimp only at hOG
    have s1 := fun (h1 : ms < (q : Int) ∨ (q : Int) < 7) => hr.out.trans (splR_bad (l := l) (lim := ms) (n := n) (a := a) (acc := acc) (by omega) (by rw [← HL.out]; exact hlt) (by rw [hq]; exact h1))
    by_cases h1 : ms < (q : Int)
    · have hd5 : decide (ms < (q : Int)) = true := by simpa using h1
      have hres := Lib.hid (s1 (.inl h1))
      clear hr s1 hq
      go_wp2_with fail
      refine hOG.mono ?_
      rintro e w2 ⟨rfl, rfl⟩
      go_wp2
      go_ret3
      exact ⟨_, [], by rw [hres.out]; rfl, MSRow.nil_ _, by rw [hres.out]; rfl, hB.out⟩
    have hd5 : decide (ms < (q : Int)) = false := by simpa using h1
    by_cases h2 : (q : Int) < 7
    · have hd6 : decide ((q : Int) < 7) = true := by simpa using h2
      have hres := Lib.hid (s1 (.inr h2))
      clear hr s1 hq
      go_wp2_with fail
      refine hOG.mono ?_
      rintro e w2 ⟨rfl, rfl⟩
      go_wp2
      go_ret3
      exact ⟨_, [], by rw [hres.out]; rfl, MSRow.nil_ _, by rw [hres.out]; rfl, hB.out⟩
    have hd6 : decide ((q : Int) < 7) = false := by simpa using h2
    have h12 : ¬ (ms < (getR l (a : Int) 4).1 ∨ (getR l (a : Int) 4).1 < 7) := by rw [hq]; rintro (h | h) <;> contradiction
    by_cases h3 : ((mk l).size : Int) - (a : Int) < (q : Int)
    · have hd7 : decide (((mk l).size : Int) - (a : Int) < (q : Int)) = true := by simpa using h3
      have hres := Lib.hid (hr.out.trans (splR_part (l := l) (lim := ms) (n := n) (a := a) (acc := acc) (by omega) (by rw [← HL.out]; exact hlt) h12 (by rw [hq, ← HL.out]; exact h3)))
      have hcl := HC.out a wr
      have e6 := HT.out a (by rw [← HL.out]; exact ha)
      clear hr s1 hq h12
      go_wp2_with fail
      refine hOG.mono ?_
      rintro e w2 ⟨rfl, rfl⟩
      go_wp2_with fail
      refine hcl.mono ?_
      rintro e w2 ⟨rfl, hB2⟩
      have HB2 := Lib.hid (hB.out.trans (hB2.mono hB.out.size))
      have HO2 := Lib.hid (hO.out.below hB2)
      clear hB2
      go_wp2
      go_ret3
      exact ⟨_, L, by rw [hres.out]; rfl, HO2.out.row, by rw [hres.out]; exact hLa.out, HB2.out⟩
    have hd7 : decide (((mk l).size : Int) - (a : Int) < (q : Int)) = false := by simpa using h3
    have h3' : ¬ (l.length : Int) - (a : Int) < (getR l (a : Int) 4).1 := by rw [hq, ← HL.out]; exact h3
    have hGt := HG.out a wr hB.out
    have he1 := fun m x e h h' => hr.out.trans (splR_err (l := l) (lim := ms) (acc := acc) (n := n) (a := a) (by omega) (by rw [← HL.out]; exact hlt) h12 h3' (m := m) (x := x) (e := e) h h')
    have he2 := fun m x h => hr.out.trans (splR_step (l := l) (lim := ms) (acc := acc) (n := n) (a := a) (by omega) (by rw [← HL.out]; exact hlt) h12 h3' (m := m) (x := x) h)
    have he3 := fun m x h => getW_next (l := l) (a := a) (m := m) (x := x) h
    have hnv := getW_nv l (a : Int)
    clear s1 hq hr h12 h3'
    generalize hgs : getW l (a : Int) = res at *
    obtain ⟨D, nx, er⟩ := res
    dsimp only at hGt hnv
    by_cases h0e : er = 0
    · subst h0e
      have hst := he2 D nx rfl
      obtain ⟨c, rfl, hc1, hc2⟩ := he3 D nx rfl
      rw [← HL.out] at hc2
      rw [Int.toNat_natCast] at hst
      replace hst := Lib.hid hst
      clear he1 he2 he3 hgs
      replace hGt := Lib.hid hGt
      go_wp2_with fail
      refine hOG.mono ?_
      rintro e w2 ⟨rfl, rfl⟩
      go_wp2_with fail
      refine hGt.out.mono ?_
      rintro e W1 ⟨v1, v2, rfl, hRow, hB1⟩
      have hsp := Lib.hid (strip_with hnv v1 v2)
      have HB1 := hB.out.trans (hB1.mono hB.out.size)
      have HO1 := hO.out.below hB1
      have HR1 := hRow.toB (o := vv.ownBlock) (fun k hk => Nat.lt_succ_of_lt (hO.out.lt k hk))
      have H1 := Lib.hid (cellsB_one _ hRow.row.one.1 hRow.row.one.2)
      generalize withV D v1 v2 = mm at *
      unfold msgV
      obtain ⟨W2, hW2, HB2, HO2, HR2, HX2⟩ : ∃ W2, W1.alloc (.cells (cellsB mm) 30) = W2 ∧ Below w.heap.size w W2 ∧ MSOwn w.heap.size W2 vv L ∧ RowB vv.ownBlock W2 mm ∧ BlkM W2 W1.heap.size mm := ⟨_, rfl, HB1.alloc HB1.size _, HO1.below ((Below.refl _ W1).alloc (Nat.le_refl _) _), HR1.below ((Below.refl _ W1).alloc (Nat.le_refl _) _), BlkM.new W1 mm⟩
      obtain ⟨W3, hW3, HB3, HO3, HR3, HX3⟩ : ∃ W3, W2.alloc (.cells (cellsB mm) 30) = W3 ∧ Below w.heap.size w W3 ∧ MSOwn w.heap.size W3 vv L ∧ RowB vv.ownBlock W3 mm ∧ BlkM W3 W2.heap.size mm := ⟨_, rfl, HB2.alloc HB2.size _, HO2.below ((Below.refl _ W2).alloc (Nat.le_refl _) _), HR2.below ((Below.refl _ W2).alloc (Nat.le_refl _) _), BlkM.new W2 mm⟩
      replace hW2 := Lib.hid hW2
      replace hW3 := Lib.hid hW3
      replace HB2 := Lib.hid HB2
      replace HB3 := Lib.hid HB3
      replace HO2 := Lib.hid HO2
      replace HO3 := Lib.hid HO3
      replace HR2 := Lib.hid HR2
      replace HR3 := Lib.hid HR3
      replace HX2 := Lib.hid HX2
      replace HX3 := Lib.hid HX3
      replace hnv := Lib.hid hnv
      clear hB1 HB1 HO1 HR1 hRow hGt
      go_wp2_with (first
        | (simp only [hzm.out])
        | (refine wpList_store_row rfl 30 _ _ rfl W1.heap.size (cellsB mm) rfl rfl 30 (cellsB noM) (heap_alloc_new W1 _) (by kernel_rfl) rfl H1.out ?_; rw [World.setRow_alloc_new, hW2.out])
        | (refine wpList_load_row rfl 30 _ rfl W1.heap.size rfl 30 (cellsB mm) (0, 0) _ HX2.out Tryz.underlying30 rfl (by kernel_rfl) ?_)
        | (refine wpList_build_oneM rfl (.tmp 59) rfl mm rfl ?_; rw [hW3.out])
        | (at_builtin; refine wpList_append_own_at _ rfl (.tmp 58) (.tmp 60) 40 rfl w.heap.size 30 i0 (.agg (cellsB noM)) 39 424 Tryz.underlying40 hi hz0 hz1 hz2 rfl (by decide) _ _ _ rfl HO3.out.1 ⟨W2.heap.size, 0, none⟩ 1 1 (cellsM mm) rfl rfl (cells_msgAt HX3.out) (cellsM_one mm H1.out) (by unfold maxLen; omega) (by omega) HB3.out.size ?_; intro v' w4 hown' hgrow _ hob))
      have HO4' : Hid (MSOwn w.heap.size w4 v' (L ++ [mm])) := HO3.out.more HR3.out hgrow hob hown'
      have HB4 := Lib.hid (HB3.out.trans (below_grown HB3.out.size HO3.out.1 hgrow))
      clear hown' hgrow hob
      go_wp2
      exact ⟨⟨_, L ++ [mm], acc ++ [D], c, n - 1, rfl, rfl, by omega, by omega, by simp; omega, hst, HO4', Lib.hid (by rw [List.map_append, hLa.out]; simp only [List.map_cons, List.map_nil, hsp.out]), HB4⟩, by simp [intOf]; omega⟩
    · have hres := Lib.hid (he1 D nx er rfl h0e)
      have hne : (er != 0) = true := by simpa using h0e
      clear he1 he2 he3 hgs h0e
      replace hGt := Lib.hid hGt
      replace hnv := Lib.hid hnv
      go_wp2_with fail
      refine hOG.mono ?_
      rintro e w2 ⟨rfl, rfl⟩
      go_wp2_with fail
      refine hGt.out.mono ?_
      rintro e W1 ⟨v1, v2, rfl, hRow, hB1⟩
      have HB1 := hB.out.trans (hB1.mono hB.out.size)
      have H1 := Lib.hid (cellsB_one _ hRow.row.one.1 hRow.row.one.2)
      generalize withV D v1 v2 = mm at *
      unfold msgV
      obtain ⟨W2, hW2, HB2⟩ : ∃ W2, W1.alloc (.cells (cellsB mm) 30) = W2 ∧ Below w.heap.size w W2 := ⟨_, rfl, HB1.alloc HB1.size _⟩
      replace hW2 := Lib.hid hW2
      replace HB2 := Lib.hid HB2
      clear hB1 HB1 hGt hRow
      go_wp2_with (first | (simp only [hzm.out]) | (refine wpList_store_row rfl 30 _ _ rfl W1.heap.size (cellsB mm) rfl rfl 30 (cellsB noM) (heap_alloc_new W1 _) (by kernel_rfl) rfl H1.out ?_; rw [World.setRow_alloc_new, hW2.out]))
      go_ret3
      exact ⟨_, [], by rw [hres.out]; rfl, MSRow.nil_ _, by rw [hres.out]; rfl, HB2.out⟩

theorem Split_any (l : List UInt8) (ms : Int) (hl : (mk l).size ≤ 1000000) (w : World) (g : G w) :
    Calls Tryz.prog 15 #[.string (mk l), .int .i64 ms] w fun e w' => SplPost l ms w e w' := by
  by_cases h0 : ms = 0
  · exact Split_zero l ms hl h0 w g
  · by_cases h8 : 8192 < ms
    · exact Split_big l ms hl h0 h8 w g
    · exact Split_mid l ms hl h0 (by omega) w g
end Go.Proofs.YtlfdmbfbfadifaaGreatDoor
