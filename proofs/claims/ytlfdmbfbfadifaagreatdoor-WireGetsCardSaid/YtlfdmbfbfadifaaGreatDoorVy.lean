/-
  The reference's Split.
  Walks: WireGets, WireSplits.
-/
import Derived.Test.YtlfdmbfbfadifaaGreatDoorVv
import Derived.Test.YtlfdmbfbfadifaaGreatDoorZr
import Derived.Test.YtlfdmbfbfadifaaGreatDoorVf
namespace Go.Proofs.YtlfdmbfbfadifaaGreatDoor
open Go.RowKit

theorem sizeR_drop {l : List UInt8} {a : Nat} (ha : a ≤ l.length) : sizeR (l.drop a) 0 = sizeR l (a : Int) := by
  obtain ⟨d1, d2, _⟩ := getR_drop l ha 4 ⟨by omega, by omega⟩
  have d1 : (getR l (a : Int) 4).1 = (getR (l.drop a) 0 4).1 := d1
  have d2 : (getR l (a : Int) 4).2.2 = (getR (l.drop a) 0 4).2.2 := d2
  unfold sizeR
  rw [← d1, ← d2, List.length_drop, show ((l.length - a : Nat) : Int) - 0 = (l.length : Int) - (a : Int) by omega]
theorem getW_drop {l : List UInt8} {a : Nat} (ha : a ≤ l.length) : (getW (l.drop a) 0).1 = (getW l (a : Int)).1 ∧ (getW (l.drop a) 0).2.2 = (getW l (a : Int)).2.2 ∧ ((getW l (a : Int)).2.2 = 0 → (getW l (a : Int)).2.1 = (a : Int) + (getW (l.drop a) 0).2.1) := by
  have hc : cut (l.drop a) ((0 : Int).toNat + 4) ((sizeR l (a : Int)).1.toNat - 4) = cut l ((a : Int).toNat + 4) ((sizeR l (a : Int)).1.toNat - 4) := by
    rw [cut_drop, show a + ((0 : Int).toNat + 4) = (a : Int).toNat + 4 by simp]
  unfold getW
  rw [sizeR_drop ha, hc]
  split
  · rename_i h; exact ⟨rfl, rfl, fun h' => absurd h' h⟩
  · split
    · rename_i h; exact ⟨rfl, rfl, fun h' => absurd h' h⟩
    · exact ⟨rfl, rfl, fun _ => by show (a : Int) + _ = (a : Int) + (0 + _); omega⟩
def sizeS : Value → Nat
  | .string s => s.size
  | _ => 0

set_option maxRecDepth 100000 in
set_option maxHeartbeats 12800000 in
theorem RSplit_zero (l : List UInt8) (ms : Int) (hl : (mk l).size ≤ 1000000) (h0 : ms = 0) (w : World) :
    Calls Tryz.prog 16 #[.string (mk l), .int .i64 ms] w fun e w' => SplPost l ms w e w' := by
  have HL := Lib.hid (mk_size l)
  subst h0
  have hlim : Hid (limR 0 = 8192) := Lib.hid rfl
  have hini : Hid (splW l 0 = splR l 8192 ((mk l).size + 1) [] 0) := Lib.hid (by rw [mk_size]; unfold splW; rw [hlim.out])
  obtain ⟨i0, hi, hz0, hz1, hz2⟩ := info_parts info_msgZ
  have hzm := zero_msgW
  have HO4 := Lib.hid (fun (a : Nat) W => qGet (l.drop a) 0 4 (by rw [List.length_drop, ← HL.out]; unfold maxLen; omega) W)
  have HG := Lib.hid (fun (a : Nat) W (_ : Below w.heap.size w W) => RGet_msg (l.drop a) 0 (by rw [List.length_drop, ← HL.out]; omega) W)
  have HT : Hid (∀ a k, a + k ≤ l.length → (mk (l.drop a)).extract k (mk (l.drop a)).size = mk (l.drop (a + k))) := Lib.hid (fun a k h => by rw [mk_tail _ _ (by rw [List.length_drop]; omega), List.drop_drop])
  go_enter Tryz.func16, Tryz.ntmps16
  go_wp2
  go_loopw [8, 9] (fun vx va wr => ∃ (vv : Value) (L : List MM) (acc : List MM) (a n : Nat), vv = vx ∧ va = .string (mk (l.drop a)) ∧ a ≤ (mk l).size ∧ (mk l).size < a + n ∧ L.length ≤ a ∧ Hid (splW l 0 = splR l 8192 n acc a) ∧ Hid (MSOwn w.heap.size wr vv L) ∧ Hid (L.map strip = acc) ∧ Hid (Below w.heap.size w wr)) (fun _ va _ => sizeS va)
  case atStart => exact ⟨_, [], [], 0, (mk l).size + 1, rfl, rfl, by omega, by omega, by simp, hini, MSOwn.nil_ _ _, rfl, Below.refl _ _⟩
  case round =>
    obtain ⟨vv, L, acc, a, n, rfl, rfl, ha, hn, hal, hr, hO, hLa, hB⟩ := hrel
    have hrz : Hid ((mk (l.drop a)).size = (mk l).size - a) := Lib.hid (by rw [mk_size, List.length_drop, HL.out])
    by_cases hlt : (mk l).size < a + 4
    · have hd : decide ((4 : Int) ≤ ((mk (l.drop a)).size : Int)) = false := by rw [hrz.out]; simp; omega
      have hres := Lib.hid (hr.out.trans (splR_end (by rw [← HL.out]; exact hlt)))
      clear hr
      go_wp2
      go_ret3
      exact ⟨_, L, by rw [hres.out]; rfl, hO.out.row, by rw [hres.out]; exact hLa.out, hB.out⟩
    have hra := Lib.hid (getR_drop l (a := a) (by rw [← HL.out]; exact ha) 4 ⟨by omega, by omega⟩)
    obtain ⟨q, hq, hq2⟩ := getR4 (l := l) (a := a) (by rw [← HL.out]; omega)
    obtain ⟨q', hq', -⟩ := getR4 (l := l.drop a) (a := 0) (by rw [List.length_drop, ← HL.out]; omega)
    have hqq : (q : Int) = (q' : Int) := by
      have := hra.out.1
      have e1 : (getR l (a : Int) ((4 : Nat) : Int)).1 = (q : Int) := congrArg (·.1) hq
      have e2 : (getR (l.drop a) 0 ((4 : Nat) : Int)).1 = (q' : Int) := congrArg (·.1) hq'
      rw [e1, e2] at this; exact this
    obtain rfl : q = q' := by omega
    have hd4 : decide ((4 : Int) ≤ ((mk (l.drop a)).size : Int)) = true := by rw [hrz.out]; simp; omega
    have hOG := HO4.out a wr
    rw [show getR (l.drop a) 0 4 = ((q : Int), 4, 0) from hq'] at hOG
    dsimp only at hOG
    have s1 := fun (h1 : 8192 < (q : Int) ∨ (q : Int) < 7) => hr.out.trans (splR_bad (l := l) (lim := 8192) (n := n) (a := a) (acc := acc) (by omega) (by rw [← HL.out]; exact hlt) (by rw [hq]; exact h1))
    by_cases h1 : 8192 < (q : Int)
    · have hd5 : decide (8192 < (q : Int)) = true := by simpa using h1
      have hres := Lib.hid (s1 (.inl h1))
      clear hr s1 hq hq' hra
      go_wp2_with fail
      refine hOG.mono ?_
      rintro e w2 ⟨rfl, rfl⟩
      go_wp2
      go_ret3
      exact ⟨_, [], by rw [hres.out]; rfl, MSRow.nil_ _, by rw [hres.out]; rfl, hB.out⟩
    have hd5 : decide (8192 < (q : Int)) = false := by simpa using h1
    by_cases h2 : (q : Int) < 7
    · have hd6 : decide ((q : Int) < 7) = true := by simpa using h2
      have hres := Lib.hid (s1 (.inr h2))
      clear hr s1 hq hq' hra
      go_wp2_with fail
      refine hOG.mono ?_
      rintro e w2 ⟨rfl, rfl⟩
      go_wp2
      go_ret3
      exact ⟨_, [], by rw [hres.out]; rfl, MSRow.nil_ _, by rw [hres.out]; rfl, hB.out⟩
    have hd6 : decide ((q : Int) < 7) = false := by simpa using h2
    have h12 : ¬ (8192 < (getR l (a : Int) 4).1 ∨ (getR l (a : Int) 4).1 < 7) := by rw [hq]; rintro (h | h) <;> contradiction
    by_cases h3 : ((mk l).size : Int) - (a : Int) < (q : Int)
    · have hd7 : decide ((mk (l.drop a)).size < q) = true := by rw [hrz.out]; simp; omega
      have hres := Lib.hid (hr.out.trans (splR_part (l := l) (lim := 8192) (n := n) (a := a) (acc := acc) (by omega) (by rw [← HL.out]; exact hlt) h12 (by rw [hq, ← HL.out]; exact h3)))
      clear hr s1 hq hq' h12 hra
      go_wp2_with fail
      refine hOG.mono ?_
      rintro e w2 ⟨rfl, rfl⟩
      go_wp2
      go_ret3
      exact ⟨_, L, by rw [hres.out]; rfl, hO.out.row, by rw [hres.out]; exact hLa.out, hB.out⟩
    have hd7 : decide ((mk (l.drop a)).size < q) = false := by rw [hrz.out]; simp; omega
    have h3' : ¬ (l.length : Int) - (a : Int) < (getR l (a : Int) 4).1 := by rw [hq, ← HL.out]; exact h3
    have hGt := HG.out a wr hB.out
    have he1 := fun m x e h h' => hr.out.trans (splR_err (l := l) (lim := 8192) (acc := acc) (n := n) (a := a) (by omega) (by rw [← HL.out]; exact hlt) h12 h3' (m := m) (x := x) (e := e) h h')
    have he2 := fun m x h => hr.out.trans (splR_step (l := l) (lim := 8192) (acc := acc) (n := n) (a := a) (by omega) (by rw [← HL.out]; exact hlt) h12 h3' (m := m) (x := x) h)
    have he3 := fun m x h => getW_next (l := l) (a := a) (m := m) (x := x) h
    have hnv := getW_nv l (a : Int)
    obtain ⟨g1, g2, g3⟩ := getW_drop (l := l) (a := a) (by rw [← HL.out]; exact ha)
    clear s1 hq hq' hr h12 h3' hra
    rcases hgr : getW (l.drop a) 0 with ⟨D, nx, er⟩
    rcases hgs : getW l (a : Int) with ⟨D', x, er'⟩
    rw [hgr] at hGt g1 g2 g3
    rw [hgs] at he1 he2 he3 hnv g1 g2 g3
    dsimp only at hGt hnv g1 g2 g3
    subst g1 g2
    clear hgr hgs
    by_cases h0e : er = 0
    · subst h0e
      have g4 := g3 rfl
      have hst := he2 D x rfl
      obtain ⟨c, hcx, hc1, hc2⟩ := he3 D x rfl
      rw [← HL.out] at hc2
      obtain ⟨k, rfl⟩ : ∃ k, c = a + k := ⟨c - a, by omega⟩
      obtain rfl : nx = (k : Int) := by omega
      rw [hcx, Int.toNat_natCast] at hst
      replace hst := Lib.hid hst
      have hT' := HT.out a k (by rw [← HL.out]; exact hc2)
      have hk1 : k ≤ (mk (l.drop a)).size := by rw [hrz.out]; omega
      have hnz : (mk (l.drop (a + k))).size = (mk l).size - (a + k) := by rw [mk_size, List.length_drop, HL.out]
      have hmeas : Hid ((mk (l.drop (a + k))).size < (mk (l.drop a)).size) := Lib.hid (by rw [hnz, hrz.out]; omega)
      clear he1 he2 he3 g3 g4 hcx hnz
      replace hGt := Lib.hid hGt
      go_wp2_with fail
      refine hOG.mono ?_
      rintro e w2 ⟨rfl, rfl⟩
      go_wp2_with fail
      refine hGt.out.mono ?_
      rintro e W1 ⟨v1, v2, rfl, hRow, hB1⟩
      have hsp := Lib.hid (strip_with hnv v1 v2)
      have HB1 := hB.out.trans (hB1.mono hB.out.size)
      have HO1 := hO.out.below hB1
      have HR1 := hRow.toB (o := vv.ownBlock) (fun k hk => Nat.lt_succ_of_lt (hO.out.lt k hk))
      have H1 := Lib.hid (cellsB_one _ hRow.row.one.1 hRow.row.one.2)
      generalize withV D v1 v2 = mm at *
      unfold msgV
      obtain ⟨W2, hW2, HB2, HO2, HR2, HX2⟩ : ∃ W2, W1.alloc (.cells (cellsB mm) 30) = W2 ∧ Below w.heap.size w W2 ∧ MSOwn w.heap.size W2 vv L ∧ RowB vv.ownBlock W2 mm ∧ BlkM W2 W1.heap.size mm := ⟨_, rfl, HB1.alloc HB1.size _, HO1.below ((Below.refl _ W1).alloc (Nat.le_refl _) _), HR1.below ((Below.refl _ W1).alloc (Nat.le_refl _) _), BlkM.new W1 mm⟩
      obtain ⟨W3, hW3, HB3, HO3, HR3, HX3⟩ : ∃ W3, W2.alloc (.cells (cellsB mm) 30) = W3 ∧ Below w.heap.size w W3 ∧ MSOwn w.heap.size W3 vv L ∧ RowB vv.ownBlock W3 mm ∧ BlkM W3 W2.heap.size mm := ⟨_, rfl, HB2.alloc HB2.size _, HO2.below ((Below.refl _ W2).alloc (Nat.le_refl _) _), HR2.below ((Below.refl _ W2).alloc (Nat.le_refl _) _), BlkM.new W2 mm⟩
      replace hW2 := Lib.hid hW2
      replace hW3 := Lib.hid hW3
      replace HB2 := Lib.hid HB2
      replace HB3 := Lib.hid HB3
      replace HO2 := Lib.hid HO2
      replace HO3 := Lib.hid HO3
      replace HR2 := Lib.hid HR2
      replace HR3 := Lib.hid HR3
      replace HX2 := Lib.hid HX2
      replace HX3 := Lib.hid HX3
      replace hnv := Lib.hid hnv
      clear hB1 HB1 HO1 HR1 hRow hGt
      go_wp2_with (first
        | (simp only [hzm.out])
        | (refine wpList_store_row rfl 30 _ _ rfl W1.heap.size (cellsB mm) rfl rfl 30 (cellsB noM) (heap_alloc_new W1 _) (by kernel_rfl) rfl H1.out ?_; rw [World.setRow_alloc_new, hW2.out])
        | (refine wpList_load_row rfl 30 _ rfl W1.heap.size rfl 30 (cellsB mm) (0, 0) _ HX2.out Tryz.underlying30 rfl (by kernel_rfl) ?_)
        | (refine wpList_build_oneM rfl (.tmp 54) rfl mm rfl ?_; rw [hW3.out])
        | (at_builtin; refine wpList_append_own_at _ rfl (.tmp 53) (.tmp 55) 40 rfl w.heap.size 30 i0 (.agg (cellsB noM)) 39 424 Tryz.underlying40 hi hz0 hz1 hz2 rfl (by decide) _ _ _ rfl HO3.out.1 ⟨W2.heap.size, 0, none⟩ 1 1 (cellsM mm) rfl rfl (cells_msgAt HX3.out) (cellsM_one mm H1.out) (by unfold maxLen; omega) (by omega) HB3.out.size ?_; intro v' w4 hown' hgrow _ hob))
      have HO4' : Hid (MSOwn w.heap.size w4 v' (L ++ [mm])) := HO3.out.more HR3.out hgrow hob hown'
      have HB4 := Lib.hid (HB3.out.trans (below_grown HB3.out.size HO3.out.1 hgrow))
      clear hown' hgrow hob
      go_wp2
      exact ⟨⟨_, L ++ [mm], acc ++ [D], a + k, n - 1, rfl, rfl, by omega, by omega, by simp; omega, hst, HO4', Lib.hid (by rw [List.map_append, hLa.out]; simp only [List.map_cons, List.map_nil, hsp.out]), HB4⟩, by simpa [sizeS] using hmeas.out⟩
    · have hres := Lib.hid (he1 D x er rfl h0e)
      have hne : (er != 0) = true := by simpa using h0e
      clear he1 he2 he3 h0e g3
      replace hGt := Lib.hid hGt
      replace hnv := Lib.hid hnv
      go_wp2_with fail
      refine hOG.mono ?_
      rintro e w2 ⟨rfl, rfl⟩
      go_wp2_with fail
      refine hGt.out.mono ?_
      rintro e W1 ⟨v1, v2, rfl, hRow, hB1⟩
      have HB1 := hB.out.trans (hB1.mono hB.out.size)
      have H1 := Lib.hid (cellsB_one _ hRow.row.one.1 hRow.row.one.2)
      generalize withV D v1 v2 = mm at *
      unfold msgV
      obtain ⟨W2, hW2, HB2⟩ : ∃ W2, W1.alloc (.cells (cellsB mm) 30) = W2 ∧ Below w.heap.size w W2 := ⟨_, rfl, HB1.alloc HB1.size _⟩
      replace hW2 := Lib.hid hW2
      replace HB2 := Lib.hid HB2
      clear hB1 HB1 hGt hRow
      go_wp2_with (first | (simp only [hzm.out]) | (refine wpList_store_row rfl 30 _ _ rfl W1.heap.size (cellsB mm) rfl rfl 30 (cellsB noM) (heap_alloc_new W1 _) (by kernel_rfl) rfl H1.out ?_; rw [World.setRow_alloc_new, hW2.out]))
      go_ret3
      exact ⟨_, [], by rw [hres.out]; rfl, MSRow.nil_ _, by rw [hres.out]; rfl, HB2.out⟩

set_option maxRecDepth 100000 in
set_option maxHeartbeats 12800000 in
theorem RSplit_big (l : List UInt8) (ms : Int) (hl : (mk l).size ≤ 1000000) (h0 : ms ≠ 0) (h8 : 8192 < ms) (w : World) :
    Calls Tryz.prog 16 #[.string (mk l), .int .i64 ms] w fun e w' => SplPost l ms w e w' := by
  have HL := Lib.hid (mk_size l)
  have hlim : Hid (limR ms = 8192) := Lib.hid (by unfold limR; rw [if_pos (.inr h8)])
  have hb0 : (ms == 0) = false := by simpa using h0
  have hb8 : decide ((8192 : Int) < ms) = true := by simpa using h8
  have hini : Hid (splW l ms = splR l 8192 ((mk l).size + 1) [] 0) := Lib.hid (by rw [mk_size]; unfold splW; rw [hlim.out])
  obtain ⟨i0, hi, hz0, hz1, hz2⟩ := info_parts info_msgZ
  have hzm := zero_msgW
  have HO4 := Lib.hid (fun (a : Nat) W => qGet (l.drop a) 0 4 (by rw [List.length_drop, ← HL.out]; unfold maxLen; omega) W)
  have HG := Lib.hid (fun (a : Nat) W (_ : Below w.heap.size w W) => RGet_msg (l.drop a) 0 (by rw [List.length_drop, ← HL.out]; omega) W)
  have HT : Hid (∀ a k, a + k ≤ l.length → (mk (l.drop a)).extract k (mk (l.drop a)).size = mk (l.drop (a + k))) := Lib.hid (fun a k h => by rw [mk_tail _ _ (by rw [List.length_drop]; omega), List.drop_drop])
  go_enter Tryz.func16, Tryz.ntmps16
  go_wp2
  go_loopw [8, 9] (fun vx va wr => ∃ (vv : Value) (L : List MM) (acc : List MM) (a n : Nat), vv = vx ∧ va = .string (mk (l.drop a)) ∧ a ≤ (mk l).size ∧ (mk l).size < a + n ∧ L.length ≤ a ∧ Hid (splW l ms = splR l 8192 n acc a) ∧ Hid (MSOwn w.heap.size wr vv L) ∧ Hid (L.map strip = acc) ∧ Hid (Below w.heap.size w wr)) (fun _ va _ => sizeS va)
  case atStart => exact ⟨_, [], [], 0, (mk l).size + 1, rfl, rfl, by omega, by omega, by simp, hini, MSOwn.nil_ _ _, rfl, Below.refl _ _⟩
  case round =>
    obtain ⟨vv, L, acc, a, n, rfl, rfl, ha, hn, hal, hr, hO, hLa, hB⟩ := hrel
    have hrz : Hid ((mk (l.drop a)).size = (mk l).size - a) := Lib.hid (by rw [mk_size, List.length_drop, HL.out])
    by_cases hlt : (mk l).size < a + 4
    · have hd : decide ((4 : Int) ≤ ((mk (l.drop a)).size : Int)) = false := by rw [hrz.out]; simp; omega
      have hres := Lib.hid (hr.out.trans (splR_end (by rw [← HL.out]; exact hlt)))
      clear hr
      go_wp2
      go_ret3
      exact ⟨_, L, by rw [hres.out]; rfl, hO.out.row, by rw [hres.out]; exact hLa.out, hB.out⟩
    have hra := Lib.hid (getR_drop l (a := a) (by rw [← HL.out]; exact ha) 4 ⟨by omega, by omega⟩)
    obtain ⟨q, hq, hq2⟩ := getR4 (l := l) (a := a) (by rw [← HL.out]; omega)
    obtain ⟨q', hq', -⟩ := getR4 (l := l.drop a) (a := 0) (by rw [List.length_drop, ← HL.out]; omega)
    have hqq : (q : Int) = (q' : Int) := by
      have := hra.out.1
      have e1 : (getR l (a : Int) ((4 : Nat) : Int)).1 = (q : Int) := congrArg (·.1) hq
      have e2 : (getR (l.drop a) 0 ((4 : Nat) : Int)).1 = (q' : Int) := congrArg (·.1) hq'
      rw [e1, e2] at this; exact this
    obtain rfl : q = q' := by omega
    have hd4 : decide ((4 : Int) ≤ ((mk (l.drop a)).size : Int)) = true := by rw [hrz.out]; simp; omega
    have hOG := HO4.out a wr
    rw [show getR (l.drop a) 0 4 = ((q : Int), 4, 0) from hq'] at hOG
    dsimp only at hOG
    have s1 := fun (h1 : 8192 < (q : Int) ∨ (q : Int) < 7) => hr.out.trans (splR_bad (l := l) (lim := 8192) (n := n) (a := a) (acc := acc) (by omega) (by rw [← HL.out]; exact hlt) (by rw [hq]; exact h1))
    by_cases h1 : 8192 < (q : Int)
    · have hd5 : decide (8192 < (q : Int)) = true := by simpa using h1
      have hres := Lib.hid (s1 (.inl h1))
      clear hr s1 hq hq' hra
      go_wp2_with fail
      refine hOG.mono ?_
      rintro e w2 ⟨rfl, rfl⟩
      go_wp2
      go_ret3
      exact ⟨_, [], by rw [hres.out]; rfl, MSRow.nil_ _, by rw [hres.out]; rfl, hB.out⟩
    have hd5 : decide (8192 < (q : Int)) = false := by simpa using h1
    by_cases h2 : (q : Int) < 7
    · have hd6 : decide ((q : Int) < 7) = true := by simpa using h2
      have hres := Lib.hid (s1 (.inr h2))
      clear hr s1 hq hq' hra
      go_wp2_with fail
      refine hOG.mono ?_
      rintro e w2 ⟨rfl, rfl⟩
      go_wp2
      go_ret3
      exact ⟨_, [], by rw [hres.out]; rfl, MSRow.nil_ _, by rw [hres.out]; rfl, hB.out⟩
    have hd6 : decide ((q : Int) < 7) = false := by simpa using h2
    have h12 : ¬ (8192 < (getR l (a : Int) 4).1 ∨ (getR l (a : Int) 4).1 < 7) := by rw [hq]; rintro (h | h) <;> contradiction
    by_cases h3 : ((mk l).size : Int) - (a : Int) < (q : Int)
    · have hd7 : decide ((mk (l.drop a)).size < q) = true := by rw [hrz.out]; simp; omega
      have hres := Lib.hid (hr.out.trans (splR_part (l := l) (lim := 8192) (n := n) (a := a) (acc := acc) (by omega) (by rw [← HL.out]; exact hlt) h12 (by rw [hq, ← HL.out]; exact h3)))
      clear hr s1 hq hq' h12 hra
      go_wp2_with fail
      refine hOG.mono ?_
      rintro e w2 ⟨rfl, rfl⟩
      go_wp2
      go_ret3
      exact ⟨_, L, by rw [hres.out]; rfl, hO.out.row, by rw [hres.out]; exact hLa.out, hB.out⟩
    have hd7 : decide ((mk (l.drop a)).size < q) = false := by rw [hrz.out]; simp; omega
    have h3' : ¬ (l.length : Int) - (a : Int) < (getR l (a : Int) 4).1 := by rw [hq, ← HL.out]; exact h3
    have hGt := HG.out a wr hB.out
    have he1 := fun m x e h h' => hr.out.trans (splR_err (l := l) (lim := 8192) (acc := acc) (n := n) (a := a) (by omega) (by rw [← HL.out]; exact hlt) h12 h3' (m := m) (x := x) (e := e) h h')
    have he2 := fun m x h => hr.out.trans (splR_step (l := l) (lim := 8192) (acc := acc) (n := n) (a := a) (by omega) (by rw [← HL.out]; exact hlt) h12 h3' (m := m) (x := x) h)
    have he3 := fun m x h => getW_next (l := l) (a := a) (m := m) (x := x) h
    have hnv := getW_nv l (a : Int)
    obtain ⟨g1, g2, g3⟩ := getW_drop (l := l) (a := a) (by rw [← HL.out]; exact ha)
    clear s1 hq hq' hr h12 h3' hra
    rcases hgr : getW (l.drop a) 0 with ⟨D, nx, er⟩
    rcases hgs : getW l (a : Int) with ⟨D', x, er'⟩
    rw [hgr] at hGt g1 g2 g3
    rw [hgs] at he1 he2 he3 hnv g1 g2 g3
    dsimp only at hGt hnv g1 g2 g3
    subst g1 g2
    clear hgr hgs
    by_cases h0e : er = 0
    · subst h0e
      have g4 := g3 rfl
      have hst := he2 D x rfl
      obtain ⟨c, hcx, hc1, hc2⟩ := he3 D x rfl
      rw [← HL.out] at hc2
      obtain ⟨k, rfl⟩ : ∃ k, c = a + k := ⟨c - a, by omega⟩
      obtain rfl : nx = (k : Int) := by omega
      rw [hcx, Int.toNat_natCast] at hst
      replace hst := Lib.hid hst
      have hT' := HT.out a k (by rw [← HL.out]; exact hc2)
      have hk1 : k ≤ (mk (l.drop a)).size := by rw [hrz.out]; omega
      have hnz : (mk (l.drop (a + k))).size = (mk l).size - (a + k) := by rw [mk_size, List.length_drop, HL.out]
      have hmeas : Hid ((mk (l.drop (a + k))).size < (mk (l.drop a)).size) := Lib.hid (by rw [hnz, hrz.out]; omega)
      clear he1 he2 he3 g3 g4 hcx hnz
      replace hGt := Lib.hid hGt
      go_wp2_with fail
      refine hOG.mono ?_
      rintro e w2 ⟨rfl, rfl⟩
      go_wp2_with fail
      refine hGt.out.mono ?_
      rintro e W1 ⟨v1, v2, rfl, hRow, hB1⟩
      have hsp := Lib.hid (strip_with hnv v1 v2)
      have HB1 := hB.out.trans (hB1.mono hB.out.size)
      have HO1 := hO.out.below hB1
      have HR1 := hRow.toB (o := vv.ownBlock) (fun k hk => Nat.lt_succ_of_lt (hO.out.lt k hk))
      have H1 := Lib.hid (cellsB_one _ hRow.row.one.1 hRow.row.one.2)
      generalize withV D v1 v2 = mm at *
      unfold msgV
      obtain ⟨W2, hW2, HB2, HO2, HR2, HX2⟩ : ∃ W2, W1.alloc (.cells (cellsB mm) 30) = W2 ∧ Below w.heap.size w W2 ∧ MSOwn w.heap.size W2 vv L ∧ RowB vv.ownBlock W2 mm ∧ BlkM W2 W1.heap.size mm := ⟨_, rfl, HB1.alloc HB1.size _, HO1.below ((Below.refl _ W1).alloc (Nat.le_refl _) _), HR1.below ((Below.refl _ W1).alloc (Nat.le_refl _) _), BlkM.new W1 mm⟩
      obtain ⟨W3, hW3, HB3, HO3, HR3, HX3⟩ : ∃ W3, W2.alloc (.cells (cellsB mm) 30) = W3 ∧ Below w.heap.size w W3 ∧ MSOwn w.heap.size W3 vv L ∧ RowB vv.ownBlock W3 mm ∧ BlkM W3 W2.heap.size mm := ⟨_, rfl, HB2.alloc HB2.size _, HO2.below ((Below.refl _ W2).alloc (Nat.le_refl _) _), HR2.below ((Below.refl _ W2).alloc (Nat.le_refl _) _), BlkM.new W2 mm⟩
      replace hW2 := Lib.hid hW2
      replace hW3 := Lib.hid hW3
      replace HB2 := Lib.hid HB2
      replace HB3 := Lib.hid HB3
      replace HO2 := Lib.hid HO2
      replace HO3 := Lib.hid HO3
      replace HR2 := Lib.hid HR2
      replace HR3 := Lib.hid HR3
      replace HX2 := Lib.hid HX2
      replace HX3 := Lib.hid HX3
      replace hnv := Lib.hid hnv
      clear hB1 HB1 HO1 HR1 hRow hGt
      go_wp2_with (first
        | (simp only [hzm.out])
        | (refine wpList_store_row rfl 30 _ _ rfl W1.heap.size (cellsB mm) rfl rfl 30 (cellsB noM) (heap_alloc_new W1 _) (by kernel_rfl) rfl H1.out ?_; rw [World.setRow_alloc_new, hW2.out])
        | (refine wpList_load_row rfl 30 _ rfl W1.heap.size rfl 30 (cellsB mm) (0, 0) _ HX2.out Tryz.underlying30 rfl (by kernel_rfl) ?_)
        | (refine wpList_build_oneM rfl (.tmp 54) rfl mm rfl ?_; rw [hW3.out])
        | (at_builtin; refine wpList_append_own_at _ rfl (.tmp 53) (.tmp 55) 40 rfl w.heap.size 30 i0 (.agg (cellsB noM)) 39 424 Tryz.underlying40 hi hz0 hz1 hz2 rfl (by decide) _ _ _ rfl HO3.out.1 ⟨W2.heap.size, 0, none⟩ 1 1 (cellsM mm) rfl rfl (cells_msgAt HX3.out) (cellsM_one mm H1.out) (by unfold maxLen; omega) (by omega) HB3.out.size ?_; intro v' w4 hown' hgrow _ hob))
      have HO4' : Hid (MSOwn w.heap.size w4 v' (L ++ [mm])) := HO3.out.more HR3.out hgrow hob hown'
      have HB4 := Lib.hid (HB3.out.trans (below_grown HB3.out.size HO3.out.1 hgrow))
      clear hown' hgrow hob
      go_wp2
      exact ⟨⟨_, L ++ [mm], acc ++ [D], a + k, n - 1, rfl, rfl, by omega, by omega, by simp; omega, hst, HO4', Lib.hid (by rw [List.map_append, hLa.out]; simp only [List.map_cons, List.map_nil, hsp.out]), HB4⟩, by simpa [sizeS] using hmeas.out⟩
    · have hres := Lib.hid (he1 D x er rfl h0e)
      have hne : (er != 0) = true := by simpa using h0e
      clear he1 he2 he3 h0e g3
      replace hGt := Lib.hid hGt
      replace hnv := Lib.hid hnv
      go_wp2_with fail
      refine hOG.mono ?_
      rintro e w2 ⟨rfl, rfl⟩
      go_wp2_with fail
      refine hGt.out.mono ?_
      rintro e W1 ⟨v1, v2, rfl, hRow, hB1⟩
      have HB1 := hB.out.trans (hB1.mono hB.out.size)
      have H1 := Lib.hid (cellsB_one _ hRow.row.one.1 hRow.row.one.2)
      generalize withV D v1 v2 = mm at *
      unfold msgV
      obtain ⟨W2, hW2, HB2⟩ : ∃ W2, W1.alloc (.cells (cellsB mm) 30) = W2 ∧ Below w.heap.size w W2 := ⟨_, rfl, HB1.alloc HB1.size _⟩
      replace hW2 := Lib.hid hW2
      replace HB2 := Lib.hid HB2
      clear hB1 HB1 hGt hRow
      go_wp2_with (first | (simp only [hzm.out]) | (refine wpList_store_row rfl 30 _ _ rfl W1.heap.size (cellsB mm) rfl rfl 30 (cellsB noM) (heap_alloc_new W1 _) (by kernel_rfl) rfl H1.out ?_; rw [World.setRow_alloc_new, hW2.out]))
      go_ret3
      exact ⟨_, [], by rw [hres.out]; rfl, MSRow.nil_ _, by rw [hres.out]; rfl, HB2.out⟩

set_option maxRecDepth 100000 in
set_option maxHeartbeats 12800000 in
theorem RSplit_mid (l : List UInt8) (ms : Int) (hl : (mk l).size ≤ 1000000) (h0 : ms ≠ 0) (h8 : ms ≤ 8192) (w : World) :
    Calls Tryz.prog 16 #[.string (mk l), .int .i64 ms] w fun e w' => SplPost l ms w e w' := by
  have HL := Lib.hid (mk_size l)
  have hlim : Hid (limR ms = ms) := Lib.hid (by unfold limR; rw [if_neg (by omega)])
  have hb0 : (ms == 0) = false := by simpa using h0
  have hb8 : decide ((8192 : Int) < ms) = false := by simpa using h8
  have hini : Hid (splW l ms = splR l ms ((mk l).size + 1) [] 0) := Lib.hid (by rw [mk_size]; unfold splW; rw [hlim.out])
  obtain ⟨i0, hi, hz0, hz1, hz2⟩ := info_parts info_msgZ
  have hzm := zero_msgW
  have HO4 := Lib.hid (fun (a : Nat) W => qGet (l.drop a) 0 4 (by rw [List.length_drop, ← HL.out]; unfold maxLen; omega) W)
  have HG := Lib.hid (fun (a : Nat) W (_ : Below w.heap.size w W) => RGet_msg (l.drop a) 0 (by rw [List.length_drop, ← HL.out]; omega) W)
  have HT : Hid (∀ a k, a + k ≤ l.length → (mk (l.drop a)).extract k (mk (l.drop a)).size = mk (l.drop (a + k))) := Lib.hid (fun a k h => by rw [mk_tail _ _ (by rw [List.length_drop]; omega), List.drop_drop])
  go_enter Tryz.func16, Tryz.ntmps16
  go_wp2
  go_loopw [8, 9] (fun vx va wr => ∃ (vv : Value) (L : List MM) (acc : List MM) (a n : Nat), vv = vx ∧ va = .string (mk (l.drop a)) ∧ a ≤ (mk l).size ∧ (mk l).size < a + n ∧ L.length ≤ a ∧ Hid (splW l ms = splR l ms n acc a) ∧ Hid (MSOwn w.heap.size wr vv L) ∧ Hid (L.map strip = acc) ∧ Hid (Below w.heap.size w wr)) (fun _ va _ => sizeS va)
  case atStart => exact ⟨_, [], [], 0, (mk l).size + 1, rfl, rfl, by omega, by omega, by simp, hini, MSOwn.nil_ _ _, rfl, Below.refl _ _⟩
  case round =>
    obtain ⟨vv, L, acc, a, n, rfl, rfl, ha, hn, hal, hr, hO, hLa, hB⟩ := hrel
    have hrz : Hid ((mk (l.drop a)).size = (mk l).size - a) := Lib.hid (by rw [mk_size, List.length_drop, HL.out])
    by_cases hlt : (mk l).size < a + 4
    · have hd : decide ((4 : Int) ≤ ((mk (l.drop a)).size : Int)) = false := by rw [hrz.out]; simp; omega
      have hres := Lib.hid (hr.out.trans (splR_end (by rw [← HL.out]; exact hlt)))
      clear hr
      go_wp2
      go_ret3
      exact ⟨_, L, by rw [hres.out]; rfl, hO.out.row, by rw [hres.out]; exact hLa.out, hB.out⟩
    have hra := Lib.hid (getR_drop l (a := a) (by rw [← HL.out]; exact ha) 4 ⟨by omega, by omega⟩)
    obtain ⟨q, hq, hq2⟩ := getR4 (l := l) (a := a) (by rw [← HL.out]; omega)
    obtain ⟨q', hq', -⟩ := getR4 (l := l.drop a) (a := 0) (by rw [List.length_drop, ← HL.out]; omega)
    have hqq : (q : Int) = (q' : Int) := by
      have := hra.out.1
      have e1 : (getR l (a : Int) ((4 : Nat) : Int)).1 = (q : Int) := congrArg (·.1) hq
      have e2 : (getR (l.drop a) 0 ((4 : Nat) : Int)).1 = (q' : Int) := congrArg (·.1) hq'
      rw [e1, e2] at this; exact this
    obtain rfl : q = q' := by omega
    have hd4 : decide ((4 : Int) ≤ ((mk (l.drop a)).size : Int)) = true := by rw [hrz.out]; simp; omega
    have hOG := HO4.out a wr
    rw [show getR (l.drop a) 0 4 = ((q : Int), 4, 0) from hq'] at hOG
    dsimp only at hOG
    have s1 := fun (h1 : ms < (q : Int) ∨ (q : Int) < 7) => hr.out.trans (splR_bad (l := l) (lim := ms) (n := n) (a := a) (acc := acc) (by omega) (by rw [← HL.out]; exact hlt) (by rw [hq]; exact h1))
    by_cases h1 : ms < (q : Int)
    · have hd5 : decide (ms < (q : Int)) = true := by simpa using h1
      have hres := Lib.hid (s1 (.inl h1))
      clear hr s1 hq hq' hra
      go_wp2_with fail
      refine hOG.mono ?_
      rintro e w2 ⟨rfl, rfl⟩
      go_wp2
      go_ret3
      exact ⟨_, [], by rw [hres.out]; rfl, MSRow.nil_ _, by rw [hres.out]; rfl, hB.out⟩
    have hd5 : decide (ms < (q : Int)) = false := by simpa using h1
    by_cases h2 : (q : Int) < 7
    · have hd6 : decide ((q : Int) < 7) = true := by simpa using h2
      have hres := Lib.hid (s1 (.inr h2))
      clear hr s1 hq hq' hra
      go_wp2_with fail
      refine hOG.mono ?_
      rintro e w2 ⟨rfl, rfl⟩
      go_wp2
      go_ret3
      exact ⟨_, [], by rw [hres.out]; rfl, MSRow.nil_ _, by rw [hres.out]; rfl, hB.out⟩
    have hd6 : decide ((q : Int) < 7) = false := by simpa using h2
    have h12 : ¬ (ms < (getR l (a : Int) 4).1 ∨ (getR l (a : Int) 4).1 < 7) := by rw [hq]; rintro (h | h) <;> contradiction
    by_cases h3 : ((mk l).size : Int) - (a : Int) < (q : Int)
    · have hd7 : decide ((mk (l.drop a)).size < q) = true := by rw [hrz.out]; simp; omega
      have hres := Lib.hid (hr.out.trans (splR_part (l := l) (lim := ms) (n := n) (a := a) (acc := acc) (by omega) (by rw [← HL.out]; exact hlt) h12 (by rw [hq, ← HL.out]; exact h3)))
      clear hr s1 hq hq' h12 hra
      go_wp2_with fail
      refine hOG.mono ?_
      rintro e w2 ⟨rfl, rfl⟩
      go_wp2
      go_ret3
      exact ⟨_, L, by rw [hres.out]; rfl, hO.out.row, by rw [hres.out]; exact hLa.out, hB.out⟩
    have hd7 : decide ((mk (l.drop a)).size < q) = false := by rw [hrz.out]; simp; omega
    have h3' : ¬ (l.length : Int) - (a : Int) < (getR l (a : Int) 4).1 := by rw [hq, ← HL.out]; exact h3
    have hGt := HG.out a wr hB.out
    have he1 := fun m x e h h' => hr.out.trans (splR_err (l := l) (lim := ms) (acc := acc) (n := n) (a := a) (by omega) (by rw [← HL.out]; exact hlt) h12 h3' (m := m) (x := x) (e := e) h h')
    have he2 := fun m x h => hr.out.trans (splR_step (l := l) (lim := ms) (acc := acc) (n := n) (a := a) (by omega) (by rw [← HL.out]; exact hlt) h12 h3' (m := m) (x := x) h)
    have he3 := fun m x h => getW_next (l := l) (a := a) (m := m) (x := x) h
    have hnv := getW_nv l (a : Int)
    obtain ⟨g1, g2, g3⟩ := getW_drop (l := l) (a := a) (by rw [← HL.out]; exact ha)
    clear s1 hq hq' hr h12 h3' hra
    rcases hgr : getW (l.drop a) 0 with ⟨D, nx, er⟩
    rcases hgs : getW l (a : Int) with ⟨D', x, er'⟩
    rw [hgr] at hGt g1 g2 g3
    rw [hgs] at he1 he2 he3 hnv g1 g2 g3
    dsimp only at hGt hnv g1 g2 g3
    subst g1 g2
    clear hgr hgs
    by_cases h0e : er = 0
    · subst h0e
      have g4 := g3 rfl
      have hst := he2 D x rfl
      obtain ⟨c, hcx, hc1, hc2⟩ := he3 D x rfl
      rw [← HL.out] at hc2
      obtain ⟨k, rfl⟩ : ∃ k, c = a + k := ⟨c - a, by omega⟩
      obtain rfl : nx = (k : Int) := by omega
      rw [hcx, Int.toNat_natCast] at hst
      replace hst := Lib.hid hst
      have hT' := HT.out a k (by rw [← HL.out]; exact hc2)
      have hk1 : k ≤ (mk (l.drop a)).size := by rw [hrz.out]; omega
      have hnz : (mk (l.drop (a + k))).size = (mk l).size - (a + k) := by rw [mk_size, List.length_drop, HL.out]
      have hmeas : Hid ((mk (l.drop (a + k))).size < (mk (l.drop a)).size) := Lib.hid (by rw [hnz, hrz.out]; omega)
      clear he1 he2 he3 g3 g4 hcx hnz
      replace hGt := Lib.hid hGt
      go_wp2_with fail
      refine hOG.mono ?_
      rintro e w2 ⟨rfl, rfl⟩
      go_wp2_with fail
      refine hGt.out.mono ?_
      rintro e W1 ⟨v1, v2, rfl, hRow, hB1⟩
      have hsp := Lib.hid (strip_with hnv v1 v2)
      have HB1 := hB.out.trans (hB1.mono hB.out.size)
      have HO1 := hO.out.below hB1
      have HR1 := hRow.toB (o := vv.ownBlock) (fun k hk => Nat.lt_succ_of_lt (hO.out.lt k hk))
      have H1 := Lib.hid (cellsB_one _ hRow.row.one.1 hRow.row.one.2)
      generalize withV D v1 v2 = mm at *
      unfold msgV
      obtain ⟨W2, hW2, HB2, HO2, HR2, HX2⟩ : ∃ W2, W1.alloc (.cells (cellsB mm) 30) = W2 ∧ Below w.heap.size w W2 ∧ MSOwn w.heap.size W2 vv L ∧ RowB vv.ownBlock W2 mm ∧ BlkM W2 W1.heap.size mm := ⟨_, rfl, HB1.alloc HB1.size _, HO1.below ((Below.refl _ W1).alloc (Nat.le_refl _) _), HR1.below ((Below.refl _ W1).alloc (Nat.le_refl _) _), BlkM.new W1 mm⟩
      obtain ⟨W3, hW3, HB3, HO3, HR3, HX3⟩ : ∃ W3, W2.alloc (.cells (cellsB mm) 30) = W3 ∧ Below w.heap.size w W3 ∧ MSOwn w.heap.size W3 vv L ∧ RowB vv.ownBlock W3 mm ∧ BlkM W3 W2.heap.size mm := ⟨_, rfl, HB2.alloc HB2.size _, HO2.below ((Below.refl _ W2).alloc (Nat.le_refl _) _), HR2.below ((Below.refl _ W2).alloc (Nat.le_refl _) _), BlkM.new W2 mm⟩
      replace hW2 := Lib.hid hW2
      replace hW3 := Lib.hid hW3
      replace HB2 := Lib.hid HB2
      replace HB3 := Lib.hid HB3
      replace HO2 := Lib.hid HO2
      replace HO3 := Lib.hid HO3
      replace HR2 := Lib.hid HR2
      replace HR3 := Lib.hid HR3
      replace HX2 := Lib.hid HX2
      replace HX3 := Lib.hid HX3
      replace hnv := Lib.hid hnv
      clear hB1 HB1 HO1 HR1 hRow hGt
      go_wp2_with (first
        | (simp only [hzm.out])
        | (refine wpList_store_row rfl 30 _ _ rfl W1.heap.size (cellsB mm) rfl rfl 30 (cellsB noM) (heap_alloc_new W1 _) (by kernel_rfl) rfl H1.out ?_; rw [World.setRow_alloc_new, hW2.out])
        | (refine wpList_load_row rfl 30 _ rfl W1.heap.size rfl 30 (cellsB mm) (0, 0) _ HX2.out Tryz.underlying30 rfl (by kernel_rfl) ?_)
        | (refine wpList_build_oneM rfl (.tmp 54) rfl mm rfl ?_; rw [hW3.out])
        | (at_builtin; refine wpList_append_own_at _ rfl (.tmp 53) (.tmp 55) 40 rfl w.heap.size 30 i0 (.agg (cellsB noM)) 39 424 Tryz.underlying40 hi hz0 hz1 hz2 rfl (by decide) _ _ _ rfl HO3.out.1 ⟨W2.heap.size, 0, none⟩ 1 1 (cellsM mm) rfl rfl (cells_msgAt HX3.out) (cellsM_one mm H1.out) (by unfold maxLen; omega) (by omega) HB3.out.size ?_; intro v' w4 hown' hgrow _ hob))
      have HO4' : Hid (MSOwn w.heap.size w4 v' (L ++ [mm])) := HO3.out.more HR3.out hgrow hob hown'
      have HB4 := Lib.hid (HB3.out.trans (below_grown HB3.out.size HO3.out.1 hgrow))
      clear hown' hgrow hob
      go_wp2
      exact ⟨⟨_, L ++ [mm], acc ++ [D], a + k, n - 1, rfl, rfl, by omega, by omega, by simp; omega, hst, HO4', Lib.hid (by rw [List.map_append, hLa.out]; simp only [List.map_cons, List.map_nil, hsp.out]), HB4⟩, by simpa [sizeS] using hmeas.out⟩
    · have hres := Lib.hid (he1 D x er rfl h0e)
      have hne : (er != 0) = true := by simpa using h0e
      clear he1 he2 he3 h0e g3
      replace hGt := Lib.hid hGt
      replace hnv := Lib.hid hnv
      go_wp2_with fail
      refine hOG.mono ?_
      rintro e w2 ⟨rfl, rfl⟩
      go_wp2_with fail
      refine hGt.out.mono ?_
      rintro e W1 ⟨v1, v2, rfl, hRow, hB1⟩
      have HB1 := hB.out.trans (hB1.mono hB.out.size)
      have H1 := Lib.hid (cellsB_one _ hRow.row.one.1 hRow.row.one.2)
      generalize withV D v1 v2 = mm at *
      unfold msgV
      obtain ⟨W2, hW2, HB2⟩ : ∃ W2, W1.alloc (.cells (cellsB mm) 30) = W2 ∧ Below w.heap.size w W2 := ⟨_, rfl, HB1.alloc HB1.size _⟩
      replace hW2 := Lib.hid hW2
      replace HB2 := Lib.hid HB2
      clear hB1 HB1 hGt hRow
      go_wp2_with (first | (simp only [hzm.out]) | (refine wpList_store_row rfl 30 _ _ rfl W1.heap.size (cellsB mm) rfl rfl 30 (cellsB noM) (heap_alloc_new W1 _) (by kernel_rfl) rfl H1.out ?_; rw [World.setRow_alloc_new, hW2.out]))
      go_ret3
      exact ⟨_, [], by rw [hres.out]; rfl, MSRow.nil_ _, by rw [hres.out]; rfl, HB2.out⟩

theorem RSplit_any (l : List UInt8) (ms : Int) (hl : (mk l).size ≤ 1000000) (w : World) :
    Calls Tryz.prog 16 #[.string (mk l), .int .i64 ms] w fun e w' => SplPost l ms w e w' := by
  by_cases h0 : ms = 0
  · exact RSplit_zero l ms hl h0 w
  · by_cases h8 : 8192 < ms
    · exact RSplit_big l ms hl h0 h8 w
    · exact RSplit_mid l ms hl h0 (by omega) w
end Go.Proofs.YtlfdmbfbfadifaaGreatDoor

namespace Go.Proofs.YtlfdmbfbfadifaaGreatDoor
open Go.RowKit

set_option maxRecDepth 100000 in
set_option maxHeartbeats 6400000 in
theorem wireGets_walk (s : ByteArray) (a : Int) (hs : s.size ≤ maxLen) (_ha : inI a) (w : World) (g : G w) :
    Calls Tryz.prog 4 #[.string s, .int .i64 a] w fun e w' => e = .returned (.bool true) ∧ Below w.heap.size w w' := by
  have hA := Lib.hid (fun W (h : Below w.heap.size w W) => alive_any W (g.below h))
  have hz := zero_msgW
  unfold maxLen at hs
  by_cases hbig : 20000 < s.size
  · clear hz
    go_enter Tryz.func4, Tryz.ntmps4
    go_wp2_with fail
    refine (hA.out _ (Below.refl _ w)).mono ?_
    rintro e W2 ⟨rfl, hB2⟩
    go_wp2
    go_ret
    exact ⟨rfl, hB2⟩
  obtain ⟨l, rfl⟩ : ∃ l, s = mk l := ⟨_, (mk_of s).symm⟩
  have hsz := mk_size l
  have hG := Lib.hid (Get_msg l a (by omega) w g)
  have hR := Lib.hid (fun W => RGet_msg l a (by omega) W)
  have hdb : decide ((20000 : Int) < ((mk l).size : Int)) = false := decide_eq_false (by omega)
  have hnv := getW_nv l a
  have hS : Hid (∀ v1 v2 u1 u2, strip (withV (getW l a).1 v1 v2) = strip (withV (getW l a).1 u1 u2)) := Lib.hid (fun v1 v2 u1 u2 => (strip_with hnv v1 v2).trans (strip_with hnv u1 u2).symm)
  replace hsz := Lib.hid hsz
  clear hnv g
  generalize getW l a = res at *
  obtain ⟨m, nx, er⟩ := res
  dsimp only at hG hR hS
  go_enter Tryz.func4, Tryz.ntmps4
  go_wp2_with fail
  refine hG.out.mono ?_
  rintro e W1 ⟨v1, v2, rfl, hRow1, hB1⟩
  have H1 := Lib.hid (cellsB_one _ hRow1.row.one.1 hRow1.row.one.2)
  have hS1 := hS.out v1 v2
  have hmv : Hid (msgV (withV m v1 v2) = .agg (cellsB (withV m v1 v2))) := Lib.hid rfl
  rw [hmv.out]
  clear hmv
  generalize withV m v1 v2 = m1 at *
  have HB1 := Lib.hid (hB1.alloc hB1.size (.cells (cellsB m1) 30))
  have HK1 := Lib.hid (BlkM.new W1 m1)
  have HR1 := Lib.hid (hRow1.below ((Below.refl _ W1).alloc (Nat.le_refl _) (.cells (cellsB m1) 30)))
  clear hRow1 hB1
  go_wp2_with (first | (simp only [hz.out]) | (refine wpList_store_row rfl 30 _ _ rfl W1.heap.size (cellsB m1) rfl rfl 30 (cellsB noM) (heap_alloc_new W1 _) (by kernel_rfl) rfl H1.out ?_; rw [World.setRow_alloc_new]))
  refine (hR.out _).mono ?_
  rintro e W2 ⟨u1, u2, rfl, hRow2, hB2⟩
  have H2 := Lib.hid (cellsB_one _ hRow2.row.one.1 hRow2.row.one.2)
  have hS2 := Lib.hid (hS1 u1 u2)
  have hmv : Hid (msgV (withV m u1 u2) = .agg (cellsB (withV m u1 u2))) := Lib.hid rfl
  rw [hmv.out]
  clear hmv
  generalize withV m u1 u2 = m2 at *
  have hA2 := (Below.refl _ W2).alloc (Nat.le_refl _) (.cells (cellsB m2) 30)
  have HB2 := Lib.hid ((HB1.out.trans (hB2.mono HB1.out.size)).alloc (Nat.le_trans HB1.out.size hB2.size) (.cells (cellsB m2) 30))
  have HK2 := Lib.hid (BlkM.new W2 m2)
  have HJ2 := Lib.hid ((HK1.out.below hB2 HK1.out.lt).alloc (.cells (cellsB m2) 30))
  have HR2 := Lib.hid (((HR1.out.below hB2).below hA2).row)
  have HQ2 := Lib.hid ((hRow2.below hA2).row)
  clear hRow2 hB2 hA2 hS1 hS
  go_wp2_with (first
    | (simp only [hz.out])
    | (refine wpList_store_row rfl 30 _ _ rfl W2.heap.size (cellsB m2) rfl rfl 30 (cellsB noM) (heap_alloc_new W2 _) (by kernel_rfl) rfl H2.out ?_; rw [World.setRow_alloc_new])
    | (refine wpList_load_row rfl 30 _ rfl W1.heap.size rfl 30 (cellsB m1) (0, 0) _ HJ2.out Tryz.underlying30 rfl (by kernel_rfl) ?_)
    | (refine wpList_load_row rfl 30 _ rfl W2.heap.size rfl 30 (cellsB m2) (0, 0) _ HK2.out Tryz.underlying30 rfl (by kernel_rfl) ?_))
  refine (RSame_strip hS2.out _ HR2.out HQ2.out).mono ?_
  rintro e W3 ⟨rfl, hB3⟩
  have HB3 := Lib.hid (HB2.out.trans (hB3.mono HB2.out.size))
  clear hB3
  have e1 : (nx == nx) = true := by simp
  have e2 : (er == er) = true := by simp
  go_wp2_with fail
  refine (hA.out _ HB3.out).mono ?_
  rintro e W4 ⟨rfl, hB4⟩
  have HB4 := Lib.hid (HB3.out.trans (hB4.mono HB3.out.size))
  clear hB4
  go_wp2
  go_ret
  exact ⟨rfl, HB4.out⟩

set_option maxRecDepth 100000 in
set_option maxHeartbeats 6400000 in
theorem wireSplits_walk (s : ByteArray) (a : Int) (hs : s.size ≤ maxLen) (_ha : inI a) (w : World) (g : G w) :
    Calls Tryz.prog 5 #[.string s, .int .i64 a] w fun e w' => e = .returned (.bool true) ∧ Below w.heap.size w w' := by
  have hA := Lib.hid (fun W (h : Below w.heap.size w W) => alive_any W (g.below h))
  unfold maxLen at hs
  by_cases hbig : 20000 < s.size
  · go_enter Tryz.func5, Tryz.ntmps5
    go_wp2_with fail
    refine (hA.out _ (Below.refl _ w)).mono ?_
    rintro e W2 ⟨rfl, hB2⟩
    go_wp2
    go_ret
    exact ⟨rfl, hB2⟩
  obtain ⟨l, rfl⟩ : ∃ l, s = mk l := ⟨_, (mk_of s).symm⟩
  have hP := Split_any l a (by omega) w g
  have hQ := fun W => RSplit_any l a (by omega) W
  unfold SplPost at hP hQ
  replace hP := Lib.hid hP
  replace hQ := Lib.hid hQ
  have hdb : decide ((20000 : Int) < ((mk l).size : Int)) = false := decide_eq_false (by omega)
  clear g
  generalize splW l a = res at *
  obtain ⟨L, r, er⟩ := res
  dsimp only at hP hQ
  have er1 : ((mk r).toList == (mk r).toList) = true := by simp
  generalize mk r = R at *
  go_enter Tryz.func5, Tryz.ntmps5
  go_wp2_with fail
  refine hP.out.mono ?_
  rintro e W1 ⟨v1, L1, rfl, hL1, eL1, hB1⟩
  have HB1 := Lib.hid hB1
  clear hB1
  go_wp2_with fail
  refine (hQ.out _).mono ?_
  rintro e W2 ⟨v2, L2, rfl, hL2, eL2, hB2⟩
  have HB2 := Lib.hid (HB1.out.trans (hB2.mono HB1.out.size))
  have HL1 := Lib.hid (hL1.below hB2)
  have HL2 := Lib.hid hL2
  have he := Lib.hid (eL1.trans eL2.symm)
  clear hB2 hL1 hL2 eL1 eL2
  go_wp2_with fail
  refine (same_any _ _ _ _ _ HL1.out HL2.out he.out).mono ?_
  rintro e W3 ⟨rfl, hB3⟩
  have HB3 := Lib.hid (HB2.out.trans (hB3.mono HB2.out.size))
  clear hB3
  have e2 : (er == er) = true := by simp
  go_wp2_with fail
  refine (hA.out _ HB3.out).mono ?_
  rintro e W4 ⟨rfl, hB4⟩
  have HB4 := Lib.hid (HB3.out.trans (hB4.mono HB3.out.size))
  clear hB4
  go_wp2
  go_ret
  exact ⟨rfl, HB4.out⟩
end Go.Proofs.YtlfdmbfbfadifaaGreatDoor
