/-
  Walks: All, the program's and the reference's.
-/
import Derived.Test.YtinjnbcikoejkaaDoorTb
import Derived.Test.YtinjnbcikoejkaaDoorSs
import Derived.Great.BuildSlice
namespace Go.Proofs.YtinjnbcikoejkaaDoor
open Go.RowKit

/-- From the offset a on, acc read already; at most n more. -/
def goS (l : List UInt8) : Nat → List DD → Nat → List DD × Int
  | 0, acc, _ => (acc, 0)
  | n + 1, acc, a => if l.length ≤ a then (acc, 0) else if (getS numP l (a : Int)).2.2 ≠ 0 then ([], (getS numP l (a : Int)).2.2) else goS l n (acc ++ [(getS numP l (a : Int)).1]) (getS numP l (a : Int)).2.1.toNat
def allS (l : List UInt8) : List DD × Int := goS l (l.length + 1) [] 0
theorem goS_end {l : List UInt8} {n : Nat} {acc : List DD} {a : Nat} (h : l.length ≤ a) : goS l n acc a = (acc, 0) := by
  cases n with
  | zero => rfl
  | succ n => rw [goS, if_pos h]
theorem goS_err {l : List UInt8} {n : Nat} {acc : List DD} {a : Nat} (hn : 0 < n) (h : a < l.length) {d : DD} {x e : Int} (hg : getS numP l (a : Int) = (d, x, e)) (he : e ≠ 0) : goS l n acc a = ([], e) := by
  obtain ⟨m, rfl⟩ : ∃ m, n = m + 1 := ⟨n - 1, by omega⟩
  rw [goS, if_neg (by omega), hg, if_pos he]
theorem goS_step {l : List UInt8} {n : Nat} {acc : List DD} {a : Nat} (hn : 0 < n) (h : a < l.length) {d : DD} {x : Int} (hg : getS numP l (a : Int) = (d, x, 0)) : goS l n acc a = goS l (n - 1) (acc ++ [d]) x.toNat := by
  obtain ⟨m, rfl⟩ : ∃ m, n = m + 1 := ⟨n - 1, by omega⟩
  rw [goS, if_neg (by omega), hg, if_neg (by simp)]
  rfl
theorem getS_next {l : List UInt8} {a : Nat} (ha : a ≤ l.length) {d : DD} {x : Int} (hg : getS numP l (a : Int) = (d, x, 0)) : ∃ c : Nat, x = c ∧ a + 2 ≤ c ∧ c ≤ l.length := by
  rcases h : textAt l a with _ | ⟨t, c⟩
  · have e := getTextR_none ha h
    rw [getS_err (by rw [e]; decide), e] at hg
    simp at hg
  · have e := getTextR_some h
    have hl := textAt_le h
    refine ⟨c, ?_, hl.1, hl.2.1⟩
    unfold getS at hg
    rw [e] at hg
    rw [if_neg (by simp)] at hg
    split at hg
    · simp at hg
    · split at hg
      · rename_i h3
        simp only [Prod.mk.injEq] at hg
        exact absurd hg.2.2 h3
      · simp only [Prod.mk.injEq] at hg
        exact hg.2.1.symm
theorem fill_one (d : DD) (i0 : TypeInfo) (h : i0.size = 13) : Instr.fill (fun i => some (i * i0.size, i0.size)) ((Array.range (1 * i0.size)).map ((Value.agg (cellsA noD)).cells[· % (Value.agg (cellsA noD)).cells.size]!)) [(0, .agg (cellsA d))] = some (cellsA d) := by
  rw [h]
  show _ = _
  kernel_rfl
theorem wpList_build_one {ops : Array Oper} {rest : List Oper} {o : Oper} {a : Act} {w : World} {Q : Exit → Act → World → Prop} (hg : o.guard = none) (x : Operand) (ho : o.op = .buildSlice 35 1 #[(0, x)]) (d : DD) (hx : a.eval x = .agg (cellsA d))
    (h : wpList Tryd.prog ops Q rest (a.put o.dst (.slice (some ⟨w.heap.size, 0, none⟩) 1 1)) (w.alloc (.cells (cellsA d) 25))) : wpList Tryd.prog ops Q (o :: rest) a w := by
  obtain ⟨i0, hi, hz0, hz1, hz2⟩ := info_parts info_dir
  refine wpList_buildSlice hg _ _ 1 _ ho (cellsA d) i0 (.agg (cellsA noD)) Tryd.underlying35 hi hz0 (by rw [hz1]; decide) (by rw [hz1]; decide) ?_ h
  simp only [List.map_toArray, List.map_cons, List.map_nil, hx]
  exact fill_one d i0 hz1
theorem cells_dirAt {w : World} {b : Nat} {d : DD} (h : BlkD w b d) : ∀ j u, (cellsD d)[j]? = some u → w.cell? ((⟨b, 0, none⟩ : Addr).add j) = some u := fun j u hu => by
  rw [add_at, Nat.zero_add, h.cell j]; exact hu
theorem cellsD_one (d : DD) : ∀ u ∈ cellsD d, u.oneCell' = true := fun u hu => (Array.all_eq_true_iff_forall_mem.1 (cellsA_one d)) u (by simpa [cellsA] using hu)
def AllPost (l : List UInt8) (w : World) (e : Ending) (w' : World) : Prop := ∃ v, e = .returned (.tuple #[v, .int .i64 (allS l).2]) ∧ DRow w' v (allS l).1 ∧ Below w.heap.size w w'

set_option maxRecDepth 100000 in
set_option maxHeartbeats 6400000 in
theorem All_any (l : List UInt8) (hl : (mk l).size ≤ 1000000) (w : World) (g : G w) :
    Calls Tryd.prog 18 #[.string (mk l)] w fun e w' => AllPost l w e w' := by
  have HL := Lib.hid (mk_size l)
  obtain ⟨i0, hi, hz0, hz1, hz2⟩ := info_parts info_dir
  have HG := Lib.hid (fun (a : Nat) W (h : Below w.heap.size w W) => Get_dir l (a : Int) (by rw [← HL.out]; exact hl) W (g.below h))
  go_enter Tryd.func18, Tryd.ntmps18
  go_wp2
  go_loopw [4, 5] (fun vx va wr => ∃ (vv : Value) (acc : List DD) (a n : Nat), vv = vx ∧ va = .int .i64 (a : Int) ∧ a ≤ (mk l).size ∧ (mk l).size < a + n ∧ acc.length ≤ a ∧ Hid (allS l = goS l n acc a) ∧ Hid (DOwn w.heap.size wr vv acc) ∧ Hid (Below w.heap.size w wr)) (fun _ va _ => (mk l).size - (intOf va).toNat)
  case atStart => exact ⟨_, [], 0, (mk l).size + 1, rfl, rfl, by omega, by omega, by simp, by rw [Hid, HL.out]; rfl, DOwn.nil_ _ _, Below.refl _ _⟩
  case round =>
    obtain ⟨vv, acc, a, n, rfl, rfl, ha, hn, hal, hr, hO, hB⟩ := hrel
    by_cases hlt : a < (mk l).size
    · have hlt' : a < l.length := by rw [← HL.out]; exact hlt
      have hGt := HG.out a wr hB.out
      have he1 := fun d x e h1 h2 => hr.out.trans (goS_err (acc := acc) (n := n) (by omega) hlt' (d := d) (x := x) (e := e) h1 h2)
      have he2 := fun d x h1 => hr.out.trans (goS_step (acc := acc) (n := n) (by omega) hlt' (d := d) (x := x) h1)
      have he3 := fun d x h1 => getS_next (l := l) (a := a) (Nat.le_of_lt hlt') (d := d) (x := x) h1
      generalize hgs : getS numP l (a : Int) = res at *
      obtain ⟨D, nx, er⟩ := res
      dsimp only at hGt
      by_cases h0 : er = 0
      · subst h0
        have hst := he2 D nx rfl
        obtain ⟨c, rfl, hc1, hc2⟩ := he3 D nx rfl
        rw [← HL.out] at hc2
        rw [Int.toNat_natCast] at hst
        replace hst := Lib.hid hst
        clear he1 he2 he3 hgs hlt' hr
        unfold dirV at hGt
        replace hGt := Lib.hid hGt
        go_wp2_with fail
        refine hGt.out.mono ?_
        rintro e W1 ⟨rfl, hB1⟩
        have HB1 := hB.out.trans (hB1.mono hB.out.size)
        have HO1 := hO.out.below hB1
        obtain ⟨W2, hW2, HB2, HO2, HX2⟩ : ∃ W2, W1.alloc (.cells (cellsA D) 25) = W2 ∧ Below w.heap.size w W2 ∧ DOwn w.heap.size W2 vv acc ∧ BlkD W2 W1.heap.size D := ⟨_, rfl, HB1.alloc HB1.size _, World.ownsRow.alloc HO1 _, BlkD.new W1 D⟩
        obtain ⟨W3, hW3, HB3, HO3, HX3⟩ : ∃ W3, W2.alloc (.cells (cellsA D) 25) = W3 ∧ Below w.heap.size w W3 ∧ DOwn w.heap.size W3 vv acc ∧ BlkD W3 W2.heap.size D := ⟨_, rfl, HB2.alloc HB2.size _, World.ownsRow.alloc HO2 _, BlkD.new W2 D⟩
        replace hW2 := Lib.hid hW2
        replace hW3 := Lib.hid hW3
        replace HB2 := Lib.hid HB2
        replace HB3 := Lib.hid HB3
        replace HO2 := Lib.hid HO2
        replace HO3 := Lib.hid HO3
        replace HX2 := Lib.hid HX2
        replace HX3 := Lib.hid HX3
        clear hB1 HB1 HO1 hGt
        go_wp2_with (first
          | (refine wpList_store_row rfl 25 _ _ rfl W1.heap.size (cellsA D) rfl rfl 25 (cellsA noD) (heap_alloc_new W1 _) (by kernel_rfl) rfl (cellsA_one D) ?_; rw [World.setRow_alloc_new, hW2.out])
          | (refine wpList_load_row rfl 25 _ rfl W1.heap.size rfl 25 (cellsA D) (0, 0) _ HX2.out Tryd.underlying25 rfl (by kernel_rfl) ?_)
          | (refine wpList_build_one rfl (.tmp 24) rfl D rfl ?_; rw [hW3.out])
          | (at_builtin; refine wpList_append_own _ rfl (.tmp 23) (.tmp 25) 35 rfl w.heap.size 25 i0 (.agg (cellsA noD)) 13 136 Tryd.underlying35 hi hz0 hz1 hz2 rfl (by decide) _ _ _ rfl HO3.out ⟨W2.heap.size, 0, none⟩ 1 1 (cellsD D) rfl rfl (cells_dirAt HX3.out) (cellsD_one D) (by unfold maxLen; omega) (by omega) HB3.out.size ?_; intro v' w4 hown' hgrow _))
        have HO4 : Hid (DOwn w.heap.size w4 v' (acc ++ [D])) := DOwn.more hown'
        have HB4 := Lib.hid (HB3.out.trans (below_grown HB3.out.size HO3.out hgrow))
        clear hown' hgrow
        go_wp2
        exact ⟨⟨_, acc ++ [D], c, n - 1, rfl, rfl, by omega, by omega, by simp; omega, hst, HO4, HB4⟩, by simp [intOf]; omega⟩
      · have hres := Lib.hid (he1 D nx er rfl h0)
        have hne : (er != 0) = true := by simpa using h0
        clear he1 he2 he3 hgs hlt' hr h0
        unfold dirV at hGt
        replace hGt := Lib.hid hGt
        go_wp2_with fail
        refine hGt.out.mono ?_
        rintro e W1 ⟨rfl, hB1⟩
        have HB1 := hB.out.trans (hB1.mono hB.out.size)
        obtain ⟨W2, hW2, HB2⟩ : ∃ W2, W1.alloc (.cells (cellsA D) 25) = W2 ∧ Below w.heap.size w W2 := ⟨_, rfl, HB1.alloc HB1.size _⟩
        replace hW2 := Lib.hid hW2
        replace HB2 := Lib.hid HB2
        clear hB1 HB1 hGt
        go_wp2_with (refine wpList_store_row rfl 25 _ _ rfl W1.heap.size (cellsA D) rfl rfl 25 (cellsA noD) (heap_alloc_new W1 _) (by kernel_rfl) rfl (cellsA_one D) ?_; rw [World.setRow_alloc_new, hW2.out])
        go_ret2
        exact ⟨_, by rw [hres.out]; rfl, by rw [hres.out]; exact DRow.nil_ _, HB2.out⟩
    · have hres := Lib.hid (hr.out.trans (goS_end (by rw [← HL.out]; omega)))
      clear hr
      go_wp2
      go_ret2
      exact ⟨_, by rw [hres.out]; rfl, by rw [hres.out]; exact hO.out.row, hB.out⟩

set_option maxRecDepth 100000 in
set_option maxHeartbeats 6400000 in
theorem RAll_any (l : List UInt8) (hl : (mk l).size ≤ 1000000) (w : World) :
    Calls Tryd.prog 19 #[.string (mk l)] w fun e w' => AllPost l w e w' := by
  have HL := Lib.hid (mk_size l)
  obtain ⟨i0, hi, hz0, hz1, hz2⟩ := info_parts info_dir
  have HG0 := fun (a : Nat) (ha : a ≤ 1000000) W (h : Below w.heap.size w W) => RGet_any l (a : Int) ⟨by omega, by omega⟩ hl W
  simp only [← getS_PQ] at HG0
  have HG := Lib.hid HG0
  clear HG0
  go_enter Tryd.func19, Tryd.ntmps19
  go_wp2
  go_loopw [4, 5] (fun vx va wr => ∃ (vv : Value) (acc : List DD) (a n : Nat), vv = vx ∧ va = .int .i64 (a : Int) ∧ a ≤ (mk l).size ∧ (mk l).size < a + n ∧ acc.length ≤ a ∧ Hid (allS l = goS l n acc a) ∧ Hid (DOwn w.heap.size wr vv acc) ∧ Hid (Below w.heap.size w wr)) (fun _ va _ => (mk l).size - (intOf va).toNat)
  case atStart => exact ⟨_, [], 0, (mk l).size + 1, rfl, rfl, by omega, by omega, by simp, by rw [Hid, HL.out]; rfl, DOwn.nil_ _ _, Below.refl _ _⟩
  case round =>
    obtain ⟨vv, acc, a, n, rfl, rfl, ha, hn, hal, hr, hO, hB⟩ := hrel
    by_cases hlt : a < (mk l).size
    · have hlt' : a < l.length := by rw [← HL.out]; exact hlt
      have hGt := HG.out a (by omega) wr hB.out
      have he1 := fun d x e h1 h2 => hr.out.trans (goS_err (acc := acc) (n := n) (by omega) hlt' (d := d) (x := x) (e := e) h1 h2)
      have he2 := fun d x h1 => hr.out.trans (goS_step (acc := acc) (n := n) (by omega) hlt' (d := d) (x := x) h1)
      have he3 := fun d x h1 => getS_next (l := l) (a := a) (Nat.le_of_lt hlt') (d := d) (x := x) h1
      generalize hgs : getS numP l (a : Int) = res at *
      obtain ⟨D, nx, er⟩ := res
      dsimp only at hGt
      by_cases h0 : er = 0
      · subst h0
        have hst := he2 D nx rfl
        obtain ⟨c, rfl, hc1, hc2⟩ := he3 D nx rfl
        rw [← HL.out] at hc2
        rw [Int.toNat_natCast] at hst
        replace hst := Lib.hid hst
        clear he1 he2 he3 hgs hlt' hr
        unfold dirV at hGt
        replace hGt := Lib.hid hGt
        go_wp2_with fail
        refine hGt.out.mono ?_
        rintro e W1 ⟨rfl, hB1⟩
        have HB1 := hB.out.trans (hB1.mono hB.out.size)
        have HO1 := hO.out.below hB1
        obtain ⟨W2, hW2, HB2, HO2, HX2⟩ : ∃ W2, W1.alloc (.cells (cellsA D) 25) = W2 ∧ Below w.heap.size w W2 ∧ DOwn w.heap.size W2 vv acc ∧ BlkD W2 W1.heap.size D := ⟨_, rfl, HB1.alloc HB1.size _, World.ownsRow.alloc HO1 _, BlkD.new W1 D⟩
        obtain ⟨W3, hW3, HB3, HO3, HX3⟩ : ∃ W3, W2.alloc (.cells (cellsA D) 25) = W3 ∧ Below w.heap.size w W3 ∧ DOwn w.heap.size W3 vv acc ∧ BlkD W3 W2.heap.size D := ⟨_, rfl, HB2.alloc HB2.size _, World.ownsRow.alloc HO2 _, BlkD.new W2 D⟩
        replace hW2 := Lib.hid hW2
        replace hW3 := Lib.hid hW3
        replace HB2 := Lib.hid HB2
        replace HB3 := Lib.hid HB3
        replace HO2 := Lib.hid HO2
        replace HO3 := Lib.hid HO3
        replace HX2 := Lib.hid HX2
        replace HX3 := Lib.hid HX3
        clear hB1 HB1 HO1 hGt
        go_wp2_with (first
          | (refine wpList_store_row rfl 25 _ _ rfl W1.heap.size (cellsA D) rfl rfl 25 (cellsA noD) (heap_alloc_new W1 _) (by kernel_rfl) rfl (cellsA_one D) ?_; rw [World.setRow_alloc_new, hW2.out])
          | (refine wpList_load_row rfl 25 _ rfl W1.heap.size rfl 25 (cellsA D) (0, 0) _ HX2.out Tryd.underlying25 rfl (by kernel_rfl) ?_)
          | (refine wpList_build_one rfl (.tmp 24) rfl D rfl ?_; rw [hW3.out])
          | (at_builtin; refine wpList_append_own _ rfl (.tmp 23) (.tmp 25) 35 rfl w.heap.size 25 i0 (.agg (cellsA noD)) 13 136 Tryd.underlying35 hi hz0 hz1 hz2 rfl (by decide) _ _ _ rfl HO3.out ⟨W2.heap.size, 0, none⟩ 1 1 (cellsD D) rfl rfl (cells_dirAt HX3.out) (cellsD_one D) (by unfold maxLen; omega) (by omega) HB3.out.size ?_; intro v' w4 hown' hgrow _))
        have HO4 : Hid (DOwn w.heap.size w4 v' (acc ++ [D])) := DOwn.more hown'
        have HB4 := Lib.hid (HB3.out.trans (below_grown HB3.out.size HO3.out hgrow))
        clear hown' hgrow
        go_wp2
        exact ⟨⟨_, acc ++ [D], c, n - 1, rfl, rfl, by omega, by omega, by simp; omega, hst, HO4, HB4⟩, by simp [intOf]; omega⟩
      · have hres := Lib.hid (he1 D nx er rfl h0)
        have hne : (er != 0) = true := by simpa using h0
        clear he1 he2 he3 hgs hlt' hr h0
        unfold dirV at hGt
        replace hGt := Lib.hid hGt
        go_wp2_with fail
        refine hGt.out.mono ?_
        rintro e W1 ⟨rfl, hB1⟩
        have HB1 := hB.out.trans (hB1.mono hB.out.size)
        obtain ⟨W2, hW2, HB2⟩ : ∃ W2, W1.alloc (.cells (cellsA D) 25) = W2 ∧ Below w.heap.size w W2 := ⟨_, rfl, HB1.alloc HB1.size _⟩
        replace hW2 := Lib.hid hW2
        replace HB2 := Lib.hid HB2
        clear hB1 HB1 hGt
        go_wp2_with (refine wpList_store_row rfl 25 _ _ rfl W1.heap.size (cellsA D) rfl rfl 25 (cellsA noD) (heap_alloc_new W1 _) (by kernel_rfl) rfl (cellsA_one D) ?_; rw [World.setRow_alloc_new, hW2.out])
        go_ret2
        exact ⟨_, by rw [hres.out]; rfl, by rw [hres.out]; exact DRow.nil_ _, HB2.out⟩
    · have hres := Lib.hid (hr.out.trans (goS_end (by rw [← HL.out]; omega)))
      clear hr
      go_wp2
      go_ret2
      exact ⟨_, by rw [hres.out]; rfl, by rw [hres.out]; exact hO.out.row, hB.out⟩
end Go.Proofs.YtinjnbcikoejkaaDoor
