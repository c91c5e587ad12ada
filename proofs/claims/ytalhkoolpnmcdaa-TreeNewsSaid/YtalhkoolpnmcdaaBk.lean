/-
  Right: the walk.
-/
import Derived.Test.YtalhkoolpnmcdaaBj
namespace Go.Proofs.Ytalhkoolpnmcdaa
open Go.RowKit

/-- A bool that says whether p is so. -/
def GivesB (p : Prop) (e : Ending) : Prop := ∃ r : Bool, e = .returned (.bool r) ∧ (r = true ↔ p)
theorem GivesB.mk' {p : Prop} (r : Bool) (h : r = true ↔ p) : GivesB p (.returned (.bool r)) := ⟨r, rfl, h⟩
theorem first_none {nx : Int} {L : List ND} (h : ¬ (0 < L.length ∧ L.length ≤ 1024 ∧ rootB (getN L 0) = true)) : (false = true ↔ RightP nx L) := ⟨fun e => absurd e (by simp), fun hR => absurd ⟨hR.1, hR.2.1, hR.2.2.1⟩ h⟩
theorem fail_at {nx : Int} {L : List ND} {i : Nat} (hi : i + 1 < L.length) (h : ¬ passP L (i + 1)) : (false = true ↔ RightP nx L) := ⟨fun e => absurd e (by simp), fun hR => absurd (hR.2.2.2.1 (i + 1) (by omega) hi) h⟩
theorem setRow2 (wr : World) (o : Obj) (old cs : Array Value) (t : TypeId) : ((wr.alloc o).alloc (.cells old t)).setRow (wr.heap.size + 1) cs = (wr.alloc o).alloc (.cells cs t) := by
  have := World.setRow_alloc_new (wr.alloc o) old cs t
  rwa [World.size_alloc] at this
theorem heap2 (wr : World) (o o2 : Obj) : ((wr.alloc o).alloc o2).heap[wr.heap.size + 1]? = some o2 := by
  have := heap_alloc_new (wr.alloc o) o2
  rwa [World.size_alloc] at this
theorem passP_succ (L : List ND) (i : Nat) : passP L (i + 1) ↔ ((getN L i).id < (getN L (i + 1)).id ∧ (∃ j, j < i + 1 ∧ (getN L j).id = (getN L (i + 1)).pa ∧ dbit (getN L j).mo = true) ∧ validL (getN L (i + 1)).nm = true ∧
    (¬ ∃ j, 1 ≤ j ∧ j < i + 1 ∧ (getN L j).pa = (getN L (i + 1)).pa ∧ (getN L j).nm = (getN L (i + 1)).nm) ∧ fieldsB (getN L (i + 1)) = true) := by
  unfold passP
  rw [Nat.add_sub_cancel]
/-- A node and an entry are laid. -/
theorem lay_ne (wr : World) (n : ND) : ∃ Wb, (wr.alloc (.cells (cellsA n) 31)).alloc (.cells #[.int .i64 n.pa, .string (mk n.nm)] 62) = Wb ∧ Below wr.heap.size wr Wb ∧ BlkN Wb wr.heap.size n ∧
    Wb.heap[wr.heap.size + 1]? = some (.cells #[.int .i64 n.pa, .string (mk n.nm)] 62 (0, 0)) ∧ Wb.heap.size = wr.heap.size + 2 :=
  ⟨_, rfl, ((Below.refl _ wr).alloc (Nat.le_refl _) _).alloc (by simp) _, (Below.heap_alloc _ _ _ (by simp)).trans (BlkN.new wr n), heap2 _ _ _, by simp⟩
theorem entry_new (W : World) (p : Int) (x : List UInt8) : (W.alloc (.cells #[.int .i64 p, .string (mk x)] 62)).heap[W.heap.size]? = some (.cells #[.int .i64 p, .string (mk x)] 62 (0, 0)) := heap_alloc_new _ _

theorem start_maps {w w2 : World} {L : List ND} (hB : Below w.heap.size w w2) (hr : rootB (getN L 0) = true) :
    ∃ W4, (Instr.mapUpdate 59 (.map (some w2.heap.size)) (.int .i64 1) (.bool true)).run Try.prog (w2.alloc (.map #[] 0)) = .ok () W4 ∧ MSt w L w2.heap.size W4.heap.size 1 1 (W4.alloc (.map #[] 0)) := by
  unfold rootB at hr
  simp only [Bool.and_eq_true, decide_eq_true_eq] at hr
  obtain ⟨⟨h1, _, _⟩, h2, h3⟩ := hr
  have hd : dbit (getN L 0).mo = true := (dbit_dir (fieldsB_iff.1 h3).1).trans h2
  obtain ⟨W4, hrun, hm, hg⟩ := (BMap.made w2 3).put intKeyed Try.underlying59 (by unfold maxLen; omega) (int_key (a := 1) (by unfold inI; omega)) true
  have hs := hB.size
  have hg2 := hg.size
  rw [World.size_alloc] at hg2
  have hB3 : Below w.heap.size w (w2.alloc (.map #[] 0)) := hB.alloc hs _
  have hB4 : Below w.heap.size w W4 := hB3.grown hg (by simp; omega) (fun r e => by cases e; exact hs)
  refine ⟨W4, hrun, ⟨hB4.alloc (by omega) _, (hm.iff fun l => ?_).kept (World.grownBy_alloc W4 _ none) (by simp), ?_, hs, by omega, by omega⟩⟩
  · constructor
    · rintro (⟨rfl, _⟩ | ⟨_, hf⟩)
      · exact ⟨0, by omega, by rw [h1], hd⟩
      · exact hf.elim
    · rintro ⟨j, hj, rfl, _⟩
      obtain rfl : j = 0 := by omega
      exact .inl ⟨by rw [h1], rfl⟩
  · obtain ⟨D, hD, hf⟩ := BMap.made W4 62
    exact BMap.iff ⟨D, hD.mono (by omega), hf⟩ (fun l => ⟨fun h => h.elim, fun ⟨j, h1, h2, _⟩ => by omega⟩)

set_option maxRecDepth 100000 in
set_option maxHeartbeats 6400000 in
theorem Right_any (nx : Int) (v : Value) (L : List ND) (w : World) (h : NRow w v L) (hl : L.length ≤ 1000000) (hin : ∀ k, k < L.length → inN (getN L k)) (hbig : ∀ k, k < L.length → bigN (getN L k) ∧ (getN L k).nm.length ≤ 100000) :
    Calls Try.prog 16 #[treeV nx v] w fun e w' => GivesB (RightP nx L) e ∧ Below w.heap.size w w' := by
  obtain ⟨W, hW, hB0, hs0, hT0⟩ := start_t w nx v
  have HU := Lib.hid h
  replace hW := Lib.hid hW
  have HB0 := Lib.hid hB0
  have hs := Lib.hid hs0
  have HT := Lib.hid hT0
  have c1 := hT0.c1
  obtain ⟨q, cap, rfl, hc, hm, _⟩ := h
  have hm2 := hm
  unfold maxLen at hm
  have hin := Lib.hid hin
  have hbig := Lib.hid hbig
  unfold treeV
  clear hB0 hs0 hT0
  by_cases h0 : L.length = 0
  · have hres := Lib.hid (first_none (nx := nx) (L := L) (fun hh => by have := hh.1; omega))
    have h1 : ((L.length : Int) == 0) = true := by rw [h0]; rfl
    clear h0
    go_enter Try.func16, Try.ntmps16
    go_wp2_with (simp only [hW.out])
    go_ret
    exact ⟨GivesB.mk' false hres.out, HB0.out⟩
  have h1 : ((L.length : Int) == 0) = false := beq_eq_false_iff_ne.2 (by omega)
  by_cases h1024 : 1024 < L.length
  · have hres := Lib.hid (first_none (nx := nx) (L := L) (fun hh => by have := hh.2.1; omega))
    have h2 : (1024 : Int) < (L.length : Int) := by omega
    go_enter Try.func16, Try.ntmps16
    go_wp2_with (simp only [hW.out])
    go_ret
    exact ⟨GivesB.mk' false hres.out, HB0.out⟩
  have h2 : ¬ (1024 : Int) < (L.length : Int) := by omega
  obtain ⟨b, o, cap', hv, hb, hcl, hcl2, hrr⟩ := HU.out.form (by omega)
  obtain ⟨rfl, rfl⟩ : q = some ⟨b, o, none⟩ ∧ cap = cap' := by injection hv with h1 h2 h3; exact ⟨h1, h3⟩
  have hrg := hrr W HB0.out 0 (by omega)
  rw [Nat.zero_mul, Nat.add_zero] at hrg
  replace hrg := Lib.hid hrg
  have hR := Lib.hid (fun W' => isRoot_any (getN L 0) (hin.out 0 (by omega)) (hbig.out 0 (by omega)).1 W')
  have hrr := Lib.hid hrr
  have k0 : (0 : Int) < (L.length : Int) := by omega
  cases hroot : rootB (getN L 0) with
  | false =>
    have hres := Lib.hid (first_none (nx := nx) (L := L) (fun hh => by have := hh.2.2; rw [hroot] at this; cases this))
    rw [hroot] at hR
    unfold nodeV at hR
    clear hv
    generalize getN L 0 = r at *
    go_enter Try.func16, Try.ntmps16
    go_wp2_with (first
      | (refine wpList_gload_mid (by rfl) 31 _ rfl b o rfl (cellsN r) _ hrg.out Try.underlying31 rfl (by kernel_rfl) ?_)
      | (go_at_call 38; refine (hR.out _).mono ?_; rintro e w' ⟨rfl, hB1⟩; have HB1 := Lib.hid (HB0.out.trans (hB1.mono HB0.out.size)); clear hB1)
      | simp only [hW.out])
    go_ret
    exact ⟨GivesB.mk' false hres.out, HB1.out⟩
  | true =>
    have hst := Lib.hid (fun w2 hB => start_maps (w := W) (w2 := w2) (L := L) hB hroot)
    have hr1 : (getN L 0).id = 1 := by
      unfold rootB at hroot
      simp only [Bool.and_eq_true, decide_eq_true_eq] at hroot
      exact hroot.1.1
    have hfin := Lib.hid (fun (ha : ∀ k, 1 ≤ k → k < L.length → passP L k) (hx : (getN L (L.length - 1)).id < nx) (hy : nx ≤ 1048576) => (show RightP nx L from ⟨by omega, by omega, hroot, ha, hx, hy⟩))
    rw [hroot] at hR
    unfold nodeV at hR
    clear hv
    by_cases hcap1 : cap = 1
    · subst hcap1
      generalize hrn : getN L 0 = r at hR hrg hr1
      have hmm := @run_makeMap Try.prog
      go_enter Try.func16, Try.ntmps16
      go_wp2_with (first
        | (refine wpList_gload_mid (by rfl) 31 _ rfl b o rfl (cellsN r) _ hrg.out Try.underlying31 rfl (by kernel_rfl) ?_)
        | (go_at_call 38; refine (hR.out _).mono ?_; rintro e w2 ⟨rfl, hB1⟩; obtain ⟨W4, hrun, hM⟩ := hst.out w2 hB1; have c2 := (HT.out.below hM.bel (by rw [hs.out]; omega)).c1; have HM := Lib.hid hM; clear hB1 hM)
        | simp only [hW.out])
      clear hrg hR hst hrun c1 c2 hroot k0 hW
      go_loopw [4, 34] (fun v4 v34 wr => ∃ i : Nat, v34 = .int .i64 (i : Int) ∧ v4 = .int .i64 (getN L i).id ∧ i + 1 ≤ L.length ∧ Hid (∀ k, 1 ≤ k → k ≤ i → passP L k) ∧ Hid (MSt W L w2.heap.size W4.heap.size (i + 1) (i + 1) wr)) (fun _ v34 _ => L.length - (intOf v34).toNat)
      case atStart => exact ⟨0, rfl, by rw [hrn, hr1], by omega, fun k h1 h2 => by omega, HM⟩
      case round =>
        obtain ⟨i, rfl, rfl, hi, HA, HMr⟩ := hrel
        have hlt : ¬ i + 1 < L.length := by omega
        have hk1 : ¬ (i : Int) < ((L.length - 1 : Nat) : Int) := by omega
        have hil : L.length - 1 = i := by omega
        have hall : ∀ k, 1 ≤ k → k < L.length → passP L k := fun k h1 h2 => HA.out k h1 (by omega)
        have hfin2 := hfin.out hall
        rw [hil] at hfin2
        have hno : RightP nx L → (getN L i).id < nx ∧ nx ≤ 1048576 := fun hR => ⟨by have := hR.2.2.2.2.1; rwa [hil] at this, hR.2.2.2.2.2⟩
        have HBf := Lib.hid (HB0.out.trans (HMr.out.bel.mono (by rw [hs.out]; omega)))
        have c0 := (HT.out.below HMr.out.bel (by rw [hs.out]; omega)).c0
        generalize (getN L i).id = last at *
        clear HA HMr HM hall hil
        by_cases ha : last < nx
        · by_cases hb2 : nx ≤ 1048576
          · have hres := Lib.hid (hfin2 ha hb2)
            clear hno hfin2
            go_wp2
            go_ret
            exact ⟨GivesB.mk' true ⟨fun _ => hres.out, fun _ => rfl⟩, HBf.out⟩
          · have hres := Lib.hid (show (false = true ↔ RightP nx L) from ⟨fun e => absurd e (by simp), fun hR => absurd (hno hR).2 hb2⟩)
            clear hno hfin2
            go_wp2
            go_ret
            exact ⟨GivesB.mk' false hres.out, HBf.out⟩
        · have hres := Lib.hid (show (false = true ↔ RightP nx L) from ⟨fun e => absurd e (by simp), fun hR => absurd (hno hR).1 ha⟩)
          clear hno hfin2
          go_wp2
          go_ret
          exact ⟨GivesB.mk' false hres.out, HBf.out⟩
    · generalize hrn : getN L 0 = r at hR hrg hr1
      have hmm := @run_makeMap Try.prog
      go_enter Try.func16, Try.ntmps16
      go_wp2_with (first
        | (refine wpList_gload_mid (by rfl) 31 _ rfl b o rfl (cellsN r) _ hrg.out Try.underlying31 rfl (by kernel_rfl) ?_)
        | (go_at_call 38; refine (hR.out _).mono ?_; rintro e w2 ⟨rfl, hB1⟩; obtain ⟨W4, hrun, hM⟩ := hst.out w2 hB1; have c2 := (HT.out.below hM.bel (by rw [hs.out]; omega)).c1; have HM := Lib.hid hM; clear hB1 hM)
        | simp only [hW.out])
      clear hrg hR hst hrun c1 c2 hroot k0 hW
      go_loopw [4, 34] (fun v4 v34 wr => ∃ i : Nat, v34 = .int .i64 (i : Int) ∧ v4 = .int .i64 (getN L i).id ∧ i + 1 ≤ L.length ∧ Hid (∀ k, 1 ≤ k → k ≤ i → passP L k) ∧ Hid (MSt W L w2.heap.size W4.heap.size (i + 1) (i + 1) wr)) (fun _ v34 _ => L.length - (intOf v34).toNat)
      case atStart => exact ⟨0, rfl, by rw [hrn, hr1], by omega, fun k h1 h2 => by omega, HM⟩
      case round =>
        obtain ⟨i, rfl, rfl, hi, HA, HMr⟩ := hrel
        by_cases hlt : i + 1 < L.length
        · have hrg := hrr.out wr (HB0.out.trans (HMr.out.bel.mono (by rw [hs.out]; omega))) (i + 1) hlt
          rw [show o + (i + 1) * 11 = o + 11 + i * 11 by omega] at hrg
          have hPass := Lib.hid (passP_succ L i)
          have hIn := hin.out (i + 1) hlt
          have hBig := hbig.out (i + 1) hlt
          have hP1 := Lib.hid (fun W' (h : MSt W L w2.heap.size W4.heap.size (i + 1) (i + 1) W') (hr : ∀ j, j < i + 1 → (getN L j).id < (getN L (i + 1)).id) => h.put1 (by unfold maxLen; omega) hIn.1 hr)
          have hP2 := Lib.hid (fun W' (h : MSt W L w2.heap.size W4.heap.size (i + 1 + 1) (i + 1) W') => h.put2 (by unfold maxLen; omega) (by omega) hIn.2.1 hBig.1.1)
          have hLi := Lib.hid (fun W' => hasLimits_any (getN L (i + 1)) hIn hBig.1 W')
          have hVa := Lib.hid (fun W' => Valid_any (mk (getN L (i + 1)).nm) (by rw [mk_size]; exact hBig.2) W')
          have hrise := Lib.hid (fun (h : (getN L i).id < (getN L (i + 1)).id) => rise_lt (L := L) (k := i + 1) (fun j h1 h2 => by
            by_cases e : j = i + 1
            · subst e; exact h
            · exact (HA.out j h1 (by omega)).1))
          have HAn := Lib.hid (fun (h : passP L (i + 1)) => (fun k h1 h2 => by
            by_cases e : k = i + 1
            · subst e; exact h
            · exact HA.out k h1 (by omega) : ∀ k, 1 ≤ k → k ≤ i + 1 → passP L k))
          obtain ⟨Wb, hWb, hBb, hNb, hEb, hsb⟩ := lay_ne wr (getN L (i + 1))
          have HMb := Lib.hid (HMr.out.go hBb)
          obtain ⟨x1, hL1, hx1⟩ := HMb.out.look1 hIn.2.1
          obtain ⟨x2, hL2, hx2⟩ := HMb.out.look2 hIn.2.1 hBig.1.1
          have s0 := (BlkN.new wr (getN L (i + 1))).cell 1
          have s3 := (BlkN.new wr (getN L (i + 1))).cell 3
          have t0 := hNb.cell 0
          have t1 := hNb.cell 1
          have t3 := hNb.cell 3
          have k1 : (i : Int) < ((L.length - 1 : Nat) : Int) := by omega
          have k2 : (0 : Int) ≤ (i : Int) := by omega
          unfold nodeV at hLi
          unfold entryV at hL2
          rw [mk_data] at hVa
          simp only [cellsN, List.getElem?_cons_zero, List.getElem?_cons_succ] at s0 s3 t0 t1 t3
          replace hx1 := Lib.hid hx1
          replace hx2 := Lib.hid hx2
          replace hWb := Lib.hid hWb
          replace hNb := Lib.hid hNb
          replace hEb := Lib.hid hEb
          replace hrg := Lib.hid hrg
          have hsw := HMr.out.bel.size
          clear hBb hsb hIn hBig
          generalize hgn : getN L (i + 1) = n at *
          replace hgn := Lib.hid hgn
          generalize hgl : (getN L i).id = last at *
          replace hgl := Lib.hid hgl
          by_cases hid : n.id ≤ last
          · have hres := Lib.hid (fail_at (nx := nx) hlt (by rw [hPass.out]; exact fun hh => by have := hh.1; omega))
            clear HA hPass
            go_wp2_with (first
                  | (refine wpList_load_mid rfl 31 _ rfl b (o + 11 + i * 11) rfl (cellsN n) _ hrg.out Try.underlying31 rfl (by kernel_rfl) ?_)
                  | (refine wpList_store_row rfl 31 _ _ rfl wr.heap.size (cellsA n) rfl rfl 31 (cellsA noN) (heap_alloc_new wr _) (by kernel_rfl) rfl (cellsA_one n) ?_; rw [World.setRow_alloc_new])
                  | (refine wpList_store_row rfl 62 _ _ rfl (wr.heap.size + 1) #[.int .i64 n.pa, .string (mk n.nm)] rfl rfl 62 #[.int .i64 0, .string ⟨#[]⟩] (heap2 wr _ _) (by kernel_rfl) rfl (by simp [Value.oneCell']) ?_; rw [setRow2, hWb.out])
                  | (refine wpList_gload_row (by rfl) 62 _ rfl (wr.heap.size + 1) rfl 62 #[.int .i64 n.pa, .string (mk n.nm)] (0, 0) _ hEb.out Try.underlying62 rfl (by kernel_rfl) ?_)
                  | (refine wpList_gload_row (by rfl) 31 _ rfl wr.heap.size rfl 31 (cellsA n) (0, 0) _ hNb.out Try.underlying31 rfl (by kernel_rfl) ?_)
                  | (go_at_call 39; refine (hVa.out _).mono ?_; rintro e w' ⟨rfl, rfl⟩)
                  | (go_at_call 40; refine (hLi.out _).mono ?_; rintro e w6 ⟨rfl, hB6⟩; have HM6 := Lib.hid (HMb.out.go hB6); have HN6 := Lib.hid (show BlkN w6 wr.heap.size n from (hB6.block _ hNb.out.lt).trans hNb.out); have HE6 := Lib.hid ((hB6.block _ (Array.getElem?_eq_some_iff.1 hEb.out).1).trans hEb.out); have c60 : w6.cell? ⟨wr.heap.size, 0, none⟩ = some (.int .i64 n.id) := HN6.out.cell 0; clear hB6))
            go_ret
            exact ⟨GivesB.mk' false hres.out, HB0.out.trans ((HMb.out.bel).mono (by rw [hs.out]; omega))⟩
          · have hid2 : last < n.id := by omega
            cases x1 with
            | false =>
              have hres := Lib.hid (fail_at (nx := nx) hlt (by rw [hPass.out]; exact fun hh => by have := hx1.out.2 hh.2.1; cases this))
              clear HA hPass
              go_wp2_with (first
                    | (refine wpList_load_mid rfl 31 _ rfl b (o + 11 + i * 11) rfl (cellsN n) _ hrg.out Try.underlying31 rfl (by kernel_rfl) ?_)
                    | (refine wpList_store_row rfl 31 _ _ rfl wr.heap.size (cellsA n) rfl rfl 31 (cellsA noN) (heap_alloc_new wr _) (by kernel_rfl) rfl (cellsA_one n) ?_; rw [World.setRow_alloc_new])
                    | (refine wpList_store_row rfl 62 _ _ rfl (wr.heap.size + 1) #[.int .i64 n.pa, .string (mk n.nm)] rfl rfl 62 #[.int .i64 0, .string ⟨#[]⟩] (heap2 wr _ _) (by kernel_rfl) rfl (by simp [Value.oneCell']) ?_; rw [setRow2, hWb.out])
                    | (refine wpList_gload_row (by rfl) 62 _ rfl (wr.heap.size + 1) rfl 62 #[.int .i64 n.pa, .string (mk n.nm)] (0, 0) _ hEb.out Try.underlying62 rfl (by kernel_rfl) ?_)
                    | (refine wpList_gload_row (by rfl) 31 _ rfl wr.heap.size rfl 31 (cellsA n) (0, 0) _ hNb.out Try.underlying31 rfl (by kernel_rfl) ?_)
                    | (go_at_call 39; refine (hVa.out _).mono ?_; rintro e w' ⟨rfl, rfl⟩)
                    | (go_at_call 40; refine (hLi.out _).mono ?_; rintro e w6 ⟨rfl, hB6⟩; have HM6 := Lib.hid (HMb.out.go hB6); have HN6 := Lib.hid (show BlkN w6 wr.heap.size n from (hB6.block _ hNb.out.lt).trans hNb.out); have HE6 := Lib.hid ((hB6.block _ (Array.getElem?_eq_some_iff.1 hEb.out).1).trans hEb.out); have c60 : w6.cell? ⟨wr.heap.size, 0, none⟩ = some (.int .i64 n.id) := HN6.out.cell 0; clear hB6))
              go_ret
              exact ⟨GivesB.mk' false hres.out, HB0.out.trans ((HMb.out.bel).mono (by rw [hs.out]; omega))⟩
            | true =>
              cases hva : validL n.nm with
              | false =>
                rw [hva] at hVa
                have hres := Lib.hid (fail_at (nx := nx) hlt (by rw [hPass.out]; exact fun hh => by have := hh.2.2.1; rw [hva] at this; cases this))
                clear HA hPass
                go_wp2_with (first
                      | (refine wpList_load_mid rfl 31 _ rfl b (o + 11 + i * 11) rfl (cellsN n) _ hrg.out Try.underlying31 rfl (by kernel_rfl) ?_)
                      | (refine wpList_store_row rfl 31 _ _ rfl wr.heap.size (cellsA n) rfl rfl 31 (cellsA noN) (heap_alloc_new wr _) (by kernel_rfl) rfl (cellsA_one n) ?_; rw [World.setRow_alloc_new])
                      | (refine wpList_store_row rfl 62 _ _ rfl (wr.heap.size + 1) #[.int .i64 n.pa, .string (mk n.nm)] rfl rfl 62 #[.int .i64 0, .string ⟨#[]⟩] (heap2 wr _ _) (by kernel_rfl) rfl (by simp [Value.oneCell']) ?_; rw [setRow2, hWb.out])
                      | (refine wpList_gload_row (by rfl) 62 _ rfl (wr.heap.size + 1) rfl 62 #[.int .i64 n.pa, .string (mk n.nm)] (0, 0) _ hEb.out Try.underlying62 rfl (by kernel_rfl) ?_)
                      | (refine wpList_gload_row (by rfl) 31 _ rfl wr.heap.size rfl 31 (cellsA n) (0, 0) _ hNb.out Try.underlying31 rfl (by kernel_rfl) ?_)
                      | (go_at_call 39; refine (hVa.out _).mono ?_; rintro e w' ⟨rfl, rfl⟩)
                      | (go_at_call 40; refine (hLi.out _).mono ?_; rintro e w6 ⟨rfl, hB6⟩; have HM6 := Lib.hid (HMb.out.go hB6); have HN6 := Lib.hid (show BlkN w6 wr.heap.size n from (hB6.block _ hNb.out.lt).trans hNb.out); have HE6 := Lib.hid ((hB6.block _ (Array.getElem?_eq_some_iff.1 hEb.out).1).trans hEb.out); have c60 : w6.cell? ⟨wr.heap.size, 0, none⟩ = some (.int .i64 n.id) := HN6.out.cell 0; clear hB6))
                go_ret
                exact ⟨GivesB.mk' false hres.out, HB0.out.trans ((HMb.out.bel).mono (by rw [hs.out]; omega))⟩
              | true =>
                rw [hva] at hVa
                cases x2 with
                | true =>
                  have hres := Lib.hid (fail_at (nx := nx) hlt (by rw [hPass.out]; exact fun hh => hh.2.2.2.1 (hx2.out.1 rfl)))
                  clear HA hPass
                  go_wp2_with (first
                        | (refine wpList_load_mid rfl 31 _ rfl b (o + 11 + i * 11) rfl (cellsN n) _ hrg.out Try.underlying31 rfl (by kernel_rfl) ?_)
                        | (refine wpList_store_row rfl 31 _ _ rfl wr.heap.size (cellsA n) rfl rfl 31 (cellsA noN) (heap_alloc_new wr _) (by kernel_rfl) rfl (cellsA_one n) ?_; rw [World.setRow_alloc_new])
                        | (refine wpList_store_row rfl 62 _ _ rfl (wr.heap.size + 1) #[.int .i64 n.pa, .string (mk n.nm)] rfl rfl 62 #[.int .i64 0, .string ⟨#[]⟩] (heap2 wr _ _) (by kernel_rfl) rfl (by simp [Value.oneCell']) ?_; rw [setRow2, hWb.out])
                        | (refine wpList_gload_row (by rfl) 62 _ rfl (wr.heap.size + 1) rfl 62 #[.int .i64 n.pa, .string (mk n.nm)] (0, 0) _ hEb.out Try.underlying62 rfl (by kernel_rfl) ?_)
                        | (refine wpList_gload_row (by rfl) 31 _ rfl wr.heap.size rfl 31 (cellsA n) (0, 0) _ hNb.out Try.underlying31 rfl (by kernel_rfl) ?_)
                        | (go_at_call 39; refine (hVa.out _).mono ?_; rintro e w' ⟨rfl, rfl⟩)
                        | (go_at_call 40; refine (hLi.out _).mono ?_; rintro e w6 ⟨rfl, hB6⟩; have HM6 := Lib.hid (HMb.out.go hB6); have HN6 := Lib.hid (show BlkN w6 wr.heap.size n from (hB6.block _ hNb.out.lt).trans hNb.out); have HE6 := Lib.hid ((hB6.block _ (Array.getElem?_eq_some_iff.1 hEb.out).1).trans hEb.out); have c60 : w6.cell? ⟨wr.heap.size, 0, none⟩ = some (.int .i64 n.id) := HN6.out.cell 0; clear hB6))
                  go_ret
                  exact ⟨GivesB.mk' false hres.out, HB0.out.trans ((HMb.out.bel).mono (by rw [hs.out]; omega))⟩
                | false =>
                  cases hfi : fieldsB n with
                  | false =>
                    rw [hfi] at hLi
                    have hres := Lib.hid (fail_at (nx := nx) hlt (by rw [hPass.out]; exact fun hh => by have := hh.2.2.2.2; rw [hfi] at this; cases this))
                    clear HA hPass
                    go_wp2_with (first
                          | (refine wpList_load_mid rfl 31 _ rfl b (o + 11 + i * 11) rfl (cellsN n) _ hrg.out Try.underlying31 rfl (by kernel_rfl) ?_)
                          | (refine wpList_store_row rfl 31 _ _ rfl wr.heap.size (cellsA n) rfl rfl 31 (cellsA noN) (heap_alloc_new wr _) (by kernel_rfl) rfl (cellsA_one n) ?_; rw [World.setRow_alloc_new])
                          | (refine wpList_store_row rfl 62 _ _ rfl (wr.heap.size + 1) #[.int .i64 n.pa, .string (mk n.nm)] rfl rfl 62 #[.int .i64 0, .string ⟨#[]⟩] (heap2 wr _ _) (by kernel_rfl) rfl (by simp [Value.oneCell']) ?_; rw [setRow2, hWb.out])
                          | (refine wpList_gload_row (by rfl) 62 _ rfl (wr.heap.size + 1) rfl 62 #[.int .i64 n.pa, .string (mk n.nm)] (0, 0) _ hEb.out Try.underlying62 rfl (by kernel_rfl) ?_)
                          | (refine wpList_gload_row (by rfl) 31 _ rfl wr.heap.size rfl 31 (cellsA n) (0, 0) _ hNb.out Try.underlying31 rfl (by kernel_rfl) ?_)
                          | (go_at_call 39; refine (hVa.out _).mono ?_; rintro e w' ⟨rfl, rfl⟩)
                          | (go_at_call 40; refine (hLi.out _).mono ?_; rintro e w6 ⟨rfl, hB6⟩; have HM6 := Lib.hid (HMb.out.go hB6); have HN6 := Lib.hid (show BlkN w6 wr.heap.size n from (hB6.block _ hNb.out.lt).trans hNb.out); have HE6 := Lib.hid ((hB6.block _ (Array.getElem?_eq_some_iff.1 hEb.out).1).trans hEb.out); have c60 : w6.cell? ⟨wr.heap.size, 0, none⟩ = some (.int .i64 n.id) := HN6.out.cell 0; clear hB6))
                    go_ret
                    exact ⟨GivesB.mk' false hres.out, HB0.out.trans ((HM6.out.bel).mono (by rw [hs.out]; omega))⟩
                  | true =>
                    rw [hfi] at hLi
                    have hps : passP L (i + 1) := by
                      rw [hPass.out]
                      exact ⟨hid2, hx1.out.1 rfl, hva, fun hh => absurd (hx2.out.2 hh) (by simp), hfi⟩
                    have HA2 := Lib.hid (HAn.out hps)
                    have Hrl := Lib.hid (hrise.out hid2)
                    clear HA hPass HAn hps hrise
                    go_wp2_with (first
                          | (refine wpList_load_mid rfl 31 _ rfl b (o + 11 + i * 11) rfl (cellsN n) _ hrg.out Try.underlying31 rfl (by kernel_rfl) ?_)
                          | (refine wpList_store_row rfl 31 _ _ rfl wr.heap.size (cellsA n) rfl rfl 31 (cellsA noN) (heap_alloc_new wr _) (by kernel_rfl) rfl (cellsA_one n) ?_; rw [World.setRow_alloc_new])
                          | (refine wpList_store_row rfl 62 _ _ rfl (wr.heap.size + 1) #[.int .i64 n.pa, .string (mk n.nm)] rfl rfl 62 #[.int .i64 0, .string ⟨#[]⟩] (heap2 wr _ _) (by kernel_rfl) rfl (by simp [Value.oneCell']) ?_; rw [setRow2, hWb.out])
                          | (refine wpList_gload_row (by rfl) 62 _ rfl (wr.heap.size + 1) rfl 62 #[.int .i64 n.pa, .string (mk n.nm)] (0, 0) _ hEb.out Try.underlying62 rfl (by kernel_rfl) ?_)
                          | (refine wpList_gload_row (by rfl) 31 _ rfl wr.heap.size rfl 31 (cellsA n) (0, 0) _ hNb.out Try.underlying31 rfl (by kernel_rfl) ?_)
                          | (go_at_call 39; refine (hVa.out _).mono ?_; rintro e w' ⟨rfl, rfl⟩)
                          | (go_at_call 40; refine (hLi.out _).mono ?_; rintro e w6 ⟨rfl, hB6⟩; have HM6 := Lib.hid (HMb.out.go hB6); have HN6 := Lib.hid (show BlkN w6 wr.heap.size n from (hB6.block _ hNb.out.lt).trans hNb.out); have HE6 := Lib.hid ((hB6.block _ (Array.getElem?_eq_some_iff.1 hEb.out).1).trans hEb.out); have c60 : w6.cell? ⟨wr.heap.size, 0, none⟩ = some (.int .i64 n.id) := HN6.out.cell 0; clear hB6))
                    have c6d : w6.drew.cell? ⟨wr.heap.size, 0, none⟩ = some (.int .i64 n.id) := c60
                    have c64 : w6.drew.cell? ⟨wr.heap.size, 4, none⟩ = some (.int .i64 n.mo) := HN6.out.cell 4
                    obtain ⟨w7, hrun7, hM7, hg7⟩ := hP1.out w6.drew HM6.out.drew Hrl.out
                    obtain ⟨w8, hrun8, hM8, hg8⟩ := hP2.out w7 hM7
                    unfold entryV at hrun8
                    have HM8 := Lib.hid hM8
                    have HE7 := Lib.hid ((hg7.block _ (Array.getElem?_eq_some_iff.1 HE6.out).1 (fun e => by have := HM6.out.m1.isMapAt; obtain ⟨es, ck, hb⟩ := this; rw [← (Option.some.inj e), HE6.out] at hb; cases hb)).trans HE6.out)
                    have HN7 := Lib.hid (show BlkN w7 wr.heap.size n from (hg7.block _ HN6.out.lt (fun e => by have := HM6.out.m1.isMapAt; obtain ⟨es, ck, hb⟩ := this; have hn := HN6.out; unfold BlkN at hn; rw [← (Option.some.inj e), hn] at hb; cases hb)).trans HN6.out)
                    have hD := Lib.hid (fun W' => isDir_any n.mo W')
                    clear hM7 hM8 hg7 hg8
                    refine wp_region_held_drew (S := fun W' => BlkN W' wr.heap.size n) (by kernel_rfl) (HN6.out) (fun hHeld => ?_)
                    refine takeD (i := 0) (oi := _) (d := some 72) (v := .map (some w2.heap.size)) rfl rfl (by kernel_rfl) (by kernel_rfl) (by kernel_rfl) (fun _ _ _ h => h) (Or.inl ⟨by rfl, fun W' hSw => by have x0 : W'.cell? ⟨wr.heap.size, 0, none⟩ = some (.int .i64 n.id) := hSw.cell 0; have x4 : W'.cell? ⟨wr.heap.size, 4, none⟩ = some (.int .i64 n.mo) := hSw.cell 4; go_simp⟩) (by assumption) ?_
                    try simp only [Act.put, List.setIfInBounds_toArray, List.set_cons_zero, List.set_cons_succ]
                    refine takeD (i := 1) (oi := _) (d := some 73) (v := .pointer (some ⟨wr.heap.size, 0, none⟩)) rfl rfl (by kernel_rfl) (by kernel_rfl) (by kernel_rfl) (fun _ _ _ h => h) (Or.inl ⟨by rfl, fun W' hSw => by have x0 : W'.cell? ⟨wr.heap.size, 0, none⟩ = some (.int .i64 n.id) := hSw.cell 0; have x4 : W'.cell? ⟨wr.heap.size, 4, none⟩ = some (.int .i64 n.mo) := hSw.cell 4; go_simp⟩) (by assumption) ?_
                    try simp only [Act.put, List.setIfInBounds_toArray, List.set_cons_zero, List.set_cons_succ]
                    refine takeD (i := 2) (oi := _) (d := some 74) (v := .int .i64 n.id) rfl rfl (by kernel_rfl) (by kernel_rfl) (by kernel_rfl) (fun _ _ _ h => h) (Or.inl ⟨by rfl, fun W' hSw => by have x0 : W'.cell? ⟨wr.heap.size, 0, none⟩ = some (.int .i64 n.id) := hSw.cell 0; have x4 : W'.cell? ⟨wr.heap.size, 4, none⟩ = some (.int .i64 n.mo) := hSw.cell 4; go_simp⟩) (by assumption) ?_
                    try simp only [Act.put, List.setIfInBounds_toArray, List.set_cons_zero, List.set_cons_succ]
                    refine takeD (i := 3) (oi := _) (d := some 75) (v := .pointer (some ⟨wr.heap.size, 4, none⟩)) rfl rfl (by kernel_rfl) (by kernel_rfl) (by kernel_rfl) (fun _ _ _ h => h) (Or.inl ⟨by rfl, fun W' hSw => by have x0 : W'.cell? ⟨wr.heap.size, 0, none⟩ = some (.int .i64 n.id) := hSw.cell 0; have x4 : W'.cell? ⟨wr.heap.size, 4, none⟩ = some (.int .i64 n.mo) := hSw.cell 4; go_simp⟩) (by assumption) ?_
                    try simp only [Act.put, List.setIfInBounds_toArray, List.set_cons_zero, List.set_cons_succ]
                    refine takeD (i := 4) (oi := _) (d := some 76) (v := .int .i64 n.mo) rfl rfl (by kernel_rfl) (by kernel_rfl) (by kernel_rfl) (fun _ _ _ h => h) (Or.inl ⟨by rfl, fun W' hSw => by have x0 : W'.cell? ⟨wr.heap.size, 0, none⟩ = some (.int .i64 n.id) := hSw.cell 0; have x4 : W'.cell? ⟨wr.heap.size, 4, none⟩ = some (.int .i64 n.mo) := hSw.cell 4; go_simp⟩) (by assumption) ?_
                    try simp only [Act.put, List.setIfInBounds_toArray, List.set_cons_zero, List.set_cons_succ]
                    refine wpAnyH_ready (rs := [5]) (by kernel_rfl) (by simp) ?_
                    refine AllReadyH.cons (o := _) rfl (fun K hK => ?_) AllReadyH.nil
                    go_simp
                    refine (hD.out _).mono ?_
                    rintro e w' ⟨rfl, rfl⟩
                    refine hK.out _ _ (hHeld) (fun hHeld => ?_)
                    clear hK K
                    try simp only [Act.put, List.setIfInBounds_toArray, List.set_cons_zero, List.set_cons_succ]
                    refine wpAnyH_ready (rs := [6]) (by kernel_rfl) (by simp) ?_
                    refine AllReadyH.cons (o := _) rfl (fun K hK => ?_) AllReadyH.nil
                    go_simp
                    refine hK.out _ _ (HN7.out) (fun hHeld => ?_)
                    clear hK K
                    try simp only [Act.put, List.setIfInBounds_toArray, List.set_cons_zero, List.set_cons_succ]
                    refine wpAnyH_done (by kernel_rfl) ?_ _
                    go_wp2_with (refine wpList_load_row rfl 62 _ rfl (wr.heap.size + 1) rfl 62 #[.int .i64 n.pa, .string (mk n.nm)] (0, 0) _ HE7.out Try.underlying62 rfl (by kernel_rfl) ?_)
                    exact ⟨⟨i + 1, by go_num, by rw [hgn.out], by omega, HA2, HM8⟩, by simp [intOf]; omega⟩
        · skip
          have hk1 : ¬ (i : Int) < ((L.length - 1 : Nat) : Int) := by omega
          have hil : L.length - 1 = i := by omega
          have hall : ∀ k, 1 ≤ k → k < L.length → passP L k := fun k h1 h2 => HA.out k h1 (by omega)
          have hfin2 := hfin.out hall
          rw [hil] at hfin2
          have hno : RightP nx L → (getN L i).id < nx ∧ nx ≤ 1048576 := fun hR => ⟨by have := hR.2.2.2.2.1; rwa [hil] at this, hR.2.2.2.2.2⟩
          have HBf := Lib.hid (HB0.out.trans (HMr.out.bel.mono (by rw [hs.out]; omega)))
          have c0 := (HT.out.below HMr.out.bel (by rw [hs.out]; omega)).c0
          generalize (getN L i).id = last at *
          clear HA HMr HM hall hil
          by_cases ha : last < nx
          · by_cases hb2 : nx ≤ 1048576
            · have hres := Lib.hid (hfin2 ha hb2)
              clear hno hfin2
              go_wp2
              go_ret
              exact ⟨GivesB.mk' true ⟨fun _ => hres.out, fun _ => rfl⟩, HBf.out⟩
            · have hres := Lib.hid (show (false = true ↔ RightP nx L) from ⟨fun e => absurd e (by simp), fun hR => absurd (hno hR).2 hb2⟩)
              clear hno hfin2
              go_wp2
              go_ret
              exact ⟨GivesB.mk' false hres.out, HBf.out⟩
          · have hres := Lib.hid (show (false = true ↔ RightP nx L) from ⟨fun e => absurd e (by simp), fun hR => absurd (hno hR).1 ha⟩)
            clear hno hfin2
            go_wp2
            go_ret
            exact ⟨GivesB.mk' false hres.out, HBf.out⟩
end Go.Proofs.Ytalhkoolpnmcdaa
