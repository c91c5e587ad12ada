/-
  The reader: a description.
-/
import Derived.Test.YtlfdmbfbfadifaaGreatDoorZd
import Derived.Deep.CutRange
namespace Go.Proofs.YtlfdmbfbfadifaaGreatDoor
open Go.RowKit

/-- An operation is taken first; its slot is written out. -/
theorem takeY {P : Program} {ops : Array Oper} {Q : Exit → Act → World → Prop} {md : Region.Mode} {S : World → Prop} {i : Nat} {oi : Oper} {v : Value} {d : Option Tmp} {fuel : Nat} {listed : Array Bool} {a : Act} {w : World} (hi : ops[i]? = some oi) (hd : oi.dst = d)
    (hs : Region.noSelect ops = true) (hf : Region.free md ops listed i = true) (hr : (Region.ready md ops listed).contains i = true)
    (hQ : ∀ c a w, Q (.panic c) (a.put d v) w → Q (.panic c) a w) (hy : YieldsIf P ops S oi v a) (hS : S w)
    (h : wpAnyH P md ops Q S fuel (listed.setIfInBounds i true) (a.put d v) w) : wpAnyH P md ops Q S (fuel + 1) listed a w := by
  subst hd
  exact wpAnyH_take hi hs hf hr hQ hy hS h
/-- The cells of a description, written out. -/
def cells13A (d : DD) : Array Value := #[.int .i64 d.ty, .int .i64 d.dv, .int .i64 d.qt, .int .i64 d.qv, .int .i64 d.qp, .int .i64 d.mo, .int .i64 d.ai, .int .i64 d.mi, .int .i64 d.ln, .string (mk d.nm), .string (mk d.ui), .string (mk d.gi), .string (mk d.mu)]
def setRange (cs : Array Value) : Nat → List Value → Array Value
  | _, [] => cs
  | o, v :: r => setRange (cs.setIfInBounds o v) (o + 1) r
theorem setCells_heap {b : Nat} {t : TypeId} : ∀ (vs : List Value) (o : Nat) (w : World) (cs : Array Value), w.heap[b]? = some (.cells cs t (0, 0)) → (w.setCells b o vs).heap[b]? = some (.cells (setRange cs o vs) t (0, 0))
  | [], _, _, _, h => h
  | v :: r, o, w, cs, h => setCells_heap r (o + 1) (w.setCell ⟨b, o, none⟩ v) (cs.setIfInBounds o v) (set_heap h)
theorem range13 (d e : DD) : setRange (cellsA d) 0 (cellsD e) = cellsA e := by kernel_rfl
theorem range13m (m : MM) (e : DD) : setRange (cellsB m) 22 (cellsD e) = cellsB { m with st := e } := by kernel_rfl
theorem set13 {w : World} {b : Nat} {d e : DD} (h : BlkD w b d) : BlkD (w.setCells b 0 (cellsD e)) b e := by
  have := setCells_heap (cellsD e) 0 w _ h
  rw [range13] at this
  exact this
theorem set13m {w : World} {g : Nat} {m : MM} (e : DD) (h : BlkM w g m) : BlkM (w.setCells g 22 (cellsD e)) g { m with st := e } := by
  have := setCells_heap (cellsD e) 22 w _ h
  rw [range13m] at this
  exact this
theorem setCells_ne {_w : World} {b b' : Nat} (hb : b ≠ b') : ∀ (vs : List Value) (o : Nat) (w : World), (w.setCells b' o vs).heap[b]? = w.heap[b]?
  | [], _, _ => rfl
  | v :: r, o, w => (setCells_ne (_w := w) hb r (o + 1) (w.setCell ⟨b', o, none⟩ v)).trans (heap_ne hb)
theorem Kp.sets {k g : Nat} {W : World} (j : Nat) (hj : j = k ∨ j = g) : ∀ (vs : List Value) (o : Nat) (W' : World), Kp k g W W' → Kp k g W (W'.setCells j o vs)
  | [], _, _, h => h
  | v :: r, o, _, h => Kp.sets j hj r (o + 1) _ (h.set j o v hj)
theorem there_msg {w : World} {g : Nat} {m : MM} (h : BlkM w g m) : w.there g 22 13 := fun j hj => by
  refine ⟨?_, h.frozen _⟩
  rw [h.cell (22 + j), List.getElem?_eq_getElem (by show 22 + j < 39; omega)]
  rfl
/-- The reader behind the length; the description's block, once it is made. -/
def DSt (k : Nat) (b : List UInt8) (s : RS) (W w : World) : Prop := RdAt k b s w ∧ Kp k k W w
def DS1 (k : Nat) (b : List UInt8) (s : RS) (W : World) (d : DD) (j : Nat) (w : World) : Prop := DSt k b s W w ∧ W.heap.size ≤ j ∧ j ≠ k ∧ BlkD w j d
theorem DSt.go {k : Nat} {b : List UInt8} {s : RS} {W w w' : World} (h : DSt k b s W w) (hB : Below w.heap.size w w') : DSt k b s W w' := ⟨h.1.below hB, h.2.trans (Kp.of_below hB)⟩
theorem DSt.drew {k : Nat} {b : List UInt8} {s : RS} {W w : World} (h : DSt k b s W w) : DSt k b s W w.drew := ⟨h.1.drew, h.2.drew⟩
theorem DSt.new {k : Nat} {b : List UInt8} {s : RS} {W w : World} (h : DSt k b s W w) (d : DD) : DS1 k b s W d w.heap.size (w.alloc (.cells (cells13A d) 27)) :=
  ⟨h.go ((Below.refl _ _).alloc (Nat.le_refl _) _), h.2.size, by have := h.1.lt; omega, BlkD.new w d⟩
theorem DS1.go {k j : Nat} {b : List UInt8} {s : RS} {W w w' : World} {d : DD} (h : DS1 k b s W d j w) (hB : Below w.heap.size w w') : DS1 k b s W d j w' := ⟨h.1.go hB, h.2.1, h.2.2.1, h.2.2.2.below hB h.2.2.2.lt⟩
theorem DS1.drew {k j : Nat} {b : List UInt8} {s : RS} {W w : World} {d : DD} (h : DS1 k b s W d j w) : DS1 k b s W d j w.drew := ⟨h.1.drew, h.2.1, h.2.2.1, h.2.2.2⟩
theorem DS1.set {k j : Nat} {b : List UInt8} {s : RS} {W w : World} {d : DD} (h : DS1 k b s W d j w) (e : DD) : DS1 k b s W e j (w.setCells j 0 (cellsD e)) := by
  refine ⟨⟨(setCells_ne (_w := w) (fun e => h.2.2.1 e.symm) _ _ _).trans h.1.1, ?_⟩, h.2.1, h.2.2.1, set13 h.2.2.2⟩
  have hK := Kp.sets (k := k) (g := j) (W := W) j (.inr rfl) (cellsD e) 0 w h.1.2.self
  exact ⟨hK.os, hK.tape, hK.output, hK.size, fun i hi h1 _ => hK.block i hi h1 (by have := h.2.1; omega)⟩
theorem DSt.new0 {k : Nat} {b : List UInt8} {s : RS} {W w : World} (h : DSt k b s W w) : DS1 k b s W noD w.heap.size (w.alloc (.cells #[.int .i64 0, .int .i64 0, .int .i64 0, .int .i64 0, .int .i64 0, .int .i64 0, .int .i64 0, .int .i64 0, .int .i64 0, .string ⟨#[]⟩, .string ⟨#[]⟩, .string ⟨#[]⟩, .string ⟨#[]⟩] 27)) := h.new noD
theorem DSt.newE {k : Nat} {b : List UInt8} {s : RS} {W w : World} (h : DSt k b s W w) (d : DD) : DS1 k b s W d w.heap.size (w.alloc (.cells #[.int .i64 d.ty, .int .i64 d.dv, .int .i64 d.qt, .int .i64 d.qv, .int .i64 d.qp, .int .i64 d.mo, .int .i64 d.ai, .int .i64 d.mi, .int .i64 d.ln, .string (mk d.nm), .string (mk d.ui), .string (mk d.gi), .string (mk d.mu)] 27)) := h.new d
theorem DSt.kp {k : Nat} {b : List UInt8} {s : RS} {W w : World} (h : DSt k b s W w) : Kp k k W w := h.2
theorem DS1.st {k j : Nat} {b : List UInt8} {s : RS} {W w : World} {d : DD} (h : DS1 k b s W d j w) : DSt k b s W w := h.1
theorem DS1.z {k j : Nat} {b : List UInt8} {s : RS} {W w : World} {d : DD} (h : DS1 k b s W d j w) : w.cell? ⟨j, 0, none⟩ = some (.int .i64 d.ty) ∧ w.cell? ⟨j, 1, none⟩ = some (.int .i64 d.dv) ∧ w.cell? ⟨j, 2, none⟩ = some (.int .i64 d.qt) ∧ w.cell? ⟨j, 3, none⟩ = some (.int .i64 d.qv) ∧ w.cell? ⟨j, 4, none⟩ = some (.int .i64 d.qp) ∧ w.cell? ⟨j, 5, none⟩ = some (.int .i64 d.mo) ∧ w.cell? ⟨j, 6, none⟩ = some (.int .i64 d.ai) ∧ w.cell? ⟨j, 7, none⟩ = some (.int .i64 d.mi) ∧ w.cell? ⟨j, 8, none⟩ = some (.int .i64 d.ln) ∧ w.cell? ⟨j, 9, none⟩ = some (.string (mk d.nm)) ∧ w.cell? ⟨j, 10, none⟩ = some (.string (mk d.ui)) ∧ w.cell? ⟨j, 11, none⟩ = some (.string (mk d.gi)) ∧ w.cell? ⟨j, 12, none⟩ = some (.string (mk d.mu)) := cells13 h.2.2.2
theorem DS1.setE {k j : Nat} {b : List UInt8} {s : RS} {W w : World} {d : DD} (h : DS1 k b s W d j w) (e : DD) : DS1 k b s W e j (((((((((((((w.setCell ⟨j, 0, none⟩ (.int .i64 e.ty)).setCell ⟨j, 1, none⟩ (.int .i64 e.dv)).setCell ⟨j, 2, none⟩ (.int .i64 e.qt)).setCell ⟨j, 3, none⟩ (.int .i64 e.qv)).setCell ⟨j, 4, none⟩ (.int .i64 e.qp)).setCell ⟨j, 5, none⟩ (.int .i64 e.mo)).setCell ⟨j, 6, none⟩ (.int .i64 e.ai)).setCell ⟨j, 7, none⟩ (.int .i64 e.mi)).setCell ⟨j, 8, none⟩ (.int .i64 e.ln)).setCell ⟨j, 9, none⟩ (.string (mk e.nm))).setCell ⟨j, 10, none⟩ (.string (mk e.ui))).setCell ⟨j, 11, none⟩ (.string (mk e.gi))).setCell ⟨j, 12, none⟩ (.string (mk e.mu))) := h.set e
theorem DS1.y {k j : Nat} {b : List UInt8} {s : RS} {W w : World} {d : DD} (h : DS1 k b s W d j w) : ∀ i, w.frozen? ⟨j, i, none⟩ = false := fun i => h.2.2.2.frozen i

set_option maxHeartbeats 4000000 in
set_option maxRecDepth 100000 in
theorem rDir (k g : Nat) (b : List UInt8) (m : MM) (s : RS) (W : World) (hb : b.length ≤ 1000000) (ha : s.at' ≤ b.length) (_gW : G W) (hG : ∀ w, Kp k k W w → G w) (hk : RdAt k b s W) (hgk : g ≠ k) (hm : BlkM W g m) :
    Calls Tryz.prog 135 #[.pointer (some ⟨k, 0, none⟩), .pointer (some ⟨g, 22, none⟩)] W fun e W' => e = .returned (.tuple #[]) ∧ RdAt k b (rdD b s).2 W' ∧ BlkM W' g { m with st := (rdD b s).1 } ∧ Kp k g W W' := by
  have hkl := hk.lt
  have hgl := hm.lt
  have HT0 := Lib.hid (rNumber k W.heap.size 0 b s 2 2 (W.alloc (.cells #[.int .i64 0] 3)) rfl (by omega) (hk.alloc _) (by omega) (Tgt.new W _ _))
  have hat := rdN_at (b := b) (s := s) (w := 2) (by omega) ha
  have hnn : 0 ≤ (rdN b s 2).1 := (getR_val b s.at' 2).1
  have hnm : (rdN b s 2).1 < 65536 := getR2_lt b s.at'
  have HE : Hid (rdD b s = dirR b (rdN b s 2)) := rfl
  have HX := Lib.hid (fun W1 h => put1_new (W := W) (W1 := W1) (v := .int .i64 0) (u := .int .i64 (rdN b s 2).1) (t := 3) h)
  have HY := Lib.hid (fun W1 h => Kp.box (k := k) (W := W) (W1 := W1) (o := .cells #[.int .i64 0] 3) h)
  generalize rdD b s = res at *
  generalize rdN b s 2 = tr at *
  obtain ⟨n, s1⟩ := tr
  dsimp only at HT0 HX hat hnn hnm
  obtain ⟨l, rfl⟩ := Int.eq_ofNat_of_zero_le hnn
  have HS := Lib.hid (fun w (h : G w) => sGet b (s1.at' : Int) hb w h)
  have HR : Hid (res = ((getS numP b s1.at').1, orBad (moveR s1 (getS numP b s1.at').2.1 (getS numP b s1.at').2.2) (decide ((getS numP b s1.at').2.1 = (s1.at' : Int) + (l : Int))))) := HE.out
  have hnx : 0 ≤ (getS numP b s1.at').2.1 := by
    rcases h : textAt b s1.at' with _ | ⟨t, c⟩
    · rw [getS_none hat h]; simp
    · rw [getS_some h]
      rcases afterT_cases numP t with ⟨e, _, h2⟩ | ⟨d, _, _, h2⟩ <;> rw [h2] <;> simp
  generalize getS numP b s1.at' = gs at *
  obtain ⟨d, nx, er⟩ := gs
  dsimp only at HS HR hnx
  have HM := Lib.hid (fun w hk => rMove k b s1 nx er w hk (fun _ => hnx))
  have HGw := Lib.hid hG
  have HMm := Lib.hid (fun w (h : Kp k k W w) => (h.block g hgl hgk hgk).trans hm)
  unfold dirV cellsA cellsD at HS
  have h1 : s1.at' ≤ 1000000 := by omega
  clear hk hm hkl hnn ha hG _gW HE hat hb hnx
  go_enter Tryz.func135, Tryz.ntmps135
  go_wp2_with fail
  refine HT0.out.mono ?_
  rintro e W1 ⟨rfl, h1, h2, h3⟩
  have HK1 := Lib.hid h1
  have HB1 := Lib.hid (HX.out W1 h2)
  have HP1 := Lib.hid (HY.out W1 h3)
  have x0 : W1.cell? ⟨W.heap.size, 0, none⟩ = some (.int .i64 (l : Int)) := Lib.cell_of_heap HB1.out 0
  obtain ⟨c0, c1, c2⟩ := HK1.out.c
  clear h1 h2 h3
  go_wp2
  go_quiet (fail)
  have H2 : Hid (DSt k b s1 W (W1.drewN nq)) := ⟨HK1.out.drewN nq, HP1.out.drewN nq⟩
  clear c0 c1 c2 x0 HK1 HB1 HP1
  generalize W1.drewN nq = W2 at *
  go_wp2
  have H0 : Hid (DSt k b s1 W W2.drew) := H2.out.drew
  have hS : Hid (∀ w, DSt k b s1 W w → w.cell? ⟨k, 0, none⟩ = some (.string (mk b)) ∧ w.cell? ⟨k, 1, none⟩ = some (.int .i64 (s1.at' : Int))) := fun w h => ⟨h.1.c.1, h.1.c.2.1⟩
  have hnew : Hid (∀ w, DSt k b s1 W w → DS1 k b s1 W noD w.heap.size (w.alloc (.cells #[.int .i64 0, .int .i64 0, .int .i64 0, .int .i64 0, .int .i64 0, .int .i64 0, .int .i64 0, .int .i64 0, .int .i64 0, .string ⟨#[]⟩, .string ⟨#[]⟩, .string ⟨#[]⟩, .string ⟨#[]⟩] 27))) := fun w h => DSt.new0 h
  have hI13 : Hid ((Tryz.prog.info? 27).map (·.size) = some (cells13A d).size) := by show _ = some 13; kernel_rfl
  have h1c : Hid ((cells13A d).all (·.oneCell') = true) := by show _ = _; simp [cells13A, Value.oneCell']
  have hset : Hid (∀ j w, DS1 k b s1 W noD j w → DS1 k b s1 W d j (w.setCells j 0 (cells13A d).toList)) := fun j w h => h.set d
  have hthere : Hid (∀ j w, DS1 k b s1 W noD j w → w.there j 0 (cells13A d).size) := fun j w h i hi => by
    refine ⟨?_, h.2.2.2.frozen _⟩
    rw [h.2.2.2.cell (0 + i), List.getElem?_eq_getElem (by show 0 + i < 13; have : i < 13 := hi; omega)]
    rfl
  have hHS : Hid (∀ w, G w → Calls Tryz.prog 141 #[.string (mk b), .int .i64 (s1.at' : Int)] w fun e w' => e = .returned (.tuple #[.agg (cells13A d), .int .i64 nx, .int .i64 er]) ∧ Below w.heap.size w w') := HS.out
  clear HS
  generalize cells13A d = dc at *
  go_cut [6, 7, 8] from 17 to 29 (fun v6 v7 v8 wx => (∃ j, v6 = .pointer (some ⟨j, 0, none⟩) ∧ Hid (DS1 k b s1 W d j wx)) ∧ v7 = .int .i64 nx ∧ v8 = .int .i64 er)
  case first =>
    refine wp_region_held_drew (S := DSt k b s1 W) (by kernel_rfl) H0.out (fun hHeld => ?_)
    refine takeY (i := 0) (oi := _) (d := some 18) (v := .pointer (some ⟨k, 0, none⟩)) rfl rfl (by kernel_rfl) (by kernel_rfl) (by kernel_rfl) (fun _ _ _ h => h) (Or.inl ⟨by rfl, fun W' hSw => by go_simp⟩) (by assumption) ?_
    try simp only [Act.put, List.setIfInBounds_toArray, List.set_cons_zero, List.set_cons_succ]
    refine takeY (i := 1) (oi := _) (d := some 19) (v := .pointer (some ⟨k, 0, none⟩)) rfl rfl (by kernel_rfl) (by kernel_rfl) (by kernel_rfl) (fun _ _ _ h => h) (Or.inl ⟨by rfl, fun W' hSw => by go_simp⟩) (by assumption) ?_
    try simp only [Act.put, List.setIfInBounds_toArray, List.set_cons_zero, List.set_cons_succ]
    refine takeY (i := 2) (oi := _) (d := some 20) (v := .pointer (some ⟨k, 0, none⟩)) rfl rfl (by kernel_rfl) (by kernel_rfl) (by kernel_rfl) (fun _ _ _ h => h) (Or.inl ⟨by rfl, fun W' hSw => by go_simp⟩) (by assumption) ?_
    try simp only [Act.put, List.setIfInBounds_toArray, List.set_cons_zero, List.set_cons_succ]
    refine takeY (i := 3) (oi := _) (d := some 21) (v := .string (mk b)) rfl rfl (by kernel_rfl) (by kernel_rfl) (by kernel_rfl) (fun _ _ _ h => h) (Or.inl ⟨by rfl, fun W' hSw => by have x := (hS.out W' hSw).1; go_simp⟩) (by assumption) ?_
    try simp only [Act.put, List.setIfInBounds_toArray, List.set_cons_zero, List.set_cons_succ]
    refine takeY (i := 4) (oi := _) (d := some 22) (v := .pointer (some ⟨k, 0, none⟩)) rfl rfl (by kernel_rfl) (by kernel_rfl) (by kernel_rfl) (fun _ _ _ h => h) (Or.inl ⟨by rfl, fun W' hSw => by go_simp⟩) (by assumption) ?_
    try simp only [Act.put, List.setIfInBounds_toArray, List.set_cons_zero, List.set_cons_succ]
    refine takeY (i := 5) (oi := _) (d := some 23) (v := .pointer (some ⟨k, 0, none⟩)) rfl rfl (by kernel_rfl) (by kernel_rfl) (by kernel_rfl) (fun _ _ _ h => h) (Or.inl ⟨by rfl, fun W' hSw => by go_simp⟩) (by assumption) ?_
    try simp only [Act.put, List.setIfInBounds_toArray, List.set_cons_zero, List.set_cons_succ]
    refine takeY (i := 6) (oi := _) (d := some 24) (v := .pointer (some ⟨k, 1, none⟩)) rfl rfl (by kernel_rfl) (by kernel_rfl) (by kernel_rfl) (fun _ _ _ h => h) (Or.inl ⟨by rfl, fun W' hSw => by go_simp⟩) (by assumption) ?_
    try simp only [Act.put, List.setIfInBounds_toArray, List.set_cons_zero, List.set_cons_succ]
    refine takeY (i := 7) (oi := _) (d := some 25) (v := .int .i64 (s1.at' : Int)) rfl rfl (by kernel_rfl) (by kernel_rfl) (by kernel_rfl) (fun _ _ _ h => h) (Or.inl ⟨by rfl, fun W' hSw => by have x := (hS.out W' hSw).2; go_simp⟩) (by assumption) ?_
    try simp only [Act.put, List.setIfInBounds_toArray, List.set_cons_zero, List.set_cons_succ]
    refine wpAnyH_ready (rs := [8, 13]) (by kernel_rfl) (by simp) ?_
    refine AllReadyH.cons (o := _) rfl (fun K hK => ?_) (AllReadyH.cons (o := _) rfl (fun K hK => ?_) AllReadyH.nil)
    · go_simp
      refine (hHS.out _ (HGw.out _ (DSt.kp hHeld))).mono ?_
      rintro e W3 ⟨rfl, hB3⟩
      refine hK.out _ _ (hHeld.go hB3) (fun hHeld => ?_)
      clear hK K
      try simp only [Act.put, List.setIfInBounds_toArray, List.set_cons_zero, List.set_cons_succ]
      refine takeY (i := 9) (oi := _) (d := some 17) (v := .tuple #[.agg dc, .int .i64 nx, .int .i64 er]) rfl rfl (by kernel_rfl) (by kernel_rfl) (by kernel_rfl) (fun _ _ _ h => h) (Or.inl ⟨by rfl, fun W' hSw => by go_simp⟩) (by assumption) ?_
      try simp only [Act.put, List.setIfInBounds_toArray, List.set_cons_zero, List.set_cons_succ]
      refine takeY (i := 10) (oi := _) (d := some 27) (v := .agg dc) rfl rfl (by kernel_rfl) (by kernel_rfl) (by kernel_rfl) (fun _ _ _ h => h) (Or.inl ⟨by rfl, fun W' hSw => by go_simp⟩) (by assumption) ?_
      try simp only [Act.put, List.setIfInBounds_toArray, List.set_cons_zero, List.set_cons_succ]
      refine takeY (i := 11) (oi := _) (d := some 28) (v := .int .i64 nx) rfl rfl (by kernel_rfl) (by kernel_rfl) (by kernel_rfl) (fun _ _ _ h => h) (Or.inl ⟨by rfl, fun W' hSw => by go_simp⟩) (by assumption) ?_
      try simp only [Act.put, List.setIfInBounds_toArray, List.set_cons_zero, List.set_cons_succ]
      refine takeY (i := 12) (oi := _) (d := some 29) (v := .int .i64 er) rfl rfl (by kernel_rfl) (by kernel_rfl) (by kernel_rfl) (fun _ _ _ h => h) (Or.inl ⟨by rfl, fun W' hSw => by go_simp⟩) (by assumption) ?_
      try simp only [Act.put, List.setIfInBounds_toArray, List.set_cons_zero, List.set_cons_succ]
      refine wpAnyH_ready (rs := [13]) (by kernel_rfl) (by simp) ?_
      refine AllReadyH.cons (o := _) rfl (fun K hK => ?_) AllReadyH.nil
      go_simp
      have hD1 := Lib.hid (hnew.out _ hHeld)
      refine hK.out _ _ (DS1.st hD1.out) (fun hHeld => ?_)
      clear hK K
      try simp only [Act.put, List.setIfInBounds_toArray, List.set_cons_zero, List.set_cons_succ]
      refine wpAnyH_ready (rs := [14]) (by kernel_rfl) (by simp) ?_
      refine AllReadyH.cons (o := _) rfl (fun K hK => ?_) AllReadyH.nil
      rw [if_pos (by rfl)]
      refine wp_store_mid _ _ _ rfl W3.heap.size 0 dc rfl rfl (hthere.out _ _ hD1.out) hI13.out h1c.out ?_
      try simp only [Act.put, List.setIfInBounds_toArray]
      have hD2 := Lib.hid (hset.out _ _ hD1.out)
      refine hK.out _ _ (DS1.st hD2.out) (fun hHeld => ?_)
      clear hK K
      try simp only [Act.put, List.setIfInBounds_toArray, List.set_cons_zero, List.set_cons_succ]
      refine takeY (i := 15) (oi := _) (d := some 7) (v := .int .i64 nx) rfl rfl (by kernel_rfl) (by kernel_rfl) (by kernel_rfl) (fun _ _ _ h => h) (Or.inl ⟨by rfl, fun W' hSw => by go_simp⟩) (by assumption) ?_
      try simp only [Act.put]
      refine takeY (i := 16) (oi := _) (d := some 8) (v := .int .i64 er) rfl rfl (by kernel_rfl) (by kernel_rfl) (by kernel_rfl) (fun _ _ _ h => h) (Or.inl ⟨by rfl, fun W' hSw => by go_simp⟩) (by assumption) ?_
      try simp only [Act.put]
      refine wpAnyH_done (by kernel_rfl) ?_ _
      clear hHeld
      revert hD2
      generalize World.setCells _ _ _ _ = wz
      intro hD2
      clear hHS hthere hset hnew h1c hI13 hS HT0 HX HY HM HGw HMm HR hnm h1 H0 H2
      go_wp2_with fail
      go_meet
      exact ⟨⟨_, rfl, hD2⟩, rfl, rfl⟩
    · go_simp
      have hD0 := Lib.hid (hnew.out _ hHeld)
      refine hK.out _ _ (DS1.st hD0.out) (fun hHeld => ?_)
      clear hK K
      try simp only [Act.put, List.setIfInBounds_toArray, List.set_cons_zero, List.set_cons_succ]
      refine wpAnyH_ready (rs := [8]) (by kernel_rfl) (by simp) ?_
      refine AllReadyH.cons (o := _) rfl (fun K hK => ?_) AllReadyH.nil
      go_simp
      refine (hHS.out _ (HGw.out _ (DSt.kp hHeld))).mono ?_
      rintro e W3 ⟨rfl, hB3⟩
      have hD1 : Hid (DS1 k b s1 W noD W2.heap.size W3) := DS1.go hD0.out hB3
      refine hK.out _ _ (DS1.st hD1.out) (fun hHeld => ?_)
      clear hK K
      try simp only [Act.put, List.setIfInBounds_toArray, List.set_cons_zero, List.set_cons_succ]
      refine takeY (i := 9) (oi := _) (d := some 17) (v := .tuple #[.agg dc, .int .i64 nx, .int .i64 er]) rfl rfl (by kernel_rfl) (by kernel_rfl) (by kernel_rfl) (fun _ _ _ h => h) (Or.inl ⟨by rfl, fun W' hSw => by go_simp⟩) (by assumption) ?_
      try simp only [Act.put, List.setIfInBounds_toArray, List.set_cons_zero, List.set_cons_succ]
      refine takeY (i := 10) (oi := _) (d := some 27) (v := .agg dc) rfl rfl (by kernel_rfl) (by kernel_rfl) (by kernel_rfl) (fun _ _ _ h => h) (Or.inl ⟨by rfl, fun W' hSw => by go_simp⟩) (by assumption) ?_
      try simp only [Act.put, List.setIfInBounds_toArray, List.set_cons_zero, List.set_cons_succ]
      refine takeY (i := 11) (oi := _) (d := some 28) (v := .int .i64 nx) rfl rfl (by kernel_rfl) (by kernel_rfl) (by kernel_rfl) (fun _ _ _ h => h) (Or.inl ⟨by rfl, fun W' hSw => by go_simp⟩) (by assumption) ?_
      try simp only [Act.put, List.setIfInBounds_toArray, List.set_cons_zero, List.set_cons_succ]
      refine takeY (i := 12) (oi := _) (d := some 29) (v := .int .i64 er) rfl rfl (by kernel_rfl) (by kernel_rfl) (by kernel_rfl) (fun _ _ _ h => h) (Or.inl ⟨by rfl, fun W' hSw => by go_simp⟩) (by assumption) ?_
      try simp only [Act.put, List.setIfInBounds_toArray, List.set_cons_zero, List.set_cons_succ]
      refine wpAnyH_ready (rs := [14]) (by kernel_rfl) (by simp) ?_
      refine AllReadyH.cons (o := _) rfl (fun K hK => ?_) AllReadyH.nil
      rw [if_pos (by rfl)]
      refine wp_store_mid _ _ _ rfl W2.heap.size 0 dc rfl rfl (hthere.out _ _ hD1.out) hI13.out h1c.out ?_
      try simp only [Act.put, List.setIfInBounds_toArray]
      have hD2 := Lib.hid (hset.out _ _ hD1.out)
      refine hK.out _ _ (DS1.st hD2.out) (fun hHeld => ?_)
      clear hK K
      try simp only [Act.put, List.setIfInBounds_toArray, List.set_cons_zero, List.set_cons_succ]
      refine takeY (i := 15) (oi := _) (d := some 7) (v := .int .i64 nx) rfl rfl (by kernel_rfl) (by kernel_rfl) (by kernel_rfl) (fun _ _ _ h => h) (Or.inl ⟨by rfl, fun W' hSw => by go_simp⟩) (by assumption) ?_
      try simp only [Act.put]
      refine takeY (i := 16) (oi := _) (d := some 8) (v := .int .i64 er) rfl rfl (by kernel_rfl) (by kernel_rfl) (by kernel_rfl) (fun _ _ _ h => h) (Or.inl ⟨by rfl, fun W' hSw => by go_simp⟩) (by assumption) ?_
      try simp only [Act.put]
      refine wpAnyH_done (by kernel_rfl) ?_ _
      clear hHeld
      revert hD2
      generalize World.setCells _ _ _ _ = wz
      intro hD2
      clear hHS hthere hset hnew h1c hI13 hS HT0 HX HY HM HGw HMm HR hnm h1 H0 H2
      go_wp2_with fail
      go_meet
      exact ⟨⟨_, rfl, hD2⟩, rfl, rfl⟩
  case rest =>
  obtain ⟨⟨j, rfl, hD⟩, rfl, rfl⟩ := hcut
  have hset2 : Hid (∀ w, BlkM w g m → BlkM (w.setCells g 22 (cellsA d).toList) g { m with st := d }) := fun w h => set13m d h
  have hth2 : Hid (∀ w, BlkM w g m → w.there g 22 (cellsA d).size) := fun w h => there_msg h
  have hI2 : Hid ((Tryz.prog.info? 27).map (·.size) = some (cellsA d).size) := by show _ = some 13; kernel_rfl
  have ho2 := Lib.hid (cellsA_one d)
  have hMd := Lib.hid (HM.out wc hD.out.1.1)
  have hBd : Hid (∀ w, Kp k k wc w → w.heap[j]? = some (.cells (cellsA d) 27 (0, 0))) := fun w h => (h.block j hD.out.2.2.2.lt hD.out.2.2.1 hD.out.2.2.1).trans hD.out.2.2.2
  have hKd := Lib.hid hD.out.1.2
  have hjk : Hid (j ≠ k) := hD.out.2.2.1
  have hgne : Hid (g ≠ j) := by
    have := hD.out.2.1
    show g ≠ j
    omega
  clear hthere hset hnew h1c hI13 hS HT0 HX HY HM HGw H0 H2 hHS hD
  generalize hca : cellsA d = ca at *
  have HCa := Lib.hid hca
  clear hca
  go_wp2_with fail
  refine hMd.out.mono ?_
  rintro e W6 ⟨rfl, h3, h4⟩
  have H3 := Lib.hid h3
  have H4 := Lib.hid h4
  have H5 := Lib.hid (hBd.out _ h4)
  have H6 := Lib.hid (hKd.out.trans h4)
  clear h3 h4 hMd hBd
  by_cases hne : nx = (s1.at' : Int) + (l : Int)
  · have hq : (nx != (s1.at' : Int) + (l : Int)) = false := by simpa using hne
    have hR2 : Hid (res.2 = moveR s1 nx er ∧ res.1 = d) := by
      rw [HR.out]; exact ⟨by unfold orBad; rw [if_pos (by simpa using hne)], rfl⟩
    have hM6 := Lib.hid (HMm.out _ H6.out)
    clear hne HR
    go_wp2_with (first | (refine wpList_load_row rfl 27 _ rfl j rfl 27 ca (0, 0) _ H5.out Tryz.underlying27 rfl hI2.out ?_) | (refine wpList_store_mid rfl 27 _ _ rfl g 22 ca rfl rfl (hth2.out _ hM6.out) hI2.out ho2.out ?_))
    go_end0
    refine ⟨rfl, ?_, ?_, ?_⟩
    · rw [hR2.out.1]; exact (setCells_ne (_w := W6) (by omega) _ _ _).trans H3.out
    · rw [hR2.out.2]; exact hset2.out _ hM6.out
    · exact Kp.sets (k := k) (g := g) (W := W) g (.inr rfl) _ _ _ H6.out.self
  · have hq : (nx != (s1.at' : Int) + (l : Int)) = true := by simpa using hne
    have hR2 : Hid (res.2 = ⟨(moveR s1 nx er).at', true⟩ ∧ res.1 = d) := by
      rw [HR.out]; exact ⟨by unfold orBad; rw [if_neg (by simpa using hne)], rfl⟩
    have f2 := H3.out.f.2
    have c2 := H3.out.c.2.2
    have H7 : Hid (RdAt k b ⟨(moveR s1 nx er).at', true⟩ (W6.setCell ⟨k, 2, none⟩ (.bool true))) := set_heap (o := 2) (v := .bool true) H3.out
    have H8 := Lib.hid (H6.out.set k 2 (.bool true) (.inl rfl))
    have hM6 := Lib.hid (HMm.out _ H8.out)
    have H9 : Hid ((W6.setCell ⟨k, 2, none⟩ (.bool true)).heap[j]? = some (.cells ca 27 (0, 0))) := (heap_ne hjk.out).trans H5.out
    clear hne HR
    go_wp2_with (first | (refine wpList_load_row rfl 27 _ rfl j rfl 27 ca (0, 0) _ H9.out Tryz.underlying27 rfl hI2.out ?_) | (refine wpList_store_mid rfl 27 _ _ rfl g 22 ca rfl rfl (hth2.out _ hM6.out) hI2.out ho2.out ?_))
    go_end0
    refine ⟨rfl, ?_, ?_, ?_⟩
    · rw [hR2.out.1]; exact (setCells_ne (_w := W6) (by omega) _ _ _).trans H7.out
    · rw [hR2.out.2]; exact hset2.out _ hM6.out
    · exact Kp.sets (k := k) (g := g) (W := W) g (.inr rfl) _ _ _ H8.out.self
end Go.Proofs.YtlfdmbfbfadifaaGreatDoor
