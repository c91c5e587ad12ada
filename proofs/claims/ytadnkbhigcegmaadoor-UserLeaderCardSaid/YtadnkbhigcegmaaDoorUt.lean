/-
  Parse: package user's.
-/
import Derived.Test.YtadnkbhigcegmaaDoorUs
namespace Go.Proofs.YtadnkbhigcegmaaDoor
open Go.RowKit
attribute [local go_sem] Oper.semAt_some

theorem linesOf_len (p : List (List UInt8)) : (linesOf p).length ≤ p.length := by
  induction p with
  | nil => simp [linesOf]
  | cons a r ih =>
    cases r with
    | nil => simp only [linesOf]; split <;> simp
    | cons b r => simp only [linesOf, List.length_cons] at ih ⊢; omega
theorem linesL_len (x : List UInt8) : (linesL x).length ≤ x.length + 1 := Nat.le_trans (linesOf_len _) (pieces_len 10 x)
theorem linesOf_mem {N : Nat} (p : List (List UInt8)) (h : ∀ a ∈ p, a.length ≤ N) : ∀ y ∈ linesOf p, y.length ≤ N + 1 := by
  induction p with
  | nil => simp [linesOf]
  | cons a r ih =>
    cases r with
    | nil =>
      simp only [linesOf]
      split
      · simp
      · intro y hy; simp at hy; subst hy; have := h y (by simp); omega
    | cons b r =>
      intro y hy
      simp only [linesOf, List.mem_cons] at hy
      rcases hy with rfl | hy
      · have := h a (by simp); simp; omega
      · exact ih (fun z hz => h z (by simp [hz])) y (by simpa using hy)
theorem linesL_mem {x y : List UInt8} (h : y ∈ linesL x) : y.length ≤ x.length + 1 := linesOf_mem _ (fun _ ha => pieces_mem ha) y h
theorem plineL_big {y : List UInt8} {u : U} (h : plineL y = some u) : BigU y.length u := by
  unfold plineL at h
  split at h
  · exact (lineL_big h).mono (by simp)
  · cases h

/-- The lines pre have been read: acc. -/
def PAcc (pre : List (List UInt8)) (acc : List U) : Prop := (∀ rest, runL (pre ++ rest) [] = runL rest acc) ∧ acc.length = pre.length ∧ ∀ k, BigU 90001 (getL acc k)
theorem PAcc.start : PAcc [] [] := ⟨fun _ => rfl, rfl, fun k => by simpa [getL] using BigU.zero _⟩
theorem PAcc.more {pre : List (List UInt8)} {acc : List U} {y : List UInt8} {u : U} (h : PAcc pre acc) (hu : plineL y = some u) (hy : y.length ≤ 90001) : PAcc (pre ++ [y]) (acc ++ [u]) := by
  refine ⟨fun rest => ?_, by simp [h.2.1], bigAll_snoc h.2.2 ((plineL_big hu).mono hy)⟩
  rw [List.append_assoc, h.1]
  show runL (y :: rest) acc = _
  rw [runL, hu]
theorem PAcc.bad {x : List UInt8} {pre : List (List UInt8)} {acc : List U} {y : List UInt8} (h : PAcc pre acc) (hu : plineL y = none) (hp : pre ++ [y] <+: linesL x) : parseL x = ([], (acc.length : Int), (2 : Int)) := by
  obtain ⟨r, hr⟩ := hp
  rw [← parse_lines, ← hr, List.append_assoc, h.1]
  show runL (y :: r) acc = _
  rw [runL, hu]
theorem PAcc.fin {x : List UInt8} {acc : List U} (h : PAcc (linesL x) acc) : parseL x = endL acc := by
  have := h.1 []
  rw [List.append_nil] at this
  rw [← parse_lines, this]; rfl

theorem Boxed.setOther {W : World} {B : Nat} {t : TypeId} {v : Value} (h : Boxed W B t v) (p : Addr) (hp : B ≠ p.block) (u : Value) : Boxed (W.setCell p u) B t v := (Below.heap_setCell W p u B hp).trans h
theorem Boxed.below {W W' : World} {B : Nat} {t : TypeId} {v : Value} (h : Boxed W B t v) (hB : Below W.heap.size W W') : Boxed W' B t v := (hB.block B h.lt).trans h
/-- The results' boxes and the list's. -/
def PBox (n : Nat) (W : World) (v : Value) : Prop := Boxed W n 24 (.slice none 0 0) ∧ Boxed W (n + 1) 3 (.int .i64 0) ∧ Boxed W (n + 1 + 1) 26 (.int .i64 0) ∧ Boxed W (n + 1 + 1 + 1) 24 v ∧ n + 5 ≤ W.heap.size
theorem PBox.kept {n : Nat} {W W' : World} {v : Value} {row : Option Nat} (h : PBox n W v) (hg : W.grownBy W' row) (hr : ∀ r, row = some r → n + 5 ≤ r) : PBox n W' v :=
  ⟨h.1.kept hg (fun e => by have := hr _ e.symm; omega), h.2.1.kept hg (fun e => by have := hr _ e.symm; omega), h.2.2.1.kept hg (fun e => by have := hr _ e.symm; omega), h.2.2.2.1.kept hg (fun e => by have := hr _ e.symm; omega), Nat.le_trans h.2.2.2.2 hg.size⟩
theorem PBox.setOther {n : Nat} {W : World} {v : Value} (h : PBox n W v) (p : Addr) (hp : n + 4 ≤ p.block) (u : Value) : PBox n (W.setCell p u) v :=
  ⟨Boxed.setOther h.1 p (by omega) u, Boxed.setOther h.2.1 p (by omega) u, Boxed.setOther h.2.2.1 p (by omega) u, Boxed.setOther h.2.2.2.1 p (by omega) u, by simpa [World.setCell] using h.2.2.2.2⟩
theorem grown_of_below {W W' : World} (h : Below W.heap.size W W') : W.grownBy W' none := ⟨h.os, h.tape, h.output, h.size, fun k hk _ => h.block k hk⟩
theorem UOwn.turn {B : Nat} {W W' : World} {v : Value} {acc : List U} {row : Option Nat} (h : UOwn B W v acc) (hg : W.grownBy W' row) (hr : ∀ r, row = some r → ∃ o : Obj, W.heap[r]? = some o ∧ o.isCells = false) : UOwn B W' v acc := by
  obtain ⟨xs, hown, hk⟩ := h
  refine ⟨xs, hown.kept hg ?_, fun k hkl => ?_⟩
  · rcases hown.2 with ⟨rfl, _⟩ | ⟨g, cap, cur, rfl, _, hgb, _⟩
    · exact .inl rfl
    · refine .inr fun e' => ?_
      obtain ⟨o, ho, hc⟩ := hr g (by simpa [Value.ownBlock] using e'.symm)
      rw [hgb] at ho; cases ho; cases hc
  · obtain ⟨mv, c0, c1, c2, hs⟩ := hk k hkl
    refine ⟨mv, c0, c1, c2, hs.kept fun b cs fz _ hb => hg.block b (Array.getElem?_eq_some_iff.1 hb).1 fun e => ?_⟩
    obtain ⟨o, ho, hc⟩ := hr b e.symm
    rw [hb] at ho; cases ho; cases hc
theorem UOwn.set {B : Nat} {W : World} {v : Value} {acc : List U} (h : UOwn B W v acc) (p : Addr) (hp : p.block < B) (u : Value) : UOwn B (W.setCell p u) v acc := by
  obtain ⟨xs, hown, hk⟩ := h
  refine ⟨xs, own_set hown p hp u, fun k hkl => ?_⟩
  obtain ⟨mv, c0, c1, c2, hs⟩ := hk k hkl
  exact ⟨mv, c0, c1, c2, hs.set p hp u⟩
theorem load_box {W : World} {B : Nat} {t : TypeId} {v : Value} (hag : ∀ w : World, (isAgg t).run Tryd.prog w = .ok false w) (h : Boxed W B t v) : (loadVar t ⟨B, 0, none⟩).run Tryd.prog W = .ok v W := by
  have hc := h.cell
  simp [go_sem, hc, hag]
theorem agg24 (w : World) : (isAgg 24).run Tryd.prog w = .ok false w := by kernel_rfl
theorem agg3 (w : World) : (isAgg 3).run Tryd.prog w = .ok false w := by kernel_rfl
theorem agg26 (w : World) : (isAgg 26).run Tryd.prog w = .ok false w := by kernel_rfl
theorem results_parse {fn : Func} {p q r n : Nat} {a b c : Value} {W : World} {tmps : Array Value} (h : fn.results = #[.cell p 24, .cell q 3, .cell r 26])
    (hp : tmps.getD p undef = .pointer (some ⟨n, 0, none⟩)) (hq : tmps.getD q undef = .pointer (some ⟨n + 1, 0, none⟩)) (hr : tmps.getD r undef = .pointer (some ⟨n + 1 + 1, 0, none⟩))
    (ha : Boxed W n 24 a) (hb : Boxed W (n + 1) 3 b) (hc : Boxed W (n + 1 + 1) 26 c) : (results fn tmps).run Tryd.prog W = .ok (.tuple #[a, b, c]) W := by
  have k : ∀ x : Addr, (asAddr (.pointer (some x))).run Tryd.prog W = .ok x W := fun _ => rfl
  have la := load_box agg24 ha
  have lb := load_box agg3 hb
  have lc := load_box agg26 hc
  rw [Array.getD_eq_getD_getElem?] at hp hq hr
  simp only [results, h]
  simp [Sem.run_bind, Result.andThen, hp, hq, hr, k, la, lb, lc]

/-- The results' boxes when the results have been stored. -/
def fin3 (W : World) (n : Nat) (a b c : Value) : World := ((W.setCell ⟨n, 0, none⟩ a).setCell ⟨n + 1, 0, none⟩ b).setCell ⟨n + 1 + 1, 0, none⟩ c
theorem fin3_box {n D : Nat} {W : World} {v : Value} (h : PBox n W v) (hD : n + 5 ≤ D) (a b c : Value) (o : Obj) :
    Boxed ((fin3 W n a b c).putObj D o) n 24 a ∧ Boxed ((fin3 W n a b c).putObj D o) (n + 1) 3 b ∧ Boxed ((fin3 W n a b c).putObj D o) (n + 1 + 1) 26 c := by
  refine ⟨(World.putObj_heap_other (by omega)).trans ?_, (World.putObj_heap_other (by omega)).trans ?_, (World.putObj_heap_other (by omega)).trans ?_⟩
  · exact Boxed.setOther (Boxed.setOther (Boxed.set _ h.1) _ (by show n ≠ n + 1; omega) _) _ (by show n ≠ n + 1 + 1; omega) _
  · exact Boxed.setOther (Boxed.set _ (Boxed.setOther h.2.1 _ (by show n + 1 ≠ n; omega) _)) _ (by show n + 1 ≠ n + 1 + 1; omega) _
  · exact Boxed.set _ (Boxed.setOther (Boxed.setOther h.2.2.1 _ (by show n + 1 + 1 ≠ n; omega) _) _ (by show n + 1 + 1 ≠ n + 1; omega) _)
theorem fin3_def {n D : Nat} {W : World} {o : Obj} (hD : n + 5 ≤ D) (hK : W.heap[D]? = some o) (a b c : Value) : (fin3 W n a b c).heap[D]? = some o :=
  (Below.heap_setCell _ _ _ _ (by show D ≠ n + 1 + 1; omega)).trans ((Below.heap_setCell _ _ _ _ (by show D ≠ n + 1; omega)).trans ((Below.heap_setCell _ _ _ _ (by show D ≠ n; omega)).trans hK))
theorem fin3_below {n : Nat} {w W : World} (h : Below n w W) (a b c : Value) : Below n w (fin3 W n a b c) :=
  ((h.setCell (p := ⟨n, 0, none⟩) (Nat.le_refl _) _).setCell (p := ⟨n + 1, 0, none⟩) (by show n ≤ n + 1; omega) _).setCell (p := ⟨n + 1 + 1, 0, none⟩) (by show n ≤ n + 1 + 1; omega) _
theorem UOwn.fin3 {n : Nat} {W : World} {v : Value} {acc : List U} (h : UOwn (n + 5) W v acc) (a b c : Value) : UOwn (n + 5) (fin3 W n a b c) v acc :=
  ((h.set ⟨n, 0, none⟩ (by show n < n + 5; omega) _).set ⟨n + 1, 0, none⟩ (by show n + 1 < n + 5; omega) _).set ⟨n + 1 + 1, 0, none⟩ (by show n + 1 + 1 < n + 5; omega) _
theorem keeps_none {W W' : World} (h : W.grownBy W' none) : KeepsOthers W W' := ⟨h.size, fun k _ hk _ => (h.block k (Array.getElem?_eq_some_iff.1 hk).1 (by simp)).trans hk⟩

set_option maxRecDepth 100000 in
set_option maxHeartbeats 3200000 in
theorem Parse_any (x : List UInt8) (hs : x.length ≤ 90000) (w : World) (g : G w) :
    Calls Tryd.prog 25 #[.string (mk x)] w fun e w' => ∃ v, e = .returned (.tuple #[v, .int .i64 (parseL x).2.1, .int .i64 (parseL x).2.2]) ∧ URow w' v (parseL x).1 ∧ Below w.heap.size w w' := by
  refine (callsIn_wide (n := 5)).1 ?_
  refine callsIn_of_wp_marks Tryd.func25 rfl trivial ?_ rfl
  simp only [Tryd.ntmps25, List.size_toArray, List.length_cons, List.length_nil, Nat.reduceAdd, Nat.reduceSub, Array.replicate_succ, Array.replicate_zero, List.push_toArray, List.append_toArray, List.nil_append, List.cons_append]
  gi_wp2_with (refine ⟨trivial, ?_⟩; gi_at_call 41; refine (callsIn_wide.2 (Lines_any x _)).mono ?_; rintro e w' ⟨rfl, rfl⟩)
  obtain ⟨W0, hW0⟩ : ∃ W0, (((((w.alloc (.cells #[.slice none 0 0] 24)).alloc (.cells #[.int .i64 0] 3)).alloc (.cells #[.int .i64 0] 26)).alloc (.cells #[.slice none 0 0] 24)).alloc (.cells #[.string (mk x)] 9)) = W0 := ⟨_, rfl⟩
  have hz0 : W0.heap.size = w.heap.size + 5 := by rw [← hW0]; simp
  have hb1 : Boxed W0 w.heap.size 24 (.slice none 0 0) := by rw [← hW0]; exact ((((Boxed.new w _ _).alloc _).alloc _).alloc _).alloc _
  have hb2 : Boxed W0 (w.heap.size + 1) 3 (.int .i64 0) := by
    rw [← hW0]
    have := Boxed.new (w.alloc (.cells #[.slice none 0 0] 24)) 3 (.int .i64 0)
    rw [World.size_alloc] at this
    exact ((this.alloc _).alloc _).alloc _
  have hb3 : Boxed W0 (w.heap.size + 1 + 1) 26 (.int .i64 0) := by
    rw [← hW0]
    have := Boxed.new ((w.alloc (.cells #[.slice none 0 0] 24)).alloc (.cells #[.int .i64 0] 3)) 26 (.int .i64 0)
    rw [World.size_alloc, World.size_alloc] at this
    exact (this.alloc _).alloc _
  have hb4 : Boxed W0 (w.heap.size + 1 + 1 + 1) 24 (.slice none 0 0) := by
    rw [← hW0]
    have := Boxed.new (((w.alloc (.cells #[.slice none 0 0] 24)).alloc (.cells #[.int .i64 0] 3)).alloc (.cells #[.int .i64 0] 26)) 24 (.slice none 0 0)
    rw [World.size_alloc, World.size_alloc, World.size_alloc] at this
    exact this.alloc _
  have hb5 : Boxed W0 (w.heap.size + 1 + 1 + 1 + 1) 9 (.string (mk x)) := by
    rw [← hW0]
    have := Boxed.new ((((w.alloc (.cells #[.slice none 0 0] 24)).alloc (.cells #[.int .i64 0] 3)).alloc (.cells #[.int .i64 0] 26)).alloc (.cells #[.slice none 0 0] 24)) 9 (.string (mk x))
    rw [World.size_alloc, World.size_alloc, World.size_alloc, World.size_alloc] at this
    exact this
  have hB0 : Below w.heap.size w W0 := by
    rw [← hW0]
    exact (((((Below.refl _ w).alloc (Nat.le_refl _) _).alloc (by simp) _).alloc (by simp; omega) _).alloc (by simp; omega) _).alloc (by simp; omega) _
  rw [hW0]
  clear hW0
  obtain ⟨i0, hi, hi0, hi1, hi2⟩ := info_parts info_user
  have HLM := Lib.hid (fun y (h : y ∈ linesL x) => linesL_mem h)
  have HLL := Lib.hid (linesL_len x)
  have hg := Lib.hid g
  refine wpIn_lines (by omega) (Bs := w.heap.size + 1 + 1 + 1 + 1) rfl x (by omega) rfl hb5
    (fun pre W => ∃ acc v, PAcc pre acc ∧ PBox w.heap.size W v ∧ UOwn (w.heap.size + 5) W v acc ∧ Below w.heap.size w W)
    (fun c _ W => c = .ret ∧ ∃ k : Nat, parseL x = ([], (k : Int), (2 : Int)) ∧ Boxed W w.heap.size 24 (.slice none 0 0) ∧ Boxed W (w.heap.size + 1) 3 (.int .i64 (k : Int)) ∧ Boxed W (w.heap.size + 1 + 1) 26 (.int .i64 2) ∧ Below w.heap.size w W)
    ?I ?Ix ?Is ?Id ?start
    (fun y => { tmps := #[.string (mk x), undef, .pointer (some ⟨w.heap.size, 0, none⟩), .pointer (some ⟨w.heap.size + 1, 0, none⟩), .pointer (some ⟨w.heap.size + 1 + 1, 0, none⟩), .pointer (some ⟨w.heap.size + 1 + 1 + 1, 0, none⟩), .string (mk y), undef, undef, undef, .string (mk x), .func (.func 48) #[] #[.pointer (some ⟨w.heap.size + 1 + 1 + 1 + 1, 0, none⟩)], .string (mk y), undef, undef, undef, undef, undef, undef, undef, undef, undef, undef, undef, undef, undef, undef, undef, undef, undef, undef, undef, undef, undef], defers := [] }) ?assign ?body ?done ?stop
  case I =>
    rintro pre A B row ⟨acc, v, hp, hb, hu, hB⟩ hgr hr
    refine ⟨acc, v, hp, hb.kept hgr (fun r e => by have := (hr r e).1; omega), hu.turn hgr (fun r e => (hr r e).2), hB.grown hgr hB.size (fun r e => by have := (hr r e).1; omega)⟩
  case Ix =>
    rintro c pre A B row ⟨hc, k, hk, q1, q2, q3, hB⟩ hgr hr
    refine ⟨hc, k, hk, q1.kept hgr (fun e => by have := (hr _ e.symm).1; omega), q2.kept hgr (fun e => by have := (hr _ e.symm).1; omega), q3.kept hgr (fun e => by have := (hr _ e.symm).1; omega), hB.grown hgr hB.size (fun r e => by have := (hr r e).1; omega)⟩
  case Is =>
    rintro pre W u ⟨acc, v, hp, hb, hu, hB⟩
    exact ⟨acc, v, hp, hb.setOther _ (by show _ ≤ w.heap.size + 1 + 1 + 1 + 1; omega) u, hu.set _ (by show w.heap.size + 1 + 1 + 1 + 1 < _; omega) u, hB.setCell (p := ⟨w.heap.size + 1 + 1 + 1 + 1, 0, none⟩) (by show _ ≤ w.heap.size + 1 + 1 + 1 + 1; omega) u⟩
  case Id =>
    rintro pre W ⟨acc, v, hp, hb, hu, hB⟩
    exact ⟨acc, v, hp, hb, hu, below_drewN hB 1⟩
  case start => exact ⟨[], .slice none 0 0, PAcc.start, ⟨hb1, hb2, hb3, hb4, by omega⟩, UOwn.nil_ _ _, hB0⟩
  case assign =>
    intro l y W K hK
    gi_wp2
    exact hK
  case body =>
    rintro l pre y W ⟨acc, v, hp, hb, hu, hB⟩ hpre
    have hmx : Tryd.prog.follows .mixedOrders = true := by kernel_rfl
    have hyl : y.length ≤ 90001 := by
      have := HLM.out y (hpre.subset (by simp)); omega
    have hal : acc.length ≤ 90001 := by
      have h1 := hpre.length_le
      have h2 := HLL.out
      have h3 := hp.2.1
      simp at h1; omega
    have PL := Lib.hid (parseLine_any y (by omega) W (hg.out.below hB))
    have hszw := hB.size
    have hszW : w.heap.size + 5 ≤ W.heap.size := hb.2.2.2.2
    obtain ⟨q0, cap0, rfl⟩ : ∃ q cap, v = .slice q acc.length cap := by
      obtain ⟨p, cap, hv, _⟩ := hu.row
      exact ⟨p, cap, hv⟩
    have HPA := Lib.hid hp
    have HPB := Lib.hid hb
    have HU := Lib.hid hu
    have HB := Lib.hid hB
    clear hp hb hu hB
    cases hpl : plineL y with
    | none =>
      have HR := Lib.hid (HPA.out.bad hpl hpre)
      rw [hpl] at PL
      generalize optU (none : Option U) = u0 at PL
      obtain ⟨un, ul, um⟩ := u0
      dsimp only at PL
      clear hpl hpre
      gi_wp2_with (refine ⟨trivial, ?_⟩; gi_at_call 42; refine (CallsIn.inRound l (callsIn_wide.2 PL.out)).mono ?_)
      rintro e W2 ⟨mv, rfl, hs2, hB2⟩
      obtain ⟨q2, c2, rfl, _⟩ := id hs2
      have hgr2 : W.grownBy (W2.alloc (.cells #[.string (mk un), .string (mk ul), .slice q2 um.length c2] 32)) none := (grown_of_below hB2).trans (World.grownBy_alloc _ _ _)
      have hbx := HPB.out.kept hgr2 (fun r e => by cases e)
      have HPB2 := Lib.hid hbx
      have hB3 := HB.out.trans ((hB2.trans (((Below.refl W2.heap.size W2).alloc (Nat.le_refl _) (.cells #[.string (mk un), .string (mk ul), .slice q2 um.length c2] 32)).mono hB2.size)).mono hszw)
      have HB3 := Lib.hid hB3
      have HG2 := Lib.hid hgr2
      have d0 := hbx.1.cell
      have d1 := hbx.2.1.cell
      have d2 := hbx.2.2.1.cell
      have d3 := hbx.2.2.2.1.cell
      have f0 := hbx.1.frozen
      have f1 := hbx.2.1.frozen
      have f2 := hbx.2.2.1.frozen
      clear hs2 hB2 hgr2 hbx hB3
      gi_wp2
      gi_region_with_o (fail)
      all_goals gi_wp2
      all_goals
        refine ⟨?_, rfl, acc.length, HR.out, ?_, ?_, ?_, ?_⟩
        · exact KeepsOthers.from (((((keeps_none HG2.out).trans (KeepsOthers.setCell _ _ _)).trans (KeepsOthers.setCell _ _ _)).trans (KeepsOthers.setCell _ _ _)).trans (KeepsOthers.drew _)) _
        · exact Boxed.setOther (Boxed.setOther (Boxed.set _ HPB2.out.1) _ (by show w.heap.size ≠ w.heap.size + 1; omega) _) _ (by show w.heap.size ≠ w.heap.size + 1 + 1; omega) _
        · exact Boxed.setOther (Boxed.set _ (Boxed.setOther HPB2.out.2.1 _ (by show w.heap.size + 1 ≠ w.heap.size; omega) _)) _ (by show w.heap.size + 1 ≠ w.heap.size + 1 + 1; omega) _
        · exact Boxed.set _ (Boxed.setOther (Boxed.setOther HPB2.out.2.2.1 _ (by show w.heap.size + 1 + 1 ≠ w.heap.size; omega) _) _ (by show w.heap.size + 1 + 1 ≠ w.heap.size + 1; omega) _)
        · exact below_drewN (((HB3.out.setCell (p := ⟨w.heap.size, 0, none⟩) (Nat.le_refl _) _).setCell (p := ⟨w.heap.size + 1, 0, none⟩) (by show w.heap.size ≤ w.heap.size + 1; omega) _).setCell (p := ⟨w.heap.size + 1 + 1, 0, none⟩) (by show w.heap.size ≤ w.heap.size + 1 + 1; omega) _) 1
    | some u =>
      have hPN := HPA.out.more hpl hyl
      rw [hpl] at PL
      have hou : optU (some u) = u := rfl
      rw [hou] at PL
      have HPN := Lib.hid hPN
      obtain ⟨un, ul, um⟩ := u
      dsimp only at PL
      clear hpl hpre hPN hou
      gi_wp2_with (refine ⟨trivial, ?_⟩; gi_at_call 42; refine (CallsIn.inRound l (callsIn_wide.2 PL.out)).mono ?_)
      rintro e W2 ⟨mv, rfl, hs2, hB2⟩
      obtain ⟨q2, c2, rfl, _⟩ := id hs2
      have hsz2 := hB2.size
      have ha := (Below.refl W2.heap.size W2).alloc (Nat.le_refl _) (.cells #[.string (mk un), .string (mk ul), .slice q2 um.length c2] 32)
      have hB23 := hB2.trans (ha.mono hsz2)
      have hgr2 := grown_of_below hB23
      have hbx := HPB.out.kept hgr2 (fun r e => by cases e)
      have hB3 := HB.out.trans (hB23.mono hszw)
      obtain ⟨xs, hown, hks⟩ := HU.out.below hB23
      have hs3 := (hs2.below ha).mono hszW
      have HO := Lib.hid hown
      have HPB2 := Lib.hid hbx
      have HB3 := Lib.hid hB3
      have HG2 := Lib.hid hgr2
      have hle3 : w.heap.size + 5 ≤ (W2.alloc (.cells #[.string (mk un), .string (mk ul), .slice q2 um.length c2] 32)).heap.size := by simp; omega
      have HM := Lib.hid (fun v' w1' o hg ho' => UOwn.more (u := ⟨un, ul, um⟩) (w1 := w1') (v' := v') (o := o) hown hks hs3 hg ho')
      have d3 := hbx.2.2.2.1.cell
      have f3 := hbx.2.2.2.1.frozen
      clear hs2 hB2 ha hB23 hgr2 hbx hB3 hown hks hs3 PL
      gi_wp2_with (gi_at_builtin; refine wpListIn_append_own _ rfl (.tmp 22) (.tmp 24) 24 rfl (w.heap.size + 5) 32 i0 (.agg #[.string ⟨#[]⟩, .string ⟨#[]⟩, .slice none 0 0]) 3 56 Tryd.underlying24 hi hi0 hi1 hi2 rfl (by decide) _ _ _ rfl (HO.out.alloc _) ⟨W2.heap.size + 1, 0, none⟩ 1 1 [.string (mk un), .string (mk ul), .slice q2 um.length c2] rfl rfl (cells_new3_at _ _ _ _ _ _) (by intro u hu; simp at hu; rcases hu with rfl | rfl | rfl <;> rfl) (by unfold maxLen; omega) (by omega) (by simp; omega) ?_; intro v' w4 hown' hgrow _; obtain ⟨g', cap', rfl⟩ := ownsRow_succ hown'; have hv1 := (HPB2.out.kept (World.grownBy_alloc _ _ none) (fun r e => by cases e)).kept hgrow (fun r e => (HO.out.lt r e).1); have hc1 := hv1.2.2.2.1.cell; have hf1 := hv1.2.2.2.1.frozen)
      have hbk := Below.heap_setCell w4 ⟨w.heap.size + 1 + 1 + 1, 0, none⟩ (.slice (some ⟨g', 0, none⟩) (acc.length + 1) cap') (w.heap.size + 1 + 1 + 1 + 1) (by show w.heap.size + 1 + 1 + 1 + 1 ≠ w.heap.size + 1 + 1 + 1; omega)
      have hU4 := HM.out _ _ _ hgrow hown'
      refine ⟨?_, ?_, acc ++ [⟨un, ul, um⟩], _, HPN.out, ⟨Boxed.setOther hv1.1 _ (by show w.heap.size ≠ w.heap.size + 1 + 1 + 1; omega) _, Boxed.setOther hv1.2.1 _ (by show w.heap.size + 1 ≠ w.heap.size + 1 + 1 + 1; omega) _, Boxed.setOther hv1.2.2.1 _ (by show w.heap.size + 1 + 1 ≠ w.heap.size + 1 + 1 + 1; omega) _, hv1.2.2.2.1.set _, by simpa [World.setCell] using hv1.2.2.2.2⟩, hU4.set _ (by show w.heap.size + 1 + 1 + 1 < w.heap.size + 5; omega) _, ?_⟩
      · refine KeepsOthers.from ((((keeps_none HG2.out).trans (KeepsOthers.alloc _ _)).trans (KeepsOthers.of_grownBy hgrow fun j o ej hj => ?_)).trans (KeepsOthers.setCell _ _ _)) _
        obtain ⟨cc, fz, hcc⟩ := Lib.ownsRow_kind (HO.out.alloc (.cells #[.string (mk un), .string (mk ul), .slice q2 um.length c2] 32)) j ej
        rw [hcc] at hj; cases hj; rfl
      · refine hbk.trans ?_
        have h1 := (World.grownBy_alloc (W2.alloc (.cells #[.string (mk un), .string (mk ul), .slice q2 um.length c2] 32)) (.cells #[.string (mk un), .string (mk ul), .slice q2 um.length c2] 32) none).block (w.heap.size + 1 + 1 + 1 + 1) (by omega) (by simp)
        refine (hgrow.block _ (by rw [World.size_alloc]; omega) (fun e => by have := (HO.out.lt _ e.symm).1; omega)).trans (h1.trans ?_)
        exact HG2.out.block _ (by omega) (by simp)
      · exact (HB3.out.trans ((below_grown _ hle3 HO.out hgrow).mono (by omega))).setCell (p := ⟨w.heap.size + 1 + 1 + 1, 0, none⟩) (by show w.heap.size ≤ w.heap.size + 1 + 1 + 1; omega) _
  case done =>
    rintro D W hD ⟨acc, v, hp, hb, hu, hB⟩ hK
    have hpf := hp.fin
    have hal : acc.length ≤ 90001 := by
      have h2 := HLL.out
      have h3 := hp.2.1
      omega
    have LC := Lib.hid (Check_any v acc W hu.row (big_of (N := 90001) (by omega) (by omega) hp.2.2))
    obtain ⟨q0, cap0, rfl⟩ : ∃ q cap, v = .slice q acc.length cap := by
      obtain ⟨p, cap, hv, _⟩ := hu.row
      exact ⟨p, cap, hv⟩
    have hE1 : checkL acc = 0 → endL acc = (acc, (0 : Int), (0 : Int)) := fun h => if_pos h
    have hE2 : checkL acc ≠ 0 → endL acc = ([], (acc.length : Int), checkL acc) := fun h => if_neg h
    have HE1 := Lib.hid (fun h => hpf.trans (hE1 h))
    have HE2 := Lib.hid (fun h => hpf.trans (hE2 h))
    have HPB := Lib.hid hb
    have HU := Lib.hid hu
    have HB := Lib.hid hB
    have hszw := hB.size
    have hDlt := (Array.getElem?_eq_some_iff.1 hK).1
    have HK := Lib.hid hK
    have d3 := hb.2.2.2.1.cell
    clear hp hb hu hB hpf hE1 hE2 hK
    generalize checkL acc = ch at LC HE1 HE2
    by_cases h0 : ch = 0
    · have HR := Lib.hid (HE1.out h0)
      have hne : (ch != 0) = false := by simpa using h0
      clear h0 HE1 HE2
      gi_wp2_with (refine ⟨trivial, ?_⟩; gi_at_call 16; refine (callsIn_wide.2 LC.out).mono ?_)
      rintro e W2 ⟨rfl, hB2⟩
      have hbx := HPB.out.kept (grown_of_below hB2) (fun r e => by cases e)
      have HU2 := Lib.hid (HU.out.below hB2)
      have HB2 := Lib.hid (HB.out.trans (hB2.mono hszw))
      have HK2 := Lib.hid ((hB2.block D hDlt).trans HK.out)
      have HPB2 := Lib.hid hbx
      have d0 := hbx.1.cell
      have d1 := hbx.2.1.cell
      have d2 := hbx.2.2.1.cell
      have e3 := hbx.2.2.2.1.cell
      have f0 := hbx.1.frozen
      have f1 := hbx.2.1.frozen
      have f2 := hbx.2.2.1.frozen
      clear hB2 hbx d3
      gi_wp2
      have hD5 : w.heap.size + 5 ≤ D := by omega
      have hdef := fin3_def hD5 HK2.out (.slice q0 acc.length cap0) (.int .i64 0) (.int .i64 0)
      obtain ⟨r1, r2, r3⟩ := fin3_box HPB2.out hD5 (.slice q0 acc.length cap0) (.int .i64 0) (.int .i64 0) (.deferred none)
      have hbl := fin3_below HB2.out (.slice q0 acc.length cap0) (.int .i64 0) (.int .i64 0)
      refine ⟨by simp, .inl ⟨_, _, rfl, run_takeDeferred hdef, ?_⟩⟩
      refine ⟨_, results_parse rfl rfl rfl rfl r1 r2 r3, .slice q0 acc.length cap0, ?_, ?_, ?_⟩
      · rw [HR.out]
      · rw [HR.out]
        exact ((HU2.out.fin3 _ _ _).turn (grownBy_putObj' _ D (.deferred none)) (fun r e => by cases e; exact ⟨_, hdef, rfl⟩)).row
      · exact hbl.trans (belowK_b (w := w) (Nat.le_refl _) _ D _ _ (by omega) hdef rfl rfl)
    · have HR := Lib.hid (HE2.out h0)
      have hne : (ch != 0) = true := by simpa using h0
      clear h0 HE1 HE2
      gi_wp2_with (refine ⟨trivial, ?_⟩; gi_at_call 16; refine (callsIn_wide.2 LC.out).mono ?_)
      rintro e W2 ⟨rfl, hB2⟩
      have hbx := HPB.out.kept (grown_of_below hB2) (fun r e => by cases e)
      have HB2 := Lib.hid (HB.out.trans (hB2.mono hszw))
      have HK2 := Lib.hid ((hB2.block D hDlt).trans HK.out)
      have HPB2 := Lib.hid hbx
      have d0 := hbx.1.cell
      have d1 := hbx.2.1.cell
      have d2 := hbx.2.2.1.cell
      have e3 := hbx.2.2.2.1.cell
      have f0 := hbx.1.frozen
      have f1 := hbx.2.1.frozen
      have f2 := hbx.2.2.1.frozen
      clear hB2 hbx d3
      gi_wp2
      gi_region
      gi_wp2
      have hD5 : w.heap.size + 5 ≤ D := by omega
      have hdef := fin3_def hD5 HK2.out (.slice none 0 0) (.int .i64 (acc.length : Int)) (.int .i64 ch)
      obtain ⟨r1, r2, r3⟩ := fin3_box HPB2.out hD5 (.slice none 0 0) (.int .i64 (acc.length : Int)) (.int .i64 ch) (.deferred none)
      have hbl := fin3_below HB2.out (.slice none 0 0) (.int .i64 (acc.length : Int)) (.int .i64 ch)
      refine ⟨by simp, .inl ⟨_, _, rfl, run_takeDeferred (show (fin3 W2 w.heap.size (.slice none 0 0) (.int .i64 (acc.length : Int)) (.int .i64 ch)).drew.heap[D]? = _ from hdef), ?_⟩⟩
      refine ⟨_, results_parse (W := (fin3 W2 w.heap.size (.slice none 0 0) (.int .i64 (acc.length : Int)) (.int .i64 ch)).drew.putObj D (.deferred none)) rfl rfl rfl rfl r1 r2 r3, .slice none 0 0, ?_, ?_, ?_⟩
      · rw [HR.out]
      · rw [HR.out]; exact URow.nil_ _
      · exact (below_drewN hbl 1).trans (belowK_b (w := w) (Nat.le_refl _) _ D _ _ (by omega) hdef rfl rfl)
  case stop =>
    rintro D c pre W hD hpre ⟨rfl, k, hk, q1, q2, q3, hB⟩ hK
    have hDn : w.heap.size + 5 ≤ D := by omega
    gi_wp2
    refine ⟨by simp, .inl ⟨_, _, rfl, run_takeDeferred hK, ?_⟩⟩
    refine ⟨_, results_parse rfl rfl rfl rfl ((World.putObj_heap_other (by omega)).trans q1) ((World.putObj_heap_other (by omega)).trans q2) ((World.putObj_heap_other (by omega)).trans q3), .slice none 0 0, ?_, ?_, ?_⟩
    · rw [hk]
    · rw [hk]; exact URow.nil_ _
    · exact hB.trans (belowK_b (w := w) (Nat.le_refl _) W D _ _ (by omega) hK rfl rfl)
end Go.Proofs.YtadnkbhigcegmaaDoor
