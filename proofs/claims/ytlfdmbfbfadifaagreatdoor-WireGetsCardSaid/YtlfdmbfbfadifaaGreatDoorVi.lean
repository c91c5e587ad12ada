/-
  The reference's reader: its small functions.
  The reference's reader: texts, bytes, qids.
  The reference's reader: the state of read.
  The reference's reader: qids.
-/
import Derived.Test.YtlfdmbfbfadifaaGreatDoorZt
import Derived.Test.YtlfdmbfbfadifaaGreatDoorYg
import Derived.Test.YtlfdmbfbfadifaaGreatDoorFe
import Derived.Test.YtlfdmbfbfadifaaGreatDoorSs
import Derived.Test.YtlfdmbfbfadifaaGreatDoorVa
import Derived.Deep.RegionHeld3
import Derived.Deep.CutRange
import Derived.StillTailTactics
namespace Go.Proofs.YtlfdmbfbfadifaaGreatDoor
open Go.RowKit

/-- What remains to be read, as cells. -/
def cellsI (x : XS) : Array Value := #[.string (mk x.S), .bool x.bad]
def inV (x : XS) : Value := .agg (cellsI x)
def BlkI (w : World) (b : Nat) (x : XS) : Prop := w.heap[b]? = some (.cells (cellsI x) 66 (0, 0))
theorem qGet (l : List UInt8) (at' wd : Int) (hs : l.length ≤ maxLen) (w : World) :
    Calls Tryz.prog 28 #[.string (mk l), .int .i64 at', .int .i64 wd] w fun e w' => e = .returned (.tuple #[.int .i64 (getR l at' wd).1, .int .i64 (getR l at' wd).2.1, .int .i64 (getR l at' wd).2.2]) ∧ w = w' := St.RGetM l at' wd hs w
theorem qGetText (l : List UInt8) (at' : Int) (hs : l.length ≤ maxLen) (w : World) :
    Calls Tryz.prog 79 #[.string (mk l), .int .i64 at'] w fun e w' => e = .returned (.tuple #[.string (mk (getTextR l at').1), .int .i64 (getTextR l at').2.1, .int .i64 (getTextR l at').2.2]) ∧ Below w.heap.size w w' := St.RGetTextM l at' hs w
/-- Two blocks that were made at the start. -/
theorem two_at {w w3 : World} {c1 c2 : Array Value} {t1 t2 : TypeId} (hB : Below ((w.alloc (.cells c1 t1)).alloc (.cells c2 t2)).heap.size ((w.alloc (.cells c1 t1)).alloc (.cells c2 t2)) w3) :
    w3.heap[w.heap.size]? = some (.cells c1 t1 (0, 0)) ∧ w3.heap[w.heap.size + 1]? = some (.cells c2 t2 (0, 0)) ∧ Below w.heap.size w w3 := by
  have h0 : (w.alloc (.cells c1 t1)).heap.size = w.heap.size + 1 := by simp
  have a1 := heap_alloc_new w (.cells c1 t1)
  have a2 := heap_alloc_new (w.alloc (.cells c1 t1)) (.cells c2 t2)
  rw [h0] at a2
  refine ⟨?_, ?_, ((Below.refl _ w).alloc (Nat.le_refl _) _ |>.alloc (by simp) _).trans (hB.mono (by simp; omega))⟩
  · rw [hB.block _ (by simp; omega)]; exact (Below.heap_alloc _ _ _ (by simp)).trans a1
  · rw [hB.block _ (by simp)]; exact a2
theorem set_two {W : World} {b : Nat} {T : TypeId} {x y u v : Value} (h : W.heap[b]? = some (.cells #[x, y] T (0, 0))) : ((W.setCell ⟨b, 0, none⟩ u).setCell ⟨b, 1, none⟩ v).heap[b]? = some (.cells #[u, v] T (0, 0)) := by
  simp [World.setCell, Array.getElem?_modify, h]
theorem results_in {fn : Func} {p u b : Nat} {cs : Array Value} {w : World} {tmps : Array Value} (h : fn.results = #[.cell p 66, .tmp u]) (hp : tmps.getD p undef = .pointer (some ⟨b, 0, none⟩)) (hb : w.heap[b]? = some (.cells cs 66 (0, 0))) (hs : some 2 = some cs.size) :
    (results fn tmps).run Tryz.prog w = .ok (.tuple #[.agg cs, tmps.getD u undef]) w := by
  have ha : (asAddr (.pointer (some ⟨b, 0, none⟩))).run Tryz.prog w = .ok ⟨b, 0, none⟩ w := rfl
  have hp' : tmps[p]?.getD undef = .pointer (some ⟨b, 0, none⟩) := by simpa using hp
  have hl := run_loadVar_row (P := Tryz.prog) w b 66 66 cs (0, 0) _ hb Tryz.underlying66 rfl ((by kernel_rfl : (Tryz.prog.info? 66).map (·.size) = some 2).trans hs)
  simp only [results, h]
  simp [Sem.run_bind, Result.andThen, hp', ha, hl]

set_option maxHeartbeats 4000000 in
set_option maxRecDepth 100000 in
theorem Xnum (x : XS) (wd : Nat) (wi : Int) (hwi : wi = wd) (hs : x.S.length ≤ 1000000) (w : World) :
    Calls Tryz.prog 29 #[inV x, .int .i64 wi] w fun e w' => e = .returned (.tuple #[inV (qN x wd).2, .int .i64 (qN x wd).1]) ∧ Below w.heap.size w w' := by
  subst hwi
  have HP := Lib.hid (fun W => qGet x.S 0 wd (by unfold maxLen; omega) W)
  obtain ⟨h1, h2, hB⟩ := two_at (w := w) (c1 := cellsI x) (c2 := #[.string ⟨#[]⟩, .bool false]) (t1 := 66) (t2 := 66) (Below.refl _ _)
  obtain ⟨W0, hW0⟩ : ∃ W0, (w.alloc (.cells (cellsI x) 66)).alloc (.cells #[.string ⟨#[]⟩, .bool false] 66) = W0 := ⟨_, rfl⟩
  rw [hW0] at h1 h2 hB
  replace hW0 := Lib.hid hW0
  have HB := Lib.hid hB
  have H2 := Lib.hid h2
  have x0 := (Lib.cell_of_heap h1 0).trans (show _ = some (.string (mk x.S)) from rfl)
  have x1 := (Lib.cell_of_heap h1 1).trans (show _ = some (.bool x.bad) from rfl)
  have z0 := Lib.frozen_of_heap h2 0
  have z1 := Lib.frozen_of_heap h2 1
  have y0 := (Lib.cell_of_heap h2 0).trans (show _ = some (.string ⟨#[]⟩) from rfl)
  have y1 := (Lib.cell_of_heap h2 1).trans (show _ = some (.bool false) from rfl)
  have hend := Lib.hid (fun u v => ((HB.out.setCell (p := ⟨w.heap.size + 1, 0, none⟩) (Nat.le_succ _) u).setCell (p := ⟨w.heap.size + 1, 1, none⟩) (Nat.le_succ _) v))
  clear h1 h2 hB
  by_cases hbad : x.bad = true
  · have hq : qN x wd = (0, stopX) := by unfold qN; rw [if_pos (.inl hbad)]
    rw [hq]
    rw [hbad] at x1
    replace hq := Lib.hid hq
    clear hbad
    unfold inV cellsI at *
    go_enter Tryz.func29, Tryz.ntmps29
    go_wp2_with (simp only [hW0.out])
    refine (HP.out _).mono ?_
    rintro e w3 ⟨rfl, rfl⟩
    go_wp2
    refine bodyPost_ret (results_in rfl rfl (set_two H2.out) rfl) rfl ⟨rfl, hend.out _ _⟩
  have hbf : x.bad = false := by simpa using hbad
  rw [hbf] at x1
  by_cases he : (getR x.S 0 wd).2.2 = 0
  case neg =>
    have hq : qN x wd = (0, stopX) := by unfold qN; rw [if_pos (.inr he)]
    rw [hq]
    have hne : ((getR x.S 0 wd).2.2 != 0) = true := by simpa using he
    replace hq := Lib.hid hq
    clear hbad he hbf
    generalize getR x.S 0 wd = gr at *
    unfold inV cellsI at *
    go_enter Tryz.func29, Tryz.ntmps29
    go_wp2_with (simp only [hW0.out])
    refine (HP.out _).mono ?_
    rintro e w3 ⟨rfl, rfl⟩
    go_wp2
    refine bodyPost_ret (results_in rfl rfl (set_two H2.out) rfl) rfl ⟨rfl, hend.out _ _⟩
  case pos =>
    have hq : qN x wd = ((getR x.S 0 wd).1, ⟨x.S.drop (getR x.S 0 wd).2.1.toNat, false⟩) := by unfold qN; rw [if_neg (by rw [hbf]; simp [he])]
    have hsg := getR_seg (b := x.S) (a := 0) (w := wd) he
    obtain ⟨g1, g2⟩ := hsg
    have g2 : getR x.S 0 wd = (((val (cut x.S 0 wd) : Nat) : Int), ((0 : Nat) : Int) + (wd : Int), 0) := g2
    rw [g2] at hq HP
    dsimp only at hq HP
    rw [show (((0 : Nat) : Int) + (wd : Int)) = (wd : Int) by omega] at hq HP
    rw [Int.toNat_natCast] at hq
    rw [hq]
    have hz := mk_size x.S
    have hx := mk_tail x.S wd (by omega)
    have b1 : wd ≤ (mk x.S).size := by omega
    replace hx := Lib.hid hx
    replace hz := Lib.hid hz
    replace hq := Lib.hid hq
    clear hbad he hbf g1 g2
    unfold inV cellsI at *
    rw [← hx.out]
    generalize mk x.S = s at *
    go_enter Tryz.func29, Tryz.ntmps29
    go_wp2_with (simp only [hW0.out])
    refine (HP.out _).mono ?_
    rintro e w3 ⟨rfl, rfl⟩
    go_wp2
    refine bodyPost_ret (results_in rfl rfl (set_two H2.out) rfl) rfl ⟨rfl, hend.out _ _⟩
end Go.Proofs.YtlfdmbfbfadifaaGreatDoor

namespace Go.Proofs.YtlfdmbfbfadifaaGreatDoor
open Go.RowKit

theorem BlkI.lt {w : World} {b : Nat} {x : XS} (h : BlkI w b x) : b < w.heap.size := (Array.getElem?_eq_some_iff.1 h).1
theorem BlkI.new (w : World) (x : XS) : BlkI (w.alloc (.cells (cellsI x) 66)) w.heap.size x := heap_alloc_new w _
theorem BlkI.below {w w' : World} {b B : Nat} {x : XS} (h : BlkI w b x) (hB : Below B w w') (hb : b < B) : BlkI w' b x := (hB.block b hb).trans h
theorem BlkI.alloc {w : World} {b : Nat} {x : XS} (h : BlkI w b x) (o : Obj) : BlkI (w.alloc o) b x := (Below.heap_alloc w o b h.lt).trans h
theorem info_in : (Tryz.prog.info? 66).map (·.size) = some 2 := by kernel_rfl
def zeroX : XS := ⟨[], false⟩
theorem zero_in : Hid (∀ W : World, W.alloc (.cells #[.string ⟨#[]⟩, .bool false] 66) = W.alloc (.cells (cellsI zeroX) 66)) := Lib.hid fun _ => rfl

set_option maxHeartbeats 4000000 in
set_option maxRecDepth 100000 in
theorem Xtext_bad (l : List UInt8) (hs : l.length ≤ 1000000) (w : World) :
    Calls Tryz.prog 52 #[.agg #[.string (mk l), .bool true]] w fun e w' => e = .returned (.tuple #[.agg #[.string ⟨#[]⟩, .bool true], .string ⟨#[]⟩]) ∧ Below w.heap.size w w' := by
  have HP := Lib.hid (fun W => qGetText l 0 (by unfold maxLen; omega) W)
  generalize getTextR l 0 = gr at *
  obtain ⟨W0, hW0⟩ : ∃ W0, (w.alloc (.cells #[.string (mk l), .bool true] 66)).alloc (.cells #[.string ⟨#[]⟩, .bool false] 66) = W0 := ⟨_, rfl⟩
  have HT := Lib.hid (fun W3 hB => two_at (w := w) (w3 := W3) (c1 := #[.string (mk l), .bool true]) (c2 := #[.string ⟨#[]⟩, .bool false]) (t1 := 66) (t2 := 66) hB)
  rw [hW0] at HT
  replace hW0 := Lib.hid hW0
  have x0 := (Lib.cell_of_heap (HT.out _ (Below.refl _ _)).1 0).trans (show _ = some (.string (mk l)) from rfl)
  go_enter Tryz.func52, Tryz.ntmps52
  go_wp2_with (simp only [hW0.out])
  refine (HP.out _).mono ?_
  rintro e w3 ⟨rfl, hB3⟩
  clear x0
  obtain ⟨h1, h2, hB⟩ := HT.out _ hB3
  have HB := Lib.hid hB
  have H1 := Lib.hid h1
  have H2 := Lib.hid h2
  have x0 := (Lib.cell_of_heap h1 0).trans (show _ = some (.string (mk l)) from rfl)
  have x1 := (Lib.cell_of_heap h1 1).trans (show _ = some (.bool true) from rfl)
  have z0 := Lib.frozen_of_heap h2 0
  have z1 := Lib.frozen_of_heap h2 1
  have y0 := (Lib.cell_of_heap h2 0).trans (show _ = some (.string ⟨#[]⟩) from rfl)
  have y1 := (Lib.cell_of_heap h2 1).trans (show _ = some (.bool false) from rfl)
  clear h1 h2 hB hB3
  go_wp2
  refine bodyPost_ret (results_in rfl rfl (set_two H2.out) rfl) rfl ⟨rfl, (HB.out.setCell (p := ⟨w.heap.size + 1, 0, none⟩) (Nat.le_succ _) _).setCell (p := ⟨w.heap.size + 1, 1, none⟩) (Nat.le_succ _) _⟩
set_option maxHeartbeats 4000000 in
set_option maxRecDepth 100000 in
theorem Xtext_err (l : List UInt8) (he : (getTextR l 0).2.2 ≠ 0) (hs : l.length ≤ 1000000) (w : World) :
    Calls Tryz.prog 52 #[.agg #[.string (mk l), .bool false]] w fun e w' => e = .returned (.tuple #[.agg #[.string ⟨#[]⟩, .bool true], .string ⟨#[]⟩]) ∧ Below w.heap.size w w' := by
  have HP := Lib.hid (fun W => qGetText l 0 (by unfold maxLen; omega) W)
  have hne : ((getTextR l 0).2.2 != 0) = true := by simpa using he
  clear he
  generalize getTextR l 0 = gr at *
  obtain ⟨W0, hW0⟩ : ∃ W0, (w.alloc (.cells #[.string (mk l), .bool false] 66)).alloc (.cells #[.string ⟨#[]⟩, .bool false] 66) = W0 := ⟨_, rfl⟩
  have HT := Lib.hid (fun W3 hB => two_at (w := w) (w3 := W3) (c1 := #[.string (mk l), .bool false]) (c2 := #[.string ⟨#[]⟩, .bool false]) (t1 := 66) (t2 := 66) hB)
  rw [hW0] at HT
  replace hW0 := Lib.hid hW0
  have x0 := (Lib.cell_of_heap (HT.out _ (Below.refl _ _)).1 0).trans (show _ = some (.string (mk l)) from rfl)
  go_enter Tryz.func52, Tryz.ntmps52
  go_wp2_with (simp only [hW0.out])
  refine (HP.out _).mono ?_
  rintro e w3 ⟨rfl, hB3⟩
  clear x0
  obtain ⟨h1, h2, hB⟩ := HT.out _ hB3
  have HB := Lib.hid hB
  have H1 := Lib.hid h1
  have H2 := Lib.hid h2
  have x0 := (Lib.cell_of_heap h1 0).trans (show _ = some (.string (mk l)) from rfl)
  have x1 := (Lib.cell_of_heap h1 1).trans (show _ = some (.bool false) from rfl)
  have z0 := Lib.frozen_of_heap h2 0
  have z1 := Lib.frozen_of_heap h2 1
  have y0 := (Lib.cell_of_heap h2 0).trans (show _ = some (.string ⟨#[]⟩) from rfl)
  have y1 := (Lib.cell_of_heap h2 1).trans (show _ = some (.bool false) from rfl)
  clear h1 h2 hB hB3
  go_wp2
  refine bodyPost_ret (results_in rfl rfl (set_two H2.out) rfl) rfl ⟨rfl, (HB.out.setCell (p := ⟨w.heap.size + 1, 0, none⟩) (Nat.le_succ _) _).setCell (p := ⟨w.heap.size + 1, 1, none⟩) (Nat.le_succ _) _⟩
set_option maxHeartbeats 4000000 in
set_option maxRecDepth 100000 in
theorem Xtext_ok (l : List UInt8) (t : List UInt8) (c : Nat) (hc : c ≤ l.length) (ht : getTextR l 0 = (t, (c : Int), 0)) (hs : l.length ≤ 1000000) (w : World) :
    Calls Tryz.prog 52 #[.agg #[.string (mk l), .bool false]] w fun e w' => e = .returned (.tuple #[.agg #[.string (mk (l.drop c)), .bool false], .string (mk t)]) ∧ Below w.heap.size w w' := by
  have HP := fun W => qGetText l 0 (by unfold maxLen; omega) W
  rw [ht] at HP
  dsimp only at HP
  replace HP := Lib.hid HP
  have hz := mk_size l
  have hx := mk_tail l c hc
  have b1 : c ≤ (mk l).size := by omega
  replace hx := Lib.hid hx
  replace hz := Lib.hid hz
  rw [← hx.out]
  clear ht hc
  obtain ⟨W0, hW0⟩ : ∃ W0, (w.alloc (.cells #[.string (mk l), .bool false] 66)).alloc (.cells #[.string ⟨#[]⟩, .bool false] 66) = W0 := ⟨_, rfl⟩
  have HT := Lib.hid (fun W3 hB => two_at (w := w) (w3 := W3) (c1 := #[.string (mk l), .bool false]) (c2 := #[.string ⟨#[]⟩, .bool false]) (t1 := 66) (t2 := 66) hB)
  rw [hW0] at HT
  replace hW0 := Lib.hid hW0
  generalize mk l = s at *
  have x0 := (Lib.cell_of_heap (HT.out _ (Below.refl _ _)).1 0).trans (show _ = some (.string s) from rfl)
  go_enter Tryz.func52, Tryz.ntmps52
  go_wp2_with (simp only [hW0.out])
  refine (HP.out _).mono ?_
  rintro e w3 ⟨rfl, hB3⟩
  clear x0
  obtain ⟨h1, h2, hB⟩ := HT.out _ hB3
  have HB := Lib.hid hB
  have H1 := Lib.hid h1
  have H2 := Lib.hid h2
  have x0 := (Lib.cell_of_heap h1 0).trans (show _ = some (.string s) from rfl)
  have x1 := (Lib.cell_of_heap h1 1).trans (show _ = some (.bool false) from rfl)
  have z0 := Lib.frozen_of_heap h2 0
  have z1 := Lib.frozen_of_heap h2 1
  have y0 := (Lib.cell_of_heap h2 0).trans (show _ = some (.string ⟨#[]⟩) from rfl)
  have y1 := (Lib.cell_of_heap h2 1).trans (show _ = some (.bool false) from rfl)
  clear h1 h2 hB hB3
  go_wp2
  refine bodyPost_ret (results_in rfl rfl (set_two H2.out) rfl) rfl ⟨rfl, (HB.out.setCell (p := ⟨w.heap.size + 1, 0, none⟩) (Nat.le_succ _) _).setCell (p := ⟨w.heap.size + 1, 1, none⟩) (Nat.le_succ _) _⟩
theorem Xtext (x : XS) (hs : x.S.length ≤ 1000000) (w : World) :
    Calls Tryz.prog 52 #[inV x] w fun e w' => e = .returned (.tuple #[inV (qT x).2, .string (mk (qT x).1)]) ∧ Below w.heap.size w w' := by
  obtain ⟨l, bad⟩ := x
  cases bad with
  | true =>
    have hq : qT ⟨l, true⟩ = ([], stopX) := by unfold qT; rw [if_pos (.inl rfl)]
    rw [hq]
    exact Xtext_bad l hs w
  | false =>
    by_cases he : (getTextR l 0).2.2 = 0
    · obtain ⟨t, c, ht⟩ := textAt_of (b := l) (a := 0) he
      have g2 : getTextR l 0 = (t, (c : Int), 0) := getTextR_some ht
      have hq : qT ⟨l, false⟩ = (t, ⟨l.drop c, false⟩) := by
        unfold qT
        rw [if_neg (by simp [g2])]
        dsimp only
        rw [g2]
        rfl
      rw [hq]
      exact Xtext_ok l t c (textAt_le ht).2.1 g2 hs w
    · have hq : qT ⟨l, false⟩ = ([], stopX) := by unfold qT; rw [if_pos (.inr he)]
      rw [hq]
      exact Xtext_err l he hs w

set_option maxHeartbeats 4000000 in
set_option maxRecDepth 100000 in
theorem Xraw_bad (l : List UInt8) (n : Nat) (_hs : l.length ≤ 1000000) (w : World) :
    Calls Tryz.prog 81 #[.agg #[.string (mk l), .bool true], .int .i64 (n : Int)] w fun e w' => e = .returned (.tuple #[.agg #[.string ⟨#[]⟩, .bool true], .string ⟨#[]⟩]) ∧ Below w.heap.size w w' := by
  have hz := mk_size l
  replace hz := Lib.hid hz
  obtain ⟨W0, hW0⟩ : ∃ W0, (w.alloc (.cells #[.string (mk l), .bool true] 66)).alloc (.cells #[.string ⟨#[]⟩, .bool false] 66) = W0 := ⟨_, rfl⟩
  have HT := Lib.hid (fun W3 hB => two_at (w := w) (w3 := W3) (c1 := #[.string (mk l), .bool true]) (c2 := #[.string ⟨#[]⟩, .bool false]) (t1 := 66) (t2 := 66) hB)
  rw [hW0] at HT
  replace hW0 := Lib.hid hW0
  obtain ⟨h1, h2, hB⟩ := HT.out _ (Below.refl _ _)
  have HB := Lib.hid hB
  have H1 := Lib.hid h1
  have H2 := Lib.hid h2
  have x0 := (Lib.cell_of_heap h1 0).trans (show _ = some (.string (mk l)) from rfl)
  have x1 := (Lib.cell_of_heap h1 1).trans (show _ = some (.bool true) from rfl)
  have z0 := Lib.frozen_of_heap h2 0
  have z1 := Lib.frozen_of_heap h2 1
  have y0 := (Lib.cell_of_heap h2 0).trans (show _ = some (.string ⟨#[]⟩) from rfl)
  have y1 := (Lib.cell_of_heap h2 1).trans (show _ = some (.bool false) from rfl)
  clear h1 h2 hB
  go_enter Tryz.func81, Tryz.ntmps81
  go_wp2_with (simp only [hW0.out])
  refine bodyPost_ret (results_in rfl rfl (set_two H2.out) rfl) rfl ⟨rfl, (HB.out.setCell (p := ⟨w.heap.size + 1, 0, none⟩) (Nat.le_succ _) _).setCell (p := ⟨w.heap.size + 1, 1, none⟩) (Nat.le_succ _) _⟩
set_option maxHeartbeats 4000000 in
set_option maxRecDepth 100000 in
theorem Xraw_err (l : List UInt8) (n : Nat) (he : l.length < n) (_hs : l.length ≤ 1000000) (w : World) :
    Calls Tryz.prog 81 #[.agg #[.string (mk l), .bool false], .int .i64 (n : Int)] w fun e w' => e = .returned (.tuple #[.agg #[.string ⟨#[]⟩, .bool true], .string ⟨#[]⟩]) ∧ Below w.heap.size w w' := by
  have hz := mk_size l
  have hd : decide ((mk l).size < n) = true := by simp; omega
  clear he
  replace hz := Lib.hid hz
  obtain ⟨W0, hW0⟩ : ∃ W0, (w.alloc (.cells #[.string (mk l), .bool false] 66)).alloc (.cells #[.string ⟨#[]⟩, .bool false] 66) = W0 := ⟨_, rfl⟩
  have HT := Lib.hid (fun W3 hB => two_at (w := w) (w3 := W3) (c1 := #[.string (mk l), .bool false]) (c2 := #[.string ⟨#[]⟩, .bool false]) (t1 := 66) (t2 := 66) hB)
  rw [hW0] at HT
  replace hW0 := Lib.hid hW0
  obtain ⟨h1, h2, hB⟩ := HT.out _ (Below.refl _ _)
  have HB := Lib.hid hB
  have H1 := Lib.hid h1
  have H2 := Lib.hid h2
  have x0 := (Lib.cell_of_heap h1 0).trans (show _ = some (.string (mk l)) from rfl)
  have x1 := (Lib.cell_of_heap h1 1).trans (show _ = some (.bool false) from rfl)
  have z0 := Lib.frozen_of_heap h2 0
  have z1 := Lib.frozen_of_heap h2 1
  have y0 := (Lib.cell_of_heap h2 0).trans (show _ = some (.string ⟨#[]⟩) from rfl)
  have y1 := (Lib.cell_of_heap h2 1).trans (show _ = some (.bool false) from rfl)
  clear h1 h2 hB
  go_enter Tryz.func81, Tryz.ntmps81
  go_wp2_with (simp only [hW0.out])
  refine bodyPost_ret (results_in rfl rfl (set_two H2.out) rfl) rfl ⟨rfl, (HB.out.setCell (p := ⟨w.heap.size + 1, 0, none⟩) (Nat.le_succ _) _).setCell (p := ⟨w.heap.size + 1, 1, none⟩) (Nat.le_succ _) _⟩
/-- A region's state: what is read lies in its block, the result's block is there. -/
def StI (w : World) (l : List UInt8) (W : World) : Prop := Below w.heap.size w W ∧ W.heap[w.heap.size]? = some (.cells #[.string (mk l), .bool false] 66 (0, 0)) ∧ ∃ u v, W.heap[w.heap.size + 1]? = some (.cells #[u, v] 66 (0, 0))
theorem StI.drew {w W : World} {l : List UInt8} (h : StI w l W) : StI w l W.drew := ⟨below_drew h.1, h.2.1, h.2.2⟩
theorem StI.set {w W : World} {l : List UInt8} (h : StI w l W) (u v : Value) : StI w l ((W.setCell ⟨w.heap.size + 1, 0, none⟩ u).setCell ⟨w.heap.size + 1, 1, none⟩ v) := by
  obtain ⟨h1, h2, u0, v0, h3⟩ := h
  refine ⟨(h1.setCell (p := ⟨w.heap.size + 1, 0, none⟩) (Nat.le_succ _) u).setCell (p := ⟨w.heap.size + 1, 1, none⟩) (Nat.le_succ _) v, ?_, u, v, set_two h3⟩
  rw [Below.heap_setCell _ _ _ _ (by show _ ≠ w.heap.size + 1; omega), Below.heap_setCell _ _ _ _ (by show _ ≠ w.heap.size + 1; omega)]
  exact h2
set_option maxHeartbeats 4000000 in
set_option maxRecDepth 100000 in
theorem Xraw_ok (l : List UInt8) (n : Nat) (hn : n ≤ l.length) (_hs : l.length ≤ 1000000) (w : World) :
    Calls Tryz.prog 81 #[.agg #[.string (mk l), .bool false], .int .i64 (n : Int)] w fun e w' => e = .returned (.tuple #[.agg #[.string (mk (l.drop n)), .bool false], .string (mk (l.take n))]) ∧ Below w.heap.size w w' := by
  have hz := mk_size l
  have hd : decide ((mk l).size < n) = false := by simp; omega
  have hx := mk_tail l n hn
  have hx2 : (mk l).extract 0 n = mk (l.take n) := by
    have := mk_slice l 0 n
    rw [Nat.zero_add] at this
    rw [this]; unfold cut; simp
  have b1 : n ≤ (mk l).size := by omega
  replace hx := Lib.hid hx
  replace hx2 := Lib.hid hx2
  replace hz := Lib.hid hz
  rw [← hx.out, ← hx2.out]
  clear hn
  obtain ⟨W0, hW0⟩ : ∃ W0, (w.alloc (.cells #[.string (mk l), .bool false] 66)).alloc (.cells #[.string ⟨#[]⟩, .bool false] 66) = W0 := ⟨_, rfl⟩
  have HT := Lib.hid (fun W3 hB => two_at (w := w) (w3 := W3) (c1 := #[.string (mk l), .bool false]) (c2 := #[.string ⟨#[]⟩, .bool false]) (t1 := 66) (t2 := 66) hB)
  rw [hW0] at HT
  replace hW0 := Lib.hid hW0
  obtain ⟨h1, h2, hB⟩ := HT.out _ (Below.refl _ _)
  have HB := Lib.hid hB
  have H1 := Lib.hid h1
  have H2 := Lib.hid h2
  have x0 := (Lib.cell_of_heap h1 0).trans (show _ = some (.string (mk l)) from rfl)
  have x1 := (Lib.cell_of_heap h1 1).trans (show _ = some (.bool false) from rfl)
  have z0 := Lib.frozen_of_heap h2 0
  have z1 := Lib.frozen_of_heap h2 1
  have y0 := (Lib.cell_of_heap h2 0).trans (show _ = some (.string ⟨#[]⟩) from rfl)
  have y1 := (Lib.cell_of_heap h2 1).trans (show _ = some (.bool false) from rfl)
  have HK : Hid (∀ W, StI w l W → W.cell? ⟨w.heap.size, 0, none⟩ = some (.string (mk l))) := Lib.hid fun W h => (Lib.cell_of_heap h.2.1 0).trans rfl
  have HS' : Hid (StI w l W0.drew) := Lib.hid (StI.drew ⟨hB, h1, _, _, h2⟩)
  clear h1 h2 hB
  go_enter Tryz.func81, Tryz.ntmps81
  go_wp2_with (simp only [hW0.out])
  refine wp_region_held_drew (S := StI w l) (by kernel_rfl) HS'.out (fun hHeld => ?_)
  refine takeD (i := 0) (oi := _) (d := some 16) (v := .pointer (some ⟨w.heap.size, 0, none⟩)) rfl rfl (by kernel_rfl) (by kernel_rfl) (by kernel_rfl) (fun _ _ _ h => h) (Or.inl ⟨by rfl, fun W hSw => by go_simp⟩) (by assumption) ?_
  try simp only [Act.put, List.setIfInBounds_toArray, List.set_cons_zero, List.set_cons_succ]
  refine takeD (i := 1) (oi := _) (d := some 17) (v := .string (mk l)) rfl rfl (by kernel_rfl) (by kernel_rfl) (by kernel_rfl) (fun _ _ _ h => h) (Or.inl ⟨by rfl, fun W hSw => by have q := HK.out W hSw; go_simp⟩) (by assumption) ?_
  try simp only [Act.put, List.setIfInBounds_toArray, List.set_cons_zero, List.set_cons_succ]
  refine takeD (i := 2) (oi := _) (d := some 18) (v := .int .i64 (n : Int)) rfl rfl (by kernel_rfl) (by kernel_rfl) (by kernel_rfl) (fun _ _ _ h => h) (Or.inl ⟨by rfl, fun W hSw => by go_simp⟩) (by assumption) ?_
  try simp only [Act.put, List.setIfInBounds_toArray, List.set_cons_zero, List.set_cons_succ]
  refine takeD (i := 3) (oi := _) (d := some 19) (v := .string ((mk l).extract n (mk l).size)) rfl rfl (by kernel_rfl) (by kernel_rfl) (by kernel_rfl) (fun _ _ _ h => h) (Or.inl ⟨by rfl, fun W hSw => by go_simp⟩) (by assumption) ?_
  try simp only [Act.put, List.setIfInBounds_toArray, List.set_cons_zero, List.set_cons_succ]
  refine takeD (i := 4) (oi := _) (d := some 20) (v := .agg #[.string ((mk l).extract n (mk l).size), .bool false]) rfl rfl (by kernel_rfl) (by kernel_rfl) (by kernel_rfl) (fun _ _ _ h => h) (Or.inl ⟨by rfl, fun W hSw => by go_simp⟩) (by assumption) ?_
  try simp only [Act.put, List.setIfInBounds_toArray, List.set_cons_zero, List.set_cons_succ]
  refine takeD (i := 5) (oi := _) (d := some 21) (v := .pointer (some ⟨w.heap.size, 0, none⟩)) rfl rfl (by kernel_rfl) (by kernel_rfl) (by kernel_rfl) (fun _ _ _ h => h) (Or.inl ⟨by rfl, fun W hSw => by go_simp⟩) (by assumption) ?_
  try simp only [Act.put, List.setIfInBounds_toArray, List.set_cons_zero, List.set_cons_succ]
  refine takeD (i := 6) (oi := _) (d := some 22) (v := .string (mk l)) rfl rfl (by kernel_rfl) (by kernel_rfl) (by kernel_rfl) (fun _ _ _ h => h) (Or.inl ⟨by rfl, fun W hSw => by have q := HK.out W hSw; go_simp⟩) (by assumption) ?_
  try simp only [Act.put, List.setIfInBounds_toArray, List.set_cons_zero, List.set_cons_succ]
  refine takeD (i := 7) (oi := _) (d := some 23) (v := .int .i64 (n : Int)) rfl rfl (by kernel_rfl) (by kernel_rfl) (by kernel_rfl) (fun _ _ _ h => h) (Or.inl ⟨by rfl, fun W hSw => by go_simp⟩) (by assumption) ?_
  try simp only [Act.put, List.setIfInBounds_toArray, List.set_cons_zero, List.set_cons_succ]
  refine takeD (i := 8) (oi := _) (d := some 24) (v := .string ((mk l).extract 0 n)) rfl rfl (by kernel_rfl) (by kernel_rfl) (by kernel_rfl) (fun _ _ _ h => h) (Or.inl ⟨by rfl, fun W hSw => by go_simp⟩) (by assumption) ?_
  try simp only [Act.put, List.setIfInBounds_toArray, List.set_cons_zero, List.set_cons_succ]
  refine wpAnyH_ready (rs := [9]) (by kernel_rfl) (by simp) ?_
  refine AllReadyH.cons (o := _) rfl (fun K hK => ?_) AllReadyH.nil
  obtain ⟨u0, v0, h3⟩ := hHeld.2.2
  have z0' := Lib.frozen_of_heap h3 0
  have z1' := Lib.frozen_of_heap h3 1
  have y0' := (Lib.cell_of_heap h3 0).trans (show _ = some u0 from rfl)
  have y1' := (Lib.cell_of_heap h3 1).trans (show _ = some v0 from rfl)
  go_simp
  refine hK.out _ _ (hHeld.set _ _) (fun hHeld => ?_)
  clear hK K
  try simp only [Act.put, List.setIfInBounds_toArray, List.set_cons_zero, List.set_cons_succ]
  refine takeD (i := 10) (oi := _) (d := some 5) (v := .string ((mk l).extract 0 n)) rfl rfl (by kernel_rfl) (by kernel_rfl) (by kernel_rfl) (fun _ _ _ h => h) (Or.inl ⟨by rfl, fun W hSw => by go_simp⟩) (by assumption) ?_
  try simp only [Act.put, List.setIfInBounds_toArray, List.set_cons_zero, List.set_cons_succ]
  refine wpAnyH_done (by kernel_rfl) ?_ _
  go_wp2
  refine bodyPost_ret (results_in rfl rfl (set_two H2.out) rfl) rfl ⟨rfl, below_drew ((HB.out.setCell (p := ⟨w.heap.size + 1, 0, none⟩) (Nat.le_succ _) _).setCell (p := ⟨w.heap.size + 1, 1, none⟩) (Nat.le_succ _) _)⟩
theorem Xraw (x : XS) (n : Nat) (hs : x.S.length ≤ 1000000) (w : World) :
    Calls Tryz.prog 81 #[inV x, .int .i64 (n : Int)] w fun e w' => e = .returned (.tuple #[inV (qRaw ((n : Int), x)).2, .string (mk (qRaw ((n : Int), x)).1)]) ∧ Below w.heap.size w w' := by
  obtain ⟨l, bad⟩ := x
  cases bad with
  | true =>
    have hq : qRaw ((n : Int), ⟨l, true⟩) = ([], stopX) := by unfold qRaw; rw [if_pos (.inl rfl)]
    rw [hq]
    exact Xraw_bad l n hs w
  | false =>
    by_cases he : l.length < n
    · have hq : qRaw ((n : Int), ⟨l, false⟩) = ([], stopX) := by unfold qRaw; rw [if_pos (.inr (by dsimp only; omega))]
      rw [hq]
      exact Xraw_err l n he hs w
    · have hq : qRaw ((n : Int), ⟨l, false⟩) = (l.take n, ⟨l.drop n, false⟩) := by unfold qRaw; rw [if_neg (by simp; omega)]; rfl
      rw [hq]
      exact Xraw_ok l n (by omega) hs w
end Go.Proofs.YtlfdmbfbfadifaaGreatDoor

namespace Go.Proofs.YtlfdmbfbfadifaaGreatDoor
open Go.RowKit

/-- What read holds: what remains, the message, the two results. -/
structure RSt (w W : World) (x : XS) (m : MM) : Prop where
  base : Below w.heap.size w W
  inB : BlkI W w.heap.size x
  msB : BlkM W (w.heap.size + 1) m
  inR : BlkI W (w.heap.size + 2) zeroX
  msR : BlkM W (w.heap.size + 3) noM
theorem RSt.go {w W W' : World} {x : XS} {m : MM} (h : RSt w W x m) (hB : Below W.heap.size W W') : RSt w W' x m :=
  ⟨h.base.trans (hB.mono h.base.size), h.inB.below hB h.inB.lt, h.msB.below hB h.msB.lt, h.inR.below hB h.inR.lt, h.msR.below hB h.msR.lt⟩
theorem RSt.drew {w W : World} {x : XS} {m : MM} (h : RSt w W x m) : RSt w W.drew x m := ⟨below_drew h.base, h.inB, h.msB, h.inR, h.msR⟩
theorem setRow_ne {w : World} {b b' : Nat} {cs : Array Value} (hb : b ≠ b') : (w.setRow b' cs).heap[b]? = w.heap[b]? := setRow_other w b' b cs hb
theorem RSt.setI {w W : World} {x : XS} {m : MM} (h : RSt w W x m) (y : XS) : RSt w (W.setRow w.heap.size (cellsI y)) y m :=
  ⟨below_setRow h.base (Nat.le_refl _) _, setRow_heap _ _ _ _ _ _ h.inB, (setRow_ne (by omega)).trans h.msB, (setRow_ne (by omega)).trans h.inR, (setRow_ne (by omega)).trans h.msR⟩
theorem RSt.setM {w W : World} {x : XS} {m m' : MM} {j : Nat} {v : Value} (h : RSt w W x m) (he : (cellsB m).setIfInBounds j v = cellsB m') : RSt w (W.setCell ⟨w.heap.size + 1, j, none⟩ v) x m' :=
  ⟨h.base.setCell (p := ⟨w.heap.size + 1, j, none⟩) (Nat.le_succ _) v, (Below.heap_setCell _ _ _ _ (by show _ ≠ w.heap.size + 1; omega)).trans h.inB, by
    have := set_heap (o := j) (v := v) h.msB
    rw [he] at this
    exact this, (Below.heap_setCell _ _ _ _ (by show _ ≠ w.heap.size + 1; omega)).trans h.inR, (Below.heap_setCell _ _ _ _ (by show _ ≠ w.heap.size + 1; omega)).trans h.msR⟩
theorem RSt.new (w : World) (x : XS) (m : MM) : ∃ W, (((w.alloc (.cells (cellsI x) 66)).alloc (.cells (cellsB m) 30)).alloc (.cells (cellsI zeroX) 66)).alloc (.cells (cellsB noM) 30) = W ∧ RSt w W x m := by
  obtain ⟨W0, hW, hz, hB, h1, h2, h3⟩ : ∃ W0, ((w.alloc (.cells (cellsI x) 66)).alloc (.cells (cellsB m) 30)).alloc (.cells (cellsI zeroX) 66) = W0 ∧ W0.heap.size = w.heap.size + 3 ∧ Below w.heap.size w W0 ∧
      W0.heap[w.heap.size]? = some (.cells (cellsI x) 66 (0, 0)) ∧ W0.heap[w.heap.size + 1]? = some (.cells (cellsB m) 30 (0, 0)) ∧ W0.heap[w.heap.size + 2]? = some (.cells (cellsI zeroX) 66 (0, 0)) := by
    have h0 : ((w.alloc (.cells (cellsI x) 66)).alloc (.cells (cellsB m) 30)).heap.size = w.heap.size + 2 := by simp
    obtain ⟨a1, a2, a3⟩ := two_at (w := w) (c1 := cellsI x) (c2 := cellsB m) (t1 := 66) (t2 := 30) (Below.refl _ _)
    have b3 := heap_alloc_new ((w.alloc (.cells (cellsI x) 66)).alloc (.cells (cellsB m) 30)) (.cells (cellsI zeroX) 66)
    rw [h0] at b3
    exact ⟨_, rfl, by simp, a3.alloc (by omega) _, (Below.heap_alloc _ _ _ (by omega)).trans a1, (Below.heap_alloc _ _ _ (by omega)).trans a2, b3⟩
  rw [hW]
  have hn := BlkM.new W0 noM
  rw [hz] at hn
  exact ⟨_, rfl, hB.alloc (by omega) _, BlkI.alloc h1 _, BlkM.alloc h2 _, BlkI.alloc h3 _, hn⟩
theorem results_IM {fn : Func} {p u b c : Nat} {x : XS} {m : MM} {w : World} {tmps : Array Value} (h : fn.results = #[.cell p 66, .cell u 30]) (hp : tmps.getD p undef = .pointer (some ⟨b, 0, none⟩)) (hq : tmps.getD u undef = .pointer (some ⟨c, 0, none⟩)) (hb : BlkI w b x) (hc : BlkM w c m) :
    (results fn tmps).run Tryz.prog w = .ok (.tuple #[inV x, msgV m]) w := by
  have ha : ∀ k, (asAddr (.pointer (some ⟨k, 0, none⟩))).run Tryz.prog w = .ok ⟨k, 0, none⟩ w := fun _ => rfl
  have hp' : tmps[p]?.getD undef = .pointer (some ⟨b, 0, none⟩) := by simpa using hp
  have hq' : tmps[u]?.getD undef = .pointer (some ⟨c, 0, none⟩) := by simpa using hq
  have hl := run_loadVar_row (P := Tryz.prog) w b 66 66 (cellsI x) (0, 0) _ hb Tryz.underlying66 rfl (info_in.trans (show some 2 = some (cellsI x).size from rfl))
  have hl2 := run_loadVar_row (P := Tryz.prog) w c 30 30 (cellsB m) (0, 0) _ hc Tryz.underlying30 rfl (by kernel_rfl)
  simp only [results, h]
  simp [Sem.run_bind, Result.andThen, hp', hq', ha, hl, hl2, inV, msgV]
theorem load_In {W : World} {b : Nat} {x : XS} (h : BlkI W b x) : (Instr.loadAt 66 (.pointer (some ⟨b, 0, none⟩))).run Tryz.prog W = .ok (.agg (cellsI x)) W := by
  have := run_loadVar_row (P := Tryz.prog) W b 66 66 (cellsI x) (0, 0) _ h Tryz.underlying66 rfl (info_in.trans (show some 2 = some (cellsI x).size from rfl))
  simp only [Instr.loadAt, Instr.sureAddr, Sem.run_bind, Sem.run_pure, Result.andThen_ok, this]
theorem info_inC (x : XS) : (Tryz.prog.info? 66).map (·.size) = some (cellsI x).size := info_in.trans (show some 2 = some (cellsI x).size from rfl)
theorem oneI (x : XS) : (cellsI x).all (·.oneCell') = true := by simp [cellsI, Value.oneCell']
theorem sizeI (x y : XS) : (cellsI x).size = (cellsI y).size := rfl
/-- The same, the two results whatever they are. -/
structure RSx (w W : World) (x : XS) (m : MM) : Prop where
  base : Below w.heap.size w W
  inB : BlkI W w.heap.size x
  msB : BlkM W (w.heap.size + 1) m
theorem RSt.x {w W : World} {x : XS} {m : MM} (h : RSt w W x m) : RSx w W x m := ⟨h.base, h.inB, h.msB⟩
theorem RSx.set {w W : World} {x : XS} {m : MM} (h : RSx w W x m) {b : Nat} (hb : w.heap.size + 2 ≤ b) (cs : Array Value) : RSx w (W.setRow b cs) x m :=
  ⟨below_setRow h.base (by omega) _, (setRow_ne (by omega)).trans h.inB, (setRow_ne (by omega)).trans h.msB⟩
/-- The results are laid. -/
theorem RSt.fin {w W : World} {x : XS} {m : MM} (h : RSt w W x m) :
    BlkI W (w.heap.size + 1 + 1) zeroX ∧ BlkM (W.setRow (w.heap.size + 1 + 1) (cellsI x)) (w.heap.size + 1 + 1 + 1) noM ∧ BlkI ((W.setRow (w.heap.size + 1 + 1) (cellsI x)).setRow (w.heap.size + 1 + 1 + 1) (cellsB m)) (w.heap.size + 1 + 1) x ∧ BlkM ((W.setRow (w.heap.size + 1 + 1) (cellsI x)).setRow (w.heap.size + 1 + 1 + 1) (cellsB m)) (w.heap.size + 1 + 1 + 1) m ∧ Below w.heap.size w ((W.setRow (w.heap.size + 1 + 1) (cellsI x)).setRow (w.heap.size + 1 + 1 + 1) (cellsB m)) := by
  have h1 : BlkI W (w.heap.size + 1 + 1) zeroX := h.inR
  have h2 : BlkM W (w.heap.size + 1 + 1 + 1) noM := h.msR
  have h3 : BlkM (W.setRow (w.heap.size + 1 + 1) (cellsI x)) (w.heap.size + 1 + 1 + 1) noM := (setRow_ne (by omega)).trans h2
  exact ⟨h1, h3, (setRow_ne (by omega)).trans (setRow_heap _ _ _ _ _ _ h1), setRow_heap _ _ _ _ _ _ h3, below_setRow (below_setRow h.base (by omega) _) (by omega) _⟩
theorem info_msgC (m : MM) : (Tryz.prog.info? 30).map (·.size) = some (cellsB m).size := (by kernel_rfl : (Tryz.prog.info? 30).map (·.size) = some 39).trans (show some 39 = some (cellsB m).size from rfl)
theorem sizeM (m n : MM) : (cellsB m).size = (cellsB n).size := rfl

end Go.Proofs.YtlfdmbfbfadifaaGreatDoor

namespace Go.Proofs.YtlfdmbfbfadifaaGreatDoor
open Go.RowKit

theorem qN_len (x : XS) (w : Nat) : (qN x w).2.S.length ≤ x.S.length := by
  unfold qN
  split
  · exact Nat.zero_le _
  · show (List.drop _ x.S).length ≤ _; rw [List.length_drop]; omega
def cellsQ3 (q : QQ) : Array Value := #[.int .i64 q.t, .int .i64 q.v, .int .i64 q.p]
def BlkQ3 (w : World) (b : Nat) (q : QQ) : Prop := w.heap[b]? = some (.cells (cellsQ3 q) 25 (0, 0))
theorem info_qidC (q : QQ) : (Tryz.prog.info? 25).map (·.size) = some (cellsQ3 q).size := (by kernel_rfl : (Tryz.prog.info? 25).map (·.size) = some 3).trans (show some 3 = some (cellsQ3 q).size from rfl)
theorem oneQ3 (q : QQ) : (cellsQ3 q).all (·.oneCell') = true := by simp [cellsQ3, Value.oneCell']
theorem results_IQ {fn : Func} {p u b c : Nat} {x : XS} {q : QQ} {w : World} {tmps : Array Value} (h : fn.results = #[.cell p 66, .cell u 25]) (hp : tmps.getD p undef = .pointer (some ⟨b, 0, none⟩)) (hq : tmps.getD u undef = .pointer (some ⟨c, 0, none⟩)) (hb : BlkI w b x) (hc : BlkQ3 w c q) :
    (results fn tmps).run Tryz.prog w = .ok (.tuple #[inV x, .agg (cellsQ3 q)]) w := by
  have ha : ∀ k, (asAddr (.pointer (some ⟨k, 0, none⟩))).run Tryz.prog w = .ok ⟨k, 0, none⟩ w := fun _ => rfl
  have hp' : tmps[p]?.getD undef = .pointer (some ⟨b, 0, none⟩) := by simpa using hp
  have hq' : tmps[u]?.getD undef = .pointer (some ⟨c, 0, none⟩) := by simpa using hq
  have hl := run_loadVar_row (P := Tryz.prog) w b 66 66 (cellsI x) (0, 0) _ hb Tryz.underlying66 rfl (info_inC x)
  have hl2 := run_loadVar_row (P := Tryz.prog) w c 25 25 (cellsQ3 q) (0, 0) _ hc Tryz.underlying25 rfl (info_qidC q)
  simp only [results, h]
  simp [Sem.run_bind, Result.andThen, hp', hq', ha, hl, hl2, inV]
/-- The three blocks of getQid. -/
structure GSt (w W : World) (x : XS) : Prop where
  base : Below w.heap.size w W
  inB : BlkI W w.heap.size x
  inR : BlkI W (w.heap.size + 1) zeroX
  qdR : BlkQ3 W (w.heap.size + 1 + 1) noQ
theorem GSt.go {w W W' : World} {x : XS} (h : GSt w W x) (hB : Below W.heap.size W W') : GSt w W' x :=
  ⟨h.base.trans (hB.mono h.base.size), h.inB.below hB h.inB.lt, h.inR.below hB h.inR.lt, (hB.block _ (Array.getElem?_eq_some_iff.1 h.qdR).1).trans h.qdR⟩
theorem GSt.new (w : World) (x : XS) : ∃ W, ((w.alloc (.cells (cellsI x) 66)).alloc (.cells (cellsI zeroX) 66)).alloc (.cells #[.int .i64 0, .int .i64 0, .int .i64 0] 25) = W ∧ GSt w W x := by
  have h0 : ((w.alloc (.cells (cellsI x) 66)).alloc (.cells (cellsI zeroX) 66)).heap.size = w.heap.size + 1 + 1 := by simp
  obtain ⟨a1, a2, a3⟩ := two_at (w := w) (c1 := cellsI x) (c2 := cellsI zeroX) (t1 := 66) (t2 := 66) (Below.refl _ _)
  have b3 := heap_alloc_new ((w.alloc (.cells (cellsI x) 66)).alloc (.cells (cellsI zeroX) 66)) (.cells #[.int .i64 0, .int .i64 0, .int .i64 0] 25)
  rw [h0] at b3
  exact ⟨_, rfl, a3.alloc (by omega) _, BlkI.alloc a1 _, BlkI.alloc a2 _, b3⟩
theorem GSt.alloc {w W : World} {x : XS} (h : GSt w W x) (o : Obj) : GSt w (W.alloc o) x := h.go ((Below.refl _ W).alloc (Nat.le_refl _) o)
theorem GSt.fin {w W : World} {x y : XS} (h : GSt w W x) (q : QQ) :
    BlkI W (w.heap.size + 1) zeroX ∧ BlkQ3 (W.setRow (w.heap.size + 1) (cellsI y)) (w.heap.size + 1 + 1) noQ ∧ BlkI ((W.setRow (w.heap.size + 1) (cellsI y)).setRow (w.heap.size + 1 + 1) (cellsQ3 q)) (w.heap.size + 1) y ∧ BlkQ3 ((W.setRow (w.heap.size + 1) (cellsI y)).setRow (w.heap.size + 1 + 1) (cellsQ3 q)) (w.heap.size + 1 + 1) q ∧ Below w.heap.size w ((W.setRow (w.heap.size + 1) (cellsI y)).setRow (w.heap.size + 1 + 1) (cellsQ3 q)) := by
  have h3 : BlkQ3 (W.setRow (w.heap.size + 1) (cellsI y)) (w.heap.size + 1 + 1) noQ := (setRow_ne (by omega)).trans h.qdR
  exact ⟨h.inR, h3, (setRow_ne (by omega)).trans (setRow_heap _ _ _ _ _ _ h.inR), setRow_heap _ _ _ _ _ _ h3, below_setRow (below_setRow h.base (by omega) _) (by omega) _⟩

set_option maxHeartbeats 4000000 in
set_option maxRecDepth 100000 in
theorem Xqid (x : XS) (hs : x.S.length ≤ 1000000) (w : World) :
    Calls Tryz.prog 53 #[inV x] w fun e w' => e = .returned (.tuple #[inV (qQ x).2, .agg (cellsQ3 (qQ x).1)]) ∧ Below w.heap.size w w' := by
  have l1 := qN_len x 1
  have l2 := qN_len (qN x 1).2 4
  have N1 := Lib.hid (fun W => Xnum x 1 1 rfl hs W)
  have N2 := Lib.hid (fun W => Xnum (qN x 1).2 4 4 rfl (by omega) W)
  have N3 := Lib.hid (fun W => Xnum (qN (qN x 1).2 4).2 8 8 rfl (by omega) W)
  have hq : Hid (qQ x = (⟨(qN x 1).1, (qN (qN x 1).2 4).1, (qN (qN (qN x 1).2 4).2 8).1⟩, (qN (qN (qN x 1).2 4).2 8).2)) := Lib.hid rfl
  rw [hq.out]
  clear hq l1 l2
  dsimp only
  obtain ⟨W0, hW0, hS0⟩ := GSt.new w x
  have hz := zero_in
  replace hW0 := Lib.hid hW0
  replace hS0 := Lib.hid hS0
  generalize (qN (qN (qN x 1).2 4).2 8).2 = x3 at *
  generalize (qN (qN (qN x 1).2 4).2 8).1 = n3 at *
  generalize (qN (qN x 1).2 4).2 = x2 at *
  generalize (qN (qN x 1).2 4).1 = n2 at *
  generalize (qN x 1).2 = x1 at *
  generalize (qN x 1).1 = n1 at *
  have hcq : Hid (#[.int .i64 n1, .int .i64 n2, .int .i64 n3] = cellsQ3 ⟨n1, n2, n3⟩) := Lib.hid rfl
  unfold inV at *
  go_enter Tryz.func53, Tryz.ntmps53
  go_wp2_with (first
    | (simp only [hz.out, hW0.out])
    | (refine wpList_load_row rfl 66 _ rfl w.heap.size rfl 66 (cellsI x) (0, 0) _ hS0.out.inB Tryz.underlying66 rfl (info_inC x) ?_))
  refine (N1.out _).mono ?_
  rintro e W1 ⟨rfl, hB1⟩
  obtain ⟨V1, hV1, HV1, hG1⟩ : ∃ V, W1.alloc (.cells (cellsI x1) 66) = V ∧ BlkI V W1.heap.size x1 ∧ GSt w V x := ⟨_, rfl, BlkI.new _ _, (hS0.out.go hB1).alloc _⟩
  replace hV1 := Lib.hid hV1
  replace HV1 := Lib.hid HV1
  replace hG1 := Lib.hid hG1
  clear hB1
  go_wp2_with (first
    | (simp only [hz.out])
    | (refine wpList_store_row rfl 66 _ _ rfl W1.heap.size (cellsI x1) rfl rfl 66 (cellsI zeroX) (heap_alloc_new W1 _) (info_inC x1) rfl (oneI x1) ?_; rw [World.setRow_alloc_new, hV1.out])
    | (refine wpList_load_row rfl 66 _ rfl W1.heap.size rfl 66 (cellsI x1) (0, 0) _ HV1.out Tryz.underlying66 rfl (info_inC x1) ?_))
  refine (N2.out _).mono ?_
  rintro e W2 ⟨rfl, hB2⟩
  obtain ⟨V2, hV2, HV2, hG2⟩ : ∃ V, W2.alloc (.cells (cellsI x2) 66) = V ∧ BlkI V W2.heap.size x2 ∧ GSt w V x := ⟨_, rfl, BlkI.new _ _, (hG1.out.go hB2).alloc _⟩
  replace hV2 := Lib.hid hV2
  replace HV2 := Lib.hid HV2
  replace hG2 := Lib.hid hG2
  clear hB2
  go_wp2_with (first
    | (simp only [hz.out])
    | (refine wpList_store_row rfl 66 _ _ rfl W2.heap.size (cellsI x2) rfl rfl 66 (cellsI zeroX) (heap_alloc_new W2 _) (info_inC x2) rfl (oneI x2) ?_; rw [World.setRow_alloc_new, hV2.out])
    | (refine wpList_load_row rfl 66 _ rfl W2.heap.size rfl 66 (cellsI x2) (0, 0) _ HV2.out Tryz.underlying66 rfl (info_inC x2) ?_))
  refine (N3.out _).mono ?_
  rintro e W3 ⟨rfl, hB3⟩
  obtain ⟨V3, hV3, HV3, hG3⟩ : ∃ V, W3.alloc (.cells (cellsI x3) 66) = V ∧ BlkI V W3.heap.size x3 ∧ GSt w V x := ⟨_, rfl, BlkI.new _ _, (hG2.out.go hB3).alloc _⟩
  replace hV3 := Lib.hid hV3
  replace HV3 := Lib.hid HV3
  have f := Lib.hid (hG3.fin (y := x3) ⟨n1, n2, n3⟩)
  clear hB3 hG3
  go_wp2_with (first
    | (simp only [hz.out])
    | (refine wpList_store_row rfl 66 _ _ rfl W3.heap.size (cellsI x3) rfl rfl 66 (cellsI zeroX) (heap_alloc_new W3 _) (info_inC x3) rfl (oneI x3) ?_; rw [World.setRow_alloc_new, hV3.out])
    | (refine wpList_load_row rfl 66 _ rfl W3.heap.size rfl 66 (cellsI x3) (0, 0) _ HV3.out Tryz.underlying66 rfl (info_inC x3) ?_)
    | (refine wpList_store_row rfl 66 _ _ rfl (w.heap.size + 1) (cellsI x3) rfl rfl 66 (cellsI zeroX) f.out.1 (info_inC x3) rfl (oneI x3) ?_)
    | (refine wpList_store_row rfl 25 _ _ rfl (w.heap.size + 1 + 1) (cellsQ3 ⟨n1, n2, n3⟩) rfl rfl 25 (cellsQ3 noQ) f.out.2.1 (info_qidC _) rfl (oneQ3 _) ?_))
  refine bodyPost_ret (results_IQ rfl rfl rfl f.out.2.2.1 f.out.2.2.2.1) rfl ⟨rfl, f.out.2.2.2.2⟩
end Go.Proofs.YtlfdmbfbfadifaaGreatDoor
