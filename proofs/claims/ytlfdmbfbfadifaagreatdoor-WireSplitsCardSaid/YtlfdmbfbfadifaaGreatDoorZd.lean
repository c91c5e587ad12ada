/-
  The reader: its state; move, number, text.
  The reader: errno, data.
-/
import Derived.Test.YtlfdmbfbfadifaaGreatDoorYh
import Derived.Test.YtlfdmbfbfadifaaGreatDoorYl
import Derived.Test.YtlfdmbfbfadifaaGreatDoorYa
import Derived.Lib.Builder
import Derived.Deep.QuietTactic
import Derived.BigQuiet
import Derived.Deep.RegionHeld3
import Derived.IntWalk
namespace Go.Proofs.YtlfdmbfbfadifaaGreatDoor
open Go.RowKit

/-- The block k is that of a reader of the bytes b. -/
def RdAt (k : Nat) (b : List UInt8) (s : RS) (W : World) : Prop := W.heap[k]? = some (.cells #[.string (mk b), .int .i64 (s.at' : Int), .bool s.bad] 93 (0, 0))
theorem RdAt.drewN {k : Nat} {b : List UInt8} {s : RS} {W : World} (h : RdAt k b s W) (n : Nat) : RdAt k b s (W.drewN n) := h
theorem RdAt.drew {k : Nat} {b : List UInt8} {s : RS} {W : World} (h : RdAt k b s W) : RdAt k b s W.drew := h
theorem RdAt.lt {k : Nat} {b : List UInt8} {s : RS} {W : World} (h : RdAt k b s W) : k < W.heap.size := (Array.getElem?_eq_some_iff.1 h).1
theorem RdAt.below {k : Nat} {b : List UInt8} {s : RS} {W W' : World} (h : RdAt k b s W) (hB : Below W.heap.size W W') : RdAt k b s W' := (hB.block _ h.lt).trans h
theorem RdAt.c {k : Nat} {b : List UInt8} {s : RS} {W : World} (h : RdAt k b s W) : W.cell? ⟨k, 0, none⟩ = some (.string (mk b)) ∧ W.cell? ⟨k, 1, none⟩ = some (.int .i64 (s.at' : Int)) ∧ W.cell? ⟨k, 2, none⟩ = some (.bool s.bad) :=
  ⟨Lib.cell_of_heap h 0, Lib.cell_of_heap h 1, Lib.cell_of_heap h 2⟩
theorem RdAt.f {k : Nat} {b : List UInt8} {s : RS} {W : World} (h : RdAt k b s W) : W.frozen? ⟨k, 1, none⟩ = false ∧ W.frozen? ⟨k, 2, none⟩ = false := ⟨Lib.frozen_of_heap h 1, Lib.frozen_of_heap h 2⟩
/-- Nothing has changed but the blocks k and g. -/
structure Kp (k g : Nat) (W W' : World) : Prop where
  os : W'.os = W.os
  tape : W'.tape = W.tape
  output : W'.output = W.output
  size : W.heap.size ≤ W'.heap.size
  block : ∀ j, j < W.heap.size → j ≠ k → j ≠ g → W'.heap[j]? = W.heap[j]?
theorem Kp.refl (k g : Nat) (W : World) : Kp k g W W := ⟨rfl, rfl, rfl, Nat.le_refl _, fun _ _ _ _ => rfl⟩
theorem Kp.trans {k g : Nat} {a b c : World} (h : Kp k g a b) (h' : Kp k g b c) : Kp k g a c :=
  ⟨h'.os.trans h.os, h'.tape.trans h.tape, h'.output.trans h.output, Nat.le_trans h.size h'.size, fun j hj h1 h2 => (h'.block j (Nat.lt_of_lt_of_le hj h.size) h1 h2).trans (h.block j hj h1 h2)⟩
theorem Kp.of_below {k g : Nat} {W W' : World} (h : Below W.heap.size W W') : Kp k g W W' := ⟨h.os, h.tape, h.output, h.size, fun j hj _ _ => h.block j hj⟩
theorem Kp.drewN {k g : Nat} {W W' : World} (h : Kp k g W W') (n : Nat) : Kp k g W (W'.drewN n) := ⟨h.os, h.tape, h.output, h.size, h.block⟩
theorem Kp.drew {k g : Nat} {W W' : World} (h : Kp k g W W') : Kp k g W W'.drew := ⟨h.os, h.tape, h.output, h.size, h.block⟩
theorem Kp.below {k g B : Nat} {W W' : World} (h : Kp k g W W') (h1 : B ≤ k) (h2 : B ≤ g) (hB : B ≤ W.heap.size) : Below B W W' :=
  ⟨h.os, h.tape, h.output, h.size, fun j hj => h.block j (Nat.lt_of_lt_of_le hj hB) (by omega) (by omega)⟩
theorem Kp.set {k g : Nat} {W W' : World} (h : Kp k g W W') (j o : Nat) (v : Value) (hj : j = k ∨ j = g) : Kp k g W (W'.setCell ⟨j, o, none⟩ v) :=
  ⟨h.os, h.tape, h.output, by simpa [World.setCell] using h.size, fun i hi h1 h2 => (Below.heap_setCell _ _ _ _ (by rintro rfl; rcases hj with hj | hj <;> simp_all)).trans (h.block i hi h1 h2)⟩
theorem Kp.self {k g : Nat} {W W' : World} (h : Kp k k W W') : Kp k g W W' := ⟨h.os, h.tape, h.output, h.size, fun j hj h1 _ => h.block j hj h1 h1⟩
/-- A cell of the block g has been set. -/
def Put1 (g o : Nat) (v : Value) (W W' : World) : Prop := ∀ cs t, W.heap[g]? = some (.cells cs t (0, 0)) → W'.heap[g]? = some (.cells (cs.setIfInBounds o v) t (0, 0))
/-- There is a cell to set. -/
def Tgt (g o : Nat) (W : World) : Prop := ∃ cs t, W.heap[g]? = some (.cells cs t (0, 0)) ∧ ∃ u, cs[o]? = some u
theorem Tgt.kept {g o k : Nat} {W W' : World} (h : Tgt g o W) (hK : Kp k k W W') (hgk : g ≠ k) : Tgt g o W' := by
  obtain ⟨cs, t, h1, h2⟩ := h
  exact ⟨cs, t, (hK.block g (Array.getElem?_eq_some_iff.1 h1).1 hgk hgk).trans h1, h2⟩
theorem Tgt.c {g o : Nat} {W : World} (h : Tgt g o W) : ∃ u, W.cell? ⟨g, o, none⟩ = some u ∧ W.frozen? ⟨g, o, none⟩ = false := by
  obtain ⟨cs, t, h1, u, h2⟩ := h
  exact ⟨u, (Lib.cell_of_heap h1 o).trans h2, Lib.frozen_of_heap h1 o⟩
theorem set_heap {W : World} {g o : Nat} {v : Value} {cs : Array Value} {t : TypeId} (h : W.heap[g]? = some (.cells cs t (0, 0))) : (W.setCell ⟨g, o, none⟩ v).heap[g]? = some (.cells (cs.setIfInBounds o v) t (0, 0)) := by
  simp [World.setCell, Array.getElem?_modify, h]
theorem heap_ne {W : World} {b b' o : Nat} {v : Value} (hb : b ≠ b') : (W.setCell ⟨b', o, none⟩ v).heap[b]? = W.heap[b]? := Below.heap_setCell _ _ _ _ hb
theorem put1_of {g o k : Nat} {v : Value} {W W1 : World} (hK : Kp k k W W1) (hgk : g ≠ k) : Put1 g o v W (W1.setCell ⟨g, o, none⟩ v) := fun _ _ h =>
  set_heap ((hK.block g (Array.getElem?_eq_some_iff.1 h).1 hgk hgk).trans h)

/-- A list that lies in blocks from B on. -/
def SRowA (B : Nat) (w : World) (v : Value) (L : List (List UInt8)) : Prop := ∀ w' : World, w.heap.size ≤ w'.heap.size → (∀ j, B ≤ j → j < w.heap.size → w'.heap[j]? = w.heap[j]?) → SRow w' v L
def QRowA (B : Nat) (w : World) (v : Value) (L : List QQ) : Prop := ∀ w' : World, w.heap.size ≤ w'.heap.size → (∀ j, B ≤ j → j < w.heap.size → w'.heap[j]? = w.heap[j]?) → QRow w' v L
def RowA (B : Nat) (w : World) (m : MM) : Prop := SRowA B w m.nv m.nl ∧ QRowA B w m.qv m.ql
theorem SRowA.mono {B B' : Nat} {w : World} {v : Value} {L : List (List UInt8)} (h : SRowA B' w v L) (hB : B ≤ B') : SRowA B w v L := fun w' hs hb => h w' hs (fun j hj => hb j (Nat.le_trans hB hj))
theorem QRowA.mono {B B' : Nat} {w : World} {v : Value} {L : List QQ} (h : QRowA B' w v L) (hB : B ≤ B') : QRowA B w v L := fun w' hs hb => h w' hs (fun j hj => hb j (Nat.le_trans hB hj))
theorem RowA.to {B : Nat} {w w' : World} {m : MM} (h : RowA B w m) (hs : w.heap.size ≤ w'.heap.size) (hb : ∀ j, B ≤ j → j < w.heap.size → w'.heap[j]? = w.heap[j]?) : RowA B w' m :=
  ⟨fun w2 h1 h2 => h.1 w2 (Nat.le_trans hs h1) (fun j hj hl => (h2 j hj (Nat.lt_of_lt_of_le hl hs)).trans (hb j hj hl)), fun w2 h1 h2 => h.2 w2 (Nat.le_trans hs h1) (fun j hj hl => (h2 j hj (Nat.lt_of_lt_of_le hl hs)).trans (hb j hj hl))⟩
theorem RowA.below {B : Nat} {w w' : World} {m : MM} (h : RowA B w m) (hB : Below w.heap.size w w') : RowA B w' m := h.to hB.size (fun j _ hl => hB.block j hl)
theorem RowA.row {B : Nat} {w : World} {m : MM} (h : RowA B w m) : RowM w m := ⟨h.1 w (Nat.le_refl _) (fun _ _ _ => rfl), h.2 w (Nat.le_refl _) (fun _ _ _ => rfl)⟩
theorem RowA.mono {B B' : Nat} {w : World} {m : MM} (h : RowA B' w m) (hB : B ≤ B') : RowA B w m := ⟨h.1.mono hB, h.2.mono hB⟩

set_option maxHeartbeats 1000000 in
set_option maxRecDepth 100000 in
theorem rMove (k : Nat) (b : List UInt8) (s : RS) (next er : Int) (W : World) (hk : RdAt k b s W) (hn : er = 0 → 0 ≤ next) :
    Calls Tryz.prog 142 #[.pointer (some ⟨k, 0, none⟩), .int .i64 next, .int .i64 er] W fun e W' => e = .returned (.tuple #[]) ∧ RdAt k b (moveR s next er) W' ∧ Kp k k W W' := by
  obtain ⟨c0, c1, c2⟩ := hk.c
  obtain ⟨f1, f2⟩ := hk.f
  have HK := Lib.hid hk
  by_cases h0 : er = 0
  · have HR : Hid (RdAt k b (moveR s next er) (W.setCell ⟨k, 1, none⟩ (.int .i64 next))) := by
      have := set_heap (o := 1) (v := .int .i64 next) hk
      unfold moveR
      rw [if_pos h0]
      have e := hn h0
      obtain ⟨m, rfl⟩ := Int.eq_ofNat_of_zero_le e
      exact this
    have HP := Lib.hid ((Kp.refl k k W).set k 1 (.int .i64 next) (.inl rfl))
    clear hk hn
    subst h0
    go_enter Tryz.func142, Tryz.ntmps142
    go_wp2
    go_end0
    exact ⟨rfl, HR.out, HP.out⟩
  · have HR : Hid (RdAt k b (moveR s next er) (W.setCell ⟨k, 2, none⟩ (.bool true))) := by
      have := set_heap (o := 2) (v := .bool true) hk
      unfold moveR
      rw [if_neg h0]
      exact this
    have HP := Lib.hid ((Kp.refl k k W).set k 2 (.bool true) (.inl rfl))
    have hne : (er != 0) = true := by simpa using h0
    clear hk hn h0
    go_enter Tryz.func142, Tryz.ntmps142
    go_wp2
    exact bodyPost_ret (results_none rfl _ _ _) rfl ⟨rfl, HR.out, HP.out⟩
theorem getR_next (b : List UInt8) (a wd : Int) (ha : 0 ≤ a) : (getR b a wd).2.2 = 0 → 0 ≤ (getR b a wd).2.1 := by
  unfold getR
  split
  · simp
  · split
    · simp
    · split
      · simp
      · rename_i h _ _; intro _; show 0 ≤ a + wd; omega

set_option maxHeartbeats 2000000 in
set_option maxRecDepth 100000 in
theorem rNumber (k g o : Nat) (b : List UInt8) (s : RS) (wd : Nat) (wi : Int) (W : World) (hwi : wi = wd) (hb : b.length ≤ 1000000) (hk : RdAt k b s W) (hgk : g ≠ k) (hg : Tgt g o W) :
    Calls Tryz.prog 138 #[.pointer (some ⟨k, 0, none⟩), .pointer (some ⟨g, o, none⟩), .int .i64 wi] W fun e W' => e = .returned (.tuple #[]) ∧ RdAt k b (rdN b s wd).2 W' ∧ Put1 g o (.int .i64 (rdN b s wd).1) W W' ∧ Kp k g W W' := by
  subst hwi
  obtain ⟨c0, c1, c2⟩ := hk.c
  have HG := Lib.hid (fun w => (oGet b (s.at' : Int) (wd : Int) (by unfold maxLen; omega) w).mono (fun e w'' h => (⟨h.1, h.2.symm⟩ : _ ∧ _)))
  have HM := Lib.hid (fun w hk => rMove k b s (getR b s.at' wd).2.1 (getR b s.at' wd).2.2 w hk (getR_next b _ _ (by omega)))
  have HK := Lib.hid hk
  have HT := Lib.hid hg
  have HE : Hid ((rdN b s wd).1 = (getR b s.at' wd).1 ∧ (rdN b s wd).2 = moveR s (getR b s.at' wd).2.1 (getR b s.at' wd).2.2) := ⟨rfl, rfl⟩
  generalize rdN b s wd = res at *
  generalize getR b s.at' wd = gr at *
  obtain ⟨v, nx, er⟩ := gr
  dsimp only at HG HM HE
  clear hk hg
  go_enter Tryz.func138, Tryz.ntmps138
  go_wp2
  go_quiet ((go_at_call 31; exact Calls.quiet_of_same (HG.out _)))
  go_wp2_with fail
  refine (HM.out _ (HK.out.drewN nq)).mono ?_
  rintro e W1 ⟨rfl, h1, h2⟩
  have H1 := Lib.hid h1
  have H2 := Lib.hid (((Kp.refl k k W).drewN nq).trans h2)
  obtain ⟨u, x0, x1⟩ := (HT.out.kept H2.out hgk).c
  clear h1 h2
  go_wp2
  go_end0
  refine ⟨rfl, ?_, ?_, ?_⟩
  · rw [HE.out.2]; exact (heap_ne (by omega)).trans H1.out
  · rw [HE.out.1]; exact put1_of H2.out hgk
  · exact H2.out.self.set g o _ (.inr rfl)
theorem getTextR_next (b : List UInt8) (a : Int) (ha : 0 ≤ a) : (getTextR b a).2.2 = 0 → 0 ≤ (getTextR b a).2.1 := by
  have h1 := getR_val b a 2
  unfold getTextR
  split
  · simp
  · split
    · simp
    · intro _; show 0 ≤ a + 2 + _; omega
set_option maxHeartbeats 2000000 in
set_option maxRecDepth 100000 in
theorem rText (k g o : Nat) (b : List UInt8) (s : RS) (W : World) (hb : b.length ≤ 1000000) (hk : RdAt k b s W) (hgk : g ≠ k) (hg : Tgt g o W) :
    Calls Tryz.prog 140 #[.pointer (some ⟨k, 0, none⟩), .pointer (some ⟨g, o, none⟩)] W fun e W' => e = .returned (.tuple #[]) ∧ RdAt k b (rdT b s).2 W' ∧ Put1 g o (.string (mk (rdT b s).1)) W W' ∧ Kp k g W W' := by
  obtain ⟨c0, c1, c2⟩ := hk.c
  have HG := Lib.hid (fun w => oGetText b (s.at' : Int) (by unfold maxLen; omega) w)
  have HM := Lib.hid (fun w hk => rMove k b s (getTextR b s.at').2.1 (getTextR b s.at').2.2 w hk (getTextR_next b _ (by omega)))
  have HK := Lib.hid hk
  have HT := Lib.hid hg
  have HE : Hid ((rdT b s).1 = (getTextR b s.at').1 ∧ (rdT b s).2 = moveR s (getTextR b s.at').2.1 (getTextR b s.at').2.2) := ⟨rfl, rfl⟩
  generalize rdT b s = res at *
  generalize getTextR b s.at' = gr at *
  obtain ⟨v, nx, er⟩ := gr
  dsimp only at HG HM HE
  clear hk hg
  go_enter Tryz.func140, Tryz.ntmps140
  go_wp2
  have H0 := Lib.hid HK.out.drew
  have hkA : Hid (∀ W, RdAt k b s W → W.cell? ⟨k, 0, none⟩ = some (.string (mk b)) ∧ W.cell? ⟨k, 1, none⟩ = some (.int .i64 (s.at' : Int))) := fun W h => ⟨h.c.1, h.c.2.1⟩
  go_region_held3 (fun W => W.cell? ⟨k, 0, none⟩ = some (.string (mk b)) ∧ W.cell? ⟨k, 1, none⟩ = some (.int .i64 (s.at' : Int))) (first | exact hkA.out _ H0.out | exact hkA.out _ HK0.out) ((go_at_call 144; with_reducible refine (HG.out _).mono ?_; rintro e W0 ⟨rfl, hB⟩; have HK0 := Lib.hid (RdAt.below H0.out hB); have HP0 := Lib.hid (Kp.trans (Kp.drew (Kp.refl k k W)) (Kp.of_below hB)); clear hB))
  clear c0 c1 c2
  go_wp2_with fail
  refine (HM.out _ HK0.out).mono ?_
  rintro e W1 ⟨rfl, h1, h2⟩
  have H1 := Lib.hid h1
  have H2 := Lib.hid (HP0.out.trans h2)
  obtain ⟨u, x0, x1⟩ := (HT.out.kept H2.out hgk).c
  clear h1 h2
  go_wp2
  go_end0
  refine ⟨rfl, ?_, ?_, ?_⟩
  · rw [HE.out.2]; exact (heap_ne (by omega)).trans H1.out
  · rw [HE.out.1]; exact put1_of H2.out hgk
  · exact H2.out.self.set g o _ (.inr rfl)
end Go.Proofs.YtlfdmbfbfadifaaGreatDoor

namespace Go.Proofs.YtlfdmbfbfadifaaGreatDoor
open Go.RowKit

theorem Kp.box {k : Nat} {W W1 : World} {o : Obj} (h : Kp k W.heap.size (W.alloc o) W1) : Kp k k W W1 :=
  ⟨h.os, h.tape, h.output, Nat.le_trans (by simp) h.size, fun j hj h1 _ => (h.block j (by simp; omega) h1 (by omega)).trans (Below.heap_alloc _ _ _ hj)⟩
theorem RdAt.alloc {k : Nat} {b : List UInt8} {s : RS} {W : World} (h : RdAt k b s W) (o : Obj) : RdAt k b s (W.alloc o) := (Below.heap_alloc _ _ _ h.lt).trans h
theorem Tgt.new (W : World) (v : Value) (t : TypeId) : Tgt W.heap.size 0 (W.alloc (.cells #[v] t)) := ⟨_, _, heap_alloc_new W _, v, rfl⟩
theorem put1_new {W W1 : World} {v u : Value} {t : TypeId} (h : Put1 W.heap.size 0 u (W.alloc (.cells #[v] t)) W1) : W1.heap[W.heap.size]? = some (.cells #[u] t (0, 0)) := h _ _ (heap_alloc_new W _)
theorem Tgt.lt {g o : Nat} {W : World} (h : Tgt g o W) : g < W.heap.size := by obtain ⟨cs, t, h1, _⟩ := h; exact (Array.getElem?_eq_some_iff.1 h1).1

set_option maxHeartbeats 2000000 in
set_option maxRecDepth 100000 in
theorem rErrno (k g o : Nat) (b : List UInt8) (s : RS) (W : World) (hb : b.length ≤ 1000000) (hk : RdAt k b s W) (hgk : g ≠ k) (hg : Tgt g o W) :
    Calls Tryz.prog 136 #[.pointer (some ⟨k, 0, none⟩), .pointer (some ⟨g, o, none⟩)] W fun e W' => e = .returned (.tuple #[]) ∧ RdAt k b (rdE b s).2 W' ∧ Put1 g o (.int .i64 (rdE b s).1) W W' ∧ Kp k g W W' := by
  have hkl := hk.lt
  have HT0 := Lib.hid (rText k W.heap.size 0 b s (W.alloc (.cells #[.string ⟨#[]⟩] 9)) hb (hk.alloc _) (by omega) (Tgt.new W _ _))
  have HF := Lib.hid (fun w => fFind (rdT b s).1 w)
  have HE : Hid ((rdE b s).1 = (Ft.findL (rdT b s).1).1 ∧ (rdE b s).2 = orBad (rdT b s).2 (Ft.findL (rdT b s).1).2) := ⟨rfl, rfl⟩
  have HT := Lib.hid hg
  have HX := Lib.hid (fun W1 h => put1_new (W := W) (W1 := W1) (v := .string ⟨#[]⟩) (u := .string (mk (rdT b s).1)) (t := 9) h)
  have HY := Lib.hid (fun W1 h => Kp.box (k := k) (W := W) (W1 := W1) (o := .cells #[.string ⟨#[]⟩] 9) h)
  generalize rdE b s = res at *
  generalize rdT b s = tr at *
  obtain ⟨tx, s1⟩ := tr
  dsimp only at HT0 HF HE HX
  generalize Ft.findL tx = fr at *
  obtain ⟨v, ok⟩ := fr
  dsimp only at HF HE
  clear hk hg hkl
  go_enter Tryz.func136, Tryz.ntmps136
  go_wp2_with fail
  refine HT0.out.mono ?_
  rintro e W1 ⟨rfl, h1, h2, h3⟩
  have HK1 := Lib.hid h1
  have HB1 := HX.out W1 h2
  have HP1 := Lib.hid (HY.out W1 h3)
  have x0 : W1.cell? ⟨W.heap.size, 0, none⟩ = some (.string (mk tx)) := Lib.cell_of_heap HB1 0
  clear h1 h2 h3 HB1
  go_wp2_with fail
  refine (HF.out _).mono ?_
  rintro e W2 ⟨rfl, hB⟩
  have HK2 := Lib.hid (HK1.out.below hB)
  have HP2 := Lib.hid (HP1.out.trans (Kp.of_below hB))
  clear hB x0
  cases ok
  · have f2 := HK2.out.f.2
    have c2 := HK2.out.c.2.2
    have HK3 : Hid (RdAt k b (orBad s1 false) (W2.setCell ⟨k, 2, none⟩ (.bool true))) := set_heap (o := 2) (v := .bool true) HK2.out
    have HP3 := Lib.hid (HP2.out.set k 2 (.bool true) (.inl rfl))
    obtain ⟨u, x0, x1⟩ := (HT.out.kept HP3.out hgk).c
    have y0 := (HT.out.kept HP2.out hgk).c
    obtain ⟨u', y0, y1⟩ := y0
    go_wp2
    go_end0
    refine ⟨rfl, ?_, ?_, ?_⟩
    · rw [HE.out.2]; exact (heap_ne (by omega)).trans HK3.out
    · rw [HE.out.1]; exact put1_of HP3.out hgk
    · exact HP3.out.self.set g o _ (.inr rfl)
  · obtain ⟨u, x0, x1⟩ := (HT.out.kept HP2.out hgk).c
    go_wp2
    go_end0
    refine ⟨rfl, ?_, ?_, ?_⟩
    · rw [HE.out.2]; exact (heap_ne (by omega)).trans HK2.out
    · rw [HE.out.1]; exact put1_of HP2.out hgk
    · exact HP2.out.self.set g o _ (.inr rfl)

theorem put1_same {g o k : Nat} {v : Value} {W W1 : World} (hK : Kp k k W W1) (hgk : g ≠ k) (hold : ∃ cs t, W.heap[g]? = some (.cells cs t (0, 0)) ∧ cs[o]? = some v) : Put1 g o v W W1 := fun cs t h => by
  obtain ⟨cs', t', h1, h2⟩ := hold
  rw [h1] at h
  injection h with h
  injection h with e1 e2
  subst e1 e2
  have e : cs'.setIfInBounds o v = cs' := by
    obtain ⟨hlt, he⟩ := Array.getElem?_eq_some_iff.1 h2
    rw [← he, Array.setIfInBounds_def]; simp [hlt]
  rw [e]
  exact (hK.block g (Array.getElem?_eq_some_iff.1 h1).1 hgk hgk).trans h1
theorem mk_slice (b : List UInt8) (a n : Nat) : (mk b).extract a (a + n) = mk (cut b a n) := St.mk_cut b a n
theorem rdN_at {b : List UInt8} {s : RS} {w : Nat} (hw : 1 ≤ w ∧ w ≤ 8) (h : s.at' ≤ b.length) : (rdN b s w).2.at' ≤ b.length := by
  have := (rdN_eqv (s := s) (x := ⟨b.drop s.at', s.bad⟩) ⟨h, rfl, fun _ => rfl⟩ w hw).1.1
  exact this

/-- The reader, the length that was read, and what has changed since W. -/
def RdSt (k : Nat) (b : List UInt8) (s : RS) (W : World) (m : Nat) (w : World) : Prop := RdAt k b s w ∧ w.heap[W.heap.size]? = some (.cells #[.int .i64 (m : Int)] 3 (0, 0)) ∧ Kp k k W w
theorem RdSt.go {k : Nat} {b : List UInt8} {s : RS} {W : World} {m : Nat} {w w' : World} (h : RdSt k b s W m w) (hB : Below w.heap.size w w') : RdSt k b s W m w' :=
  ⟨h.1.below hB, (hB.block _ (Array.getElem?_eq_some_iff.1 h.2.1).1).trans h.2.1, h.2.2.trans (Kp.of_below hB)⟩
set_option maxHeartbeats 4000000 in
set_option maxRecDepth 100000 in
theorem rData (k g o : Nat) (b old : List UInt8) (s : RS) (W : World) (hb : (mk b).size ≤ 1000000) (ha : s.at' ≤ b.length) (hk : RdAt k b s W) (hgk : g ≠ k) (hg : Tgt g o W) (hold : ∃ cs t, W.heap[g]? = some (.cells cs t (0, 0)) ∧ cs[o]? = some (.string (mk old))) :
    Calls Tryz.prog 134 #[.pointer (some ⟨k, 0, none⟩), .pointer (some ⟨g, o, none⟩)] W fun e W' => e = .returned (.tuple #[]) ∧ RdAt k b (rdDa b old s).2 W' ∧ Put1 g o (.string (mk (rdDa b old s).1)) W W' ∧ Kp k g W W' := by
  have hkl := hk.lt
  have hgl := hg.lt
  have hsz := mk_size b
  have HT0 := Lib.hid (rNumber k W.heap.size 0 b s 4 4 (W.alloc (.cells #[.int .i64 0] 3)) rfl (by omega) (hk.alloc _) (by omega) (Tgt.new W _ _))
  have hat := rdN_at (b := b) (s := s) (w := 4) (by omega) ha
  have hnn : 0 ≤ (rdN b s 4).1 := (getR_val b s.at' 4).1
  have hnm : (rdN b s 4).1 < 9223372036854775808 := (getR_val b s.at' 4).2.1
  have HE : Hid (rdDa b old s = daR b old (rdN b s 4)) := rfl
  have HT := Lib.hid hg
  have HX := Lib.hid (fun W1 h => put1_new (W := W) (W1 := W1) (v := .int .i64 0) (u := .int .i64 (rdN b s 4).1) (t := 3) h)
  have HY := Lib.hid (fun W1 h => Kp.box (k := k) (W := W) (W1 := W1) (o := .cells #[.int .i64 0] 3) h)
  generalize rdDa b old s = res at *
  generalize rdN b s 4 = tr at *
  obtain ⟨n, s1⟩ := tr
  dsimp only at HT0 HX hat hnn hnm
  obtain ⟨m, rfl⟩ := Int.eq_ofNat_of_zero_le hnn
  have HC := Lib.hid (fun w => oClone (cut b s1.at' m) w (by rw [mk_size]; unfold cut; rw [List.length_take, List.length_drop]; omega))
  have HL := Lib.hid (mk_slice b s1.at' m)
  rw [← hsz] at hat
  have HSZ := Lib.hid hsz
  have hold' : Hid (∃ cs t, W.heap[g]? = some (.cells cs t (0, 0)) ∧ cs[o]? = some (.string (mk old))) := hold
  clear hk hg hkl hsz hnn ha hold hnm
  go_enter Tryz.func134, Tryz.ntmps134
  go_wp2_with fail
  refine HT0.out.mono ?_
  rintro e W1 ⟨rfl, h1, h2, h3⟩
  have HK1 := Lib.hid h1
  have HB1 := Lib.hid (HX.out W1 h2)
  have HP1 := Lib.hid (HY.out W1 h3)
  have x0 : W1.cell? ⟨W.heap.size, 0, none⟩ = some (.int .i64 (m : Int)) := Lib.cell_of_heap HB1.out 0
  obtain ⟨c0, c1, c2⟩ := HK1.out.c
  clear h1 h2 h3
  by_cases hlt : ((mk b).size : Int) - (s1.at' : Int) < (m : Int)
  · have HR : Hid (res = (old, ⟨s1.at', true⟩)) := by
      rw [Hid, HE.out]; unfold daR; rw [if_pos (by dsimp only; rw [← HSZ.out]; exact hlt)]
    go_wp2
    go_quiet (fail)
    have HK2 := Lib.hid (HK1.out.drewN nq)
    have HP2 := Lib.hid (HP1.out.drewN nq)
    have f2 := HK2.out.f.2
    have d2 := HK2.out.c.2.2
    clear c0 c1 c2 x0
    generalize W1.drewN nq = W2 at *
    go_wp2
    have HK3 : Hid (RdAt k b ⟨s1.at', true⟩ (W2.setCell ⟨k, 2, none⟩ (.bool true))) := set_heap (o := 2) (v := .bool true) HK2.out
    have HP3 := HP2.out.set k 2 (.bool true) (.inl rfl)
    refine bodyPost_ret (results_none rfl _ _ _) rfl ⟨rfl, ?_, ?_, HP3.self⟩
    · rw [HR.out]; exact HK3.out
    · rw [HR.out]; exact put1_same HP3 hgk hold'.out
  · have hle : s1.at' + m ≤ (mk b).size := by omega
    have hd : decide (((mk b).size : Int) - (s1.at' : Int) < (m : Int)) = false := by simpa using hlt
    have HR : Hid (res = (cut b s1.at' m, ⟨s1.at' + m, s1.bad⟩)) := by
      rw [Hid, HE.out]; unfold daR; rw [if_neg (by dsimp only; rw [← HSZ.out]; exact hlt)]; exact rfl
    clear hlt
    go_wp2
    go_quiet (fail)
    have HK2 := Lib.hid (HK1.out.drewN nq)
    have HP2 := Lib.hid (HP1.out.drewN nq)
    have HB2 : Hid ((W1.drewN nq).heap[W.heap.size]? = some (.cells #[.int .i64 (m : Int)] 3 (0, 0))) := HB1.out
    clear c0 c1 c2 x0
    generalize W1.drewN nq = W2 at *
    go_wp2
    have H0 : Hid (RdSt k b s1 W m W2.drew) := ⟨HK2.out.drew, HB2.out, HP2.out.drew⟩
    have hkA : Hid (∀ w, RdSt k b s1 W m w → w.cell? ⟨k, 0, none⟩ = some (.string (mk b)) ∧ w.cell? ⟨k, 1, none⟩ = some (.int .i64 (s1.at' : Int)) ∧ w.cell? ⟨W.heap.size, 0, none⟩ = some (.int .i64 (m : Int))) := fun w h => ⟨h.1.c.1, h.1.c.2.1, Lib.cell_of_heap h.2.1 0⟩
    have hkS : Hid (∀ w v, RdSt k b s1 W m w → (w.setCell ⟨g, o, none⟩ v).cell? ⟨k, 0, none⟩ = some (.string (mk b)) ∧ (w.setCell ⟨g, o, none⟩ v).cell? ⟨k, 1, none⟩ = some (.int .i64 (s1.at' : Int)) ∧ (w.setCell ⟨g, o, none⟩ v).cell? ⟨W.heap.size, 0, none⟩ = some (.int .i64 (m : Int))) := fun w v h =>
      have h1 : RdAt k b s1 (w.setCell ⟨g, o, none⟩ v) := (heap_ne (by omega)).trans h.1
      ⟨h1.c.1, h1.c.2.1, Lib.cell_of_heap ((heap_ne (by omega)).trans h.2.1) 0⟩
    have hT2 : Hid (∀ w, RdSt k b s1 W m w → w.frozen? ⟨g, o, none⟩ = false ∧ ∃ u, w.cell? ⟨g, o, none⟩ = some u) := fun w h => by
      obtain ⟨u, y0, y1⟩ := (HT.out.kept h.2.2 hgk).c
      exact ⟨y1, u, y0⟩
    have e1 : IntKind.i64.wrap ((s1.at' : Int) + (m : Int)) = (s1.at' : Int) + (m : Int) := IntWalk.i64_in _ (by omega)
    have e2 : (0 : Int) ≤ (s1.at' : Int) + (m : Int) := by omega
    have e3 : ((s1.at' : Int) + (m : Int)).toNat = s1.at' + m := by omega
    have e4 : (s1.at' : Int) ≤ (s1.at' : Int) + (m : Int) := by omega
    have e5 : (s1.at' : Int) + (m : Int) ≤ ((mk b).size : Int) := by omega
    have e6 := HL.out
    go_region_held3 (fun w => w.cell? ⟨k, 0, none⟩ = some (.string (mk b)) ∧ w.cell? ⟨k, 1, none⟩ = some (.int .i64 (s1.at' : Int)) ∧ w.cell? ⟨W.heap.size, 0, none⟩ = some (.int .i64 (m : Int))) (first | exact hkA.out _ H0.out | exact hkA.out _ H3.out | exact hkS.out _ _ H3.out) ((go_at_call 32; with_reducible refine (HC.out _).mono ?_; rintro e W3 ⟨rfl, hB⟩; have H3 := Lib.hid (RdSt.go H0.out hB); clear hB; have z0 := (hT2.out _ H3.out).1; obtain ⟨u, z1⟩ := (hT2.out _ H3.out).2))
    have HK4 : Hid (RdAt k b s1 (W3.setCell ⟨g, o, none⟩ (.string (mk (cut b s1.at' m))))) := (heap_ne (by omega)).trans H3.out.1
    have HB4 : Hid ((W3.setCell ⟨g, o, none⟩ (.string (mk (cut b s1.at' m)))).heap[W.heap.size]? = some (.cells #[.int .i64 (m : Int)] 3 (0, 0))) := (heap_ne (by omega)).trans H3.out.2.1
    have HQ4 := Lib.hid (put1_of (o := o) (v := .string (mk (cut b s1.at' m))) H3.out.2.2 hgk)
    have HP4 := Lib.hid (H3.out.2.2.self.set g o (.string (mk (cut b s1.at' m))) (.inr rfl))
    clear z0 z1 e3 e4 e6 hkS hkA hT2 H0 H3
    generalize W3.setCell ⟨g, o, none⟩ (.string (mk (cut b s1.at' m))) = W4 at *
    have x0 : W4.cell? ⟨W.heap.size, 0, none⟩ = some (.int .i64 (m : Int)) := Lib.cell_of_heap HB4.out 0
    obtain ⟨c0, c1, c2⟩ := HK4.out.c
    obtain ⟨f1, f2⟩ := HK4.out.f
    go_wp2
    go_still_tail 8, (by kernel_rfl)
    change wpList _ _ _ _ _ W4.drew
    have HK5 := Lib.hid HK4.out.drew
    have HQ5 : Hid (Put1 g o (.string (mk (cut b s1.at' m))) W W4.drew) := HQ4.out
    have HP5 := Lib.hid HP4.out.drew
    clear c0 c1 c2 f1 f2 x0 HK4 HB4 HQ4 HP4
    generalize W4.drew = W5 at *
    obtain ⟨c0, c1, c2⟩ := HK5.out.c
    obtain ⟨f1, f2⟩ := HK5.out.f
    go_wp2
    go_end0
    refine ⟨rfl, ?_, ?_, ?_⟩
    · rw [HR.out]
      have := set_heap (o := 1) (v := .int .i64 ((s1.at' : Int) + (m : Int))) HK5.out
      exact this
    · rw [HR.out]
      exact fun cs t h => (heap_ne (by omega)).trans (HQ5.out cs t h)
    · exact HP5.out.set k 1 _ (.inl rfl)
theorem getR2_lt (b : List UInt8) (a : Int) : (getR b a 2).1 < 65536 := by
  unfold getR
  split
  · simp
  · split
    · simp
    · split
      · simp
      · have := val_lt ((b.drop a.toNat).take (2 : Int).toNat)
        have h2 : ((b.drop a.toNat).take (2 : Int).toNat).length ≤ 2 := by rw [List.length_take]; omega
        have h3 : 256 ^ ((b.drop a.toNat).take (2 : Int).toNat).length ≤ 256 ^ 2 := Nat.pow_le_pow_right (by omega) h2
        simp only
        omega
end Go.Proofs.YtlfdmbfbfadifaaGreatDoor
