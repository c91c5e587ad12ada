/-
  What the layers below come to, in this layer's words.
  The writer: its state; add, number, text, data, errno.
  The writer: number, text, data, errno.
  The writer: dir, names.
-/
import Derived.Test.YtlfdmbfbfadifaaGreatDoorWb
import Derived.Test.YtlfdmbfbfadifaaGreatDoorYa
import Derived.Test.YtlfdmbfbfadifaaGreatDoorSm
import Derived.Test.YtlfdmbfbfadifaaGreatDoorSi
import Derived.Test.YtlfdmbfbfadifaaGreatDoorFb
import Derived.Lib.Builder
import Derived.Lib.AppendStr
import Derived.Lib.OthersKept
import Derived.Lib.OwnKind
namespace Go.Proofs.YtlfdmbfbfadifaaGreatDoor
open Go.RowKit

theorem oPut (n wd : Int) (hn : inI n) (w : World) :
    Calls Tryz.prog 20 #[.int .i64 n, .int .i64 wd] w fun e w' => e = .returned (.tuple #[.string (mk (putR n wd).1), .int .i64 (putR n wd).2]) ∧ Below w.heap.size w w' := St.PutM n wd hn w
theorem oGet (l : List UInt8) (a wd : Int) (hs : l.length ≤ maxLen) (w : World) :
    Calls Tryz.prog 31 #[.string (mk l), .int .i64 a, .int .i64 wd] w fun e w' => e = .returned (.tuple #[.int .i64 (getR l a wd).1, .int .i64 (getR l a wd).2.1, .int .i64 (getR l a wd).2.2]) ∧ w = w' := St.GetM l a wd hs w
theorem oPutText (l : List UInt8) (hs : l.length ≤ maxLen) (w : World) :
    Calls Tryz.prog 121 #[.string (mk l)] w fun e w' => e = .returned (.tuple #[.string (mk (putTextR l).1), .int .i64 (putTextR l).2]) ∧ Below w.heap.size w w' := St.PutTextM l hs w
theorem oGetText (l : List UInt8) (a : Int) (hs : l.length ≤ maxLen) (w : World) :
    Calls Tryz.prog 144 #[.string (mk l), .int .i64 a] w fun e w' => e = .returned (.tuple #[.string (mk (getTextR l a).1), .int .i64 (getTextR l a).2.1, .int .i64 (getTextR l a).2.2]) ∧ Below w.heap.size w w' := St.GetTextM l a hs w
theorem oClone (l : List UInt8) (w : World) (hs : (mk l).size ≤ 281474976710656) :
    Calls Tryz.prog 32 #[.string (mk l)] w fun e w' => e = .returned (.string (mk l)) ∧ Below w.heap.size w w' := St.sClone_any (mk l) w hs
theorem sPut (d : DD) (hd : inD d) (hb : bigD d) (w : World) (g : G w) :
    Calls Tryz.prog 120 #[dirV d] w fun e w' => e = .returned (.tuple #[.string (mk (putS d).1), .int .i64 (putS d).2]) ∧ Below w.heap.size w w' := St.Put_dir d hd hb w g.1
theorem sGet (l : List UInt8) (a : Int) (hl : l.length ≤ 1000000) (w : World) (g : G w) :
    Calls Tryz.prog 141 #[.string (mk l), .int .i64 a] w fun e w' => e = .returned (.tuple #[dirV (getS numP l a).1, .int .i64 (getS numP l a).2.1, .int .i64 (getS numP l a).2.2]) ∧ Below w.heap.size w w' := St.Get_dir l a hl w g.1
theorem fText (e : Int) (he : inI e) (w : World) :
    Calls Tryz.prog 122 #[.int .i64 e] w fun x w' => x = .returned (.string (mk (Ft.textL e))) ∧ Below w.heap.size w w' := Ft.Text_any e he w
theorem fFind (s : List UInt8) (w : World) :
    Calls Tryz.prog 143 #[.string (mk s)] w fun x w' => x = .returned (.tuple #[.int .i64 (Ft.findL s).1, .bool (Ft.findL s).2]) ∧ Below w.heap.size w w' := Ft.Find_any s w
end Go.Proofs.YtlfdmbfbfadifaaGreatDoor

namespace Go.Proofs.YtlfdmbfbfadifaaGreatDoor
open Go.RowKit

/-- The block k is that of a writer that holds the bytes bs and no error. -/
def WrAt (B k : Nat) (bs : List UInt8) (W : World) : Prop :=
  B ≤ k ∧ ∃ v, W.heap[k]? = some (.cells #[v, .int .i64 0] 47 (0, 0)) ∧ W.ownsRow B 5 1 v bs.length (Lib.strCells (mk bs)) ∧ v.ownBlock ≠ some k
theorem WrAt.below {B k : Nat} {bs : List UInt8} {w w' : World} (h : WrAt B k bs w) (hB : Below w.heap.size w w') : WrAt B k bs w' := by
  obtain ⟨h1, v, h2, h3, h4⟩ := h
  exact ⟨h1, v, (hB.block k (Array.getElem?_eq_some_iff.1 h2).1).trans h2, h3.kept (row := none) ⟨hB.os, hB.tape, hB.output, hB.size, fun k hk _ => hB.block k hk⟩ (by cases v.ownBlock <;> simp), h4⟩
theorem WrAt.alloc {B k : Nat} {bs : List UInt8} {w : World} (h : WrAt B k bs w) (o : Obj) : WrAt B k bs (w.alloc o) := h.below ((Below.refl _ _).alloc (Nat.le_refl _) _)
theorem strCells_app (a b : List UInt8) : Lib.strCells (mk a) ++ Lib.strCells (mk b) = Lib.strCells (mk (a ++ b)) := by
  simp [Lib.strCells, mk]
theorem infoByte : (Tryz.prog.info? 5).map (fun i => (i.zero, i.size, i.bytes)) = some (some (.int .u8 0), 1, 1) := by kernel_rfl
/-- What the writer's methods leave as it was. -/
def Wrote (B k : Nat) (w w' : World) : Prop := Below B w w' ∧ Lib.OthersKept 5 (some k) w w'
theorem Wrote.refl (B k : Nat) (w : World) : Wrote B k w w := ⟨Below.refl _ _, Lib.OthersKept.refl _ _ _⟩
theorem Wrote.trans {B k : Nat} {a b c : World} (h : Wrote B k a b) (h' : Wrote B k b c) : Wrote B k a c := ⟨h.1.trans h'.1, h.2.trans h'.2⟩

set_option maxHeartbeats 2000000 in
set_option maxRecDepth 100000 in
theorem add_any (B k : Nat) (bs s : List UInt8) (w : World) (h : WrAt B k bs w) (hlen : bs.length + (mk s).size ≤ 1000000) (hBw : B ≤ w.heap.size) :
    Calls Tryz.prog 119 #[.pointer (some ⟨k, 0, none⟩), .string (mk s), .int .i64 0] w fun e w' => e = .returned (.tuple #[]) ∧ WrAt B k (bs ++ s) w' ∧ Wrote B k w w' := by
  obtain ⟨i0, hi, hz0, hz1, hz2⟩ := info_parts infoByte
  obtain ⟨hB, v, hbk, hown, hne⟩ := h
  have c0 : w.cell? ⟨k, 0, none⟩ = some v := by rw [Lib.cell_of_heap hbk]; rfl
  have c1 : w.cell? ⟨k, 1, none⟩ = some (.int .i64 0) := by rw [Lib.cell_of_heap hbk]; rfl
  have f1 : w.frozen? ⟨k, 1, none⟩ = false := Lib.frozen_of_heap hbk 1
  have hbk1 : (w.setCell ⟨k, 1, none⟩ (.int .i64 0)).heap[k]? = some (.cells #[v, .int .i64 0] 47 (0, 0)) := by simp [World.setCell, Array.getElem?_modify, hbk]
  have hown1 : (w.setCell ⟨k, 1, none⟩ (.int .i64 0)).ownsRow B 5 1 v bs.length (Lib.strCells (mk bs)) :=
    hown.kept (row := some k) ⟨rfl, rfl, rfl, by simp [World.setCell], fun j _ hj => Below.heap_setCell _ _ _ _ (fun e => hj (by simp [e]))⟩ (Or.inr hne)
  have hW1 : Wrote B k w (w.setCell ⟨k, 1, none⟩ (.int .i64 0)) := ⟨(Below.refl B w).setCell (p := ⟨k, 1, none⟩) hB _, (Lib.OthersKept.refl _ _ w).setCell ⟨k, 1, none⟩ rfl _⟩
  have H0 := Lib.hid hbk1
  have H1 := Lib.hid hown1
  have H2 := Lib.hid hW1
  have H3 := Lib.hid hne
  clear hbk1 hown1 hW1 hbk hown hne
  go_enter Tryz.func119, Tryz.ntmps119
  go_wp2_with (at_builtin; refine Lib.wpList_append_own_string _ rfl _ _ 45 9 rfl B 5 i0 Tryz.underlying45 Tryz.underlying9 hi hz0 hz1 hz2 _ _ _ rfl H1.out (mk s) rfl ?c3 ?c4 ?c5 ?_)
  case c3 => unfold maxLen; omega
  case c4 => omega
  case c5 => exact Nat.le_trans hBw H2.out.1.size
  intro v' w2 hown' hgrow _
  have hlt : k < (w.setCell ⟨k, 1, none⟩ (.int .i64 0)).heap.size := (Array.getElem?_eq_some_iff.1 H0.out).1
  have hb2 : w2.heap[k]? = some (.cells #[v, .int .i64 0] 47 (0, 0)) := by
    rw [hgrow.block k hlt (fun e => H3.out e.symm)]
    exact H0.out
  have f0 : w2.frozen? ⟨k, 0, none⟩ = false := Lib.frozen_of_heap hb2 0
  have d0 : w2.cell? ⟨k, 0, none⟩ = some v := by rw [Lib.cell_of_heap hb2]; rfl
  obtain ⟨ao, n', cap, rfl⟩ : ∃ ao n' cap, v' = .slice ao n' cap := by
    rcases hown'.2 with ⟨hv, _⟩ | ⟨g, cap, cur, hv, _⟩
    · exact ⟨_, _, _, hv⟩
    · exact ⟨_, _, _, hv⟩
  have H4 := Lib.hid hb2
  have H5 := Lib.hid hown'
  have H6 := Lib.hid hgrow
  clear hb2 hown' hgrow
  go_wp2
  go_end0
  have hne' := Lib.ownBlock_ne H5.out H4.out (by decide)
  refine ⟨rfl, ⟨hB, .slice ao n' cap, by simp [World.setCell, Array.getElem?_modify, H4.out], ?_, hne'⟩, ?_, ?_⟩
  · have e : (bs ++ s).length = bs.length + (mk s).size := by rw [List.length_append, mk_size]
    rw [e, ← strCells_app]
    exact H5.out.kept (row := some k) ⟨rfl, rfl, rfl, by simp [World.setCell], fun j _ hj => Below.heap_setCell _ _ _ _ (fun e => hj (by simp [e]))⟩ (Or.inr hne')
  · exact (H2.out.1.grown H6.out (Nat.le_trans hBw H2.out.1.size) (fun k hk => (H1.out.lt k hk).1)).setCell (p := ⟨k, 0, none⟩) hB _
  · exact (H2.out.2.grown H6.out (Lib.ownsRow_kind H1.out)).setCell ⟨k, 0, none⟩ rfl _
end Go.Proofs.YtlfdmbfbfadifaaGreatDoor

namespace Go.Proofs.YtlfdmbfbfadifaaGreatDoor
open Go.RowKit

theorem Wrote.of_below {B k : Nat} {w w' : World} (hBw : B ≤ w.heap.size) (h : Below w.heap.size w w') : Wrote B k w w' :=
  ⟨h.mono hBw, fun j _ hj _ _ => (h.block j (Array.getElem?_eq_some_iff.1 hj).1).trans hj⟩
theorem putR_fit {n : Int} {wd : Nat} (hw : 1 ≤ wd ∧ wd ≤ 8) (hn : 0 ≤ n) (h : n.toNat < 256 ^ wd) : putR n wd = (le wd n.toNat, 0) := St.putR_ok (w := (wd : Int)) (by omega) hn (by simpa using h)
theorem putTextR_fit {l : List UInt8} (h : l.length < 65536) : putTextR l = (counted l, 0) := by unfold putTextR counted; rw [if_neg (by omega)]
theorem mk_len (l : List UInt8) : (mk l).size = l.length := mk_size l

set_option maxHeartbeats 2000000 in
set_option maxRecDepth 100000 in
theorem wNumber (B k : Nat) (bs : List UInt8) (g o : Nat) (n : Int) (wd : Nat) (w : World) (hw : 1 ≤ wd ∧ wd ≤ 8) (hi : inI n) (hn : 0 ≤ n ∧ n.toNat < 256 ^ wd) (h : WrAt B k bs w) (hlen : bs.length ≤ 900000) (hBw : B ≤ w.heap.size) (hc : w.cell? ⟨g, o, none⟩ = some (.int .i64 n)) :
    Calls Tryz.prog 116 #[.pointer (some ⟨k, 0, none⟩), .pointer (some ⟨g, o, none⟩), .int .i64 (wd : Int)] w fun e w' => e = .returned (.tuple #[]) ∧ WrAt B k (bs ++ le wd n.toNat) w' ∧ Wrote B k w w' := by
  have hP := oPut n wd hi w
  rw [putR_fit hw hn.1 hn.2] at hP
  have HP := Lib.hid hP
  have HA := Lib.hid (fun W (hb : Below w.heap.size w W) => add_any B k bs (le wd n.toNat) W (h.below hb) (by rw [mk_len, le_len]; omega) (Nat.le_trans hBw hb.size))
  have HW := Lib.hid (fun W (hb : Below w.heap.size w W) => Wrote.of_below (k := k) hBw hb)
  clear hP h hn hi hlen
  dsimp only at HP
  generalize le wd n.toNat = L at *
  go_enter Tryz.func116, Tryz.ntmps116
  go_wp2_with fail
  refine HP.out.mono ?_
  rintro e w1 ⟨rfl, hb1⟩
  have HB1 := Lib.hid hb1
  clear hb1
  go_wp2_with fail
  refine (HA.out w1 HB1.out).mono ?_
  rintro e w2 ⟨rfl, h2, h3⟩
  have H2 := Lib.hid h2
  have H3 := Lib.hid ((HW.out w1 HB1.out).trans h3)
  clear h2 h3
  go_wp2
  go_end0
  exact ⟨rfl, H2.out, H3.out⟩
set_option maxHeartbeats 2000000 in
set_option maxRecDepth 100000 in
theorem wText (B k : Nat) (bs : List UInt8) (g o : Nat) (s : List UInt8) (w : World) (hs : s.length < 65536) (h : WrAt B k bs w) (hlen : bs.length ≤ 900000) (hBw : B ≤ w.heap.size) (hc : w.cell? ⟨g, o, none⟩ = some (.string (mk s))) :
    Calls Tryz.prog 118 #[.pointer (some ⟨k, 0, none⟩), .pointer (some ⟨g, o, none⟩)] w fun e w' => e = .returned (.tuple #[]) ∧ WrAt B k (bs ++ counted s) w' ∧ Wrote B k w w' := by
  have hP := oPutText s (by unfold maxLen; omega) w
  rw [putTextR_fit hs] at hP
  have HP := Lib.hid hP
  have HA := Lib.hid (fun W (hb : Below w.heap.size w W) => add_any B k bs (counted s) W (h.below hb) (by rw [mk_len, counted_len]; omega) (Nat.le_trans hBw hb.size))
  have HW := Lib.hid (fun W (hb : Below w.heap.size w W) => Wrote.of_below (k := k) hBw hb)
  clear hP h hs hlen
  dsimp only at HP
  generalize counted s = L at *
  go_enter Tryz.func118, Tryz.ntmps118
  go_wp2_with fail
  refine HP.out.mono ?_
  rintro e w1 ⟨rfl, hb1⟩
  have HB1 := Lib.hid hb1
  clear hb1
  go_wp2_with fail
  refine (HA.out w1 HB1.out).mono ?_
  rintro e w2 ⟨rfl, h2, h3⟩
  have H2 := Lib.hid h2
  have H3 := Lib.hid ((HW.out w1 HB1.out).trans h3)
  clear h2 h3
  go_wp2
  go_end0
  exact ⟨rfl, H2.out, H3.out⟩
set_option maxHeartbeats 2000000 in
set_option maxRecDepth 100000 in
theorem wErrno (B k : Nat) (bs : List UInt8) (g o : Nat) (er : Int) (w : World) (he : inI er) (h : WrAt B k bs w) (hlen : bs.length ≤ 900000) (hBw : B ≤ w.heap.size) (hc : w.cell? ⟨g, o, none⟩ = some (.int .i64 er)) :
    Calls Tryz.prog 114 #[.pointer (some ⟨k, 0, none⟩), .pointer (some ⟨g, o, none⟩)] w fun e w' => e = .returned (.tuple #[]) ∧ WrAt B k (bs ++ counted (Ft.textL er)) w' ∧ Wrote B k w w' := by
  have ht := Ft.textL_len er
  have hF := Lib.hid (fText er he w)
  have hP0 := fun W => oPutText (Ft.textL er) (by unfold maxLen; omega) W
  rw [putTextR_fit (by omega)] at hP0
  have HP := Lib.hid hP0
  have HA := Lib.hid (fun W (hb : Below w.heap.size w W) => add_any B k bs (counted (Ft.textL er)) W (h.below hb) (by rw [mk_len, counted_len]; omega) (Nat.le_trans hBw hb.size))
  have HW := Lib.hid (fun W (hb : Below w.heap.size w W) => Wrote.of_below (k := k) hBw hb)
  clear hP0 h ht hlen
  dsimp only at HP
  generalize counted (Ft.textL er) = L at *
  go_enter Tryz.func114, Tryz.ntmps114
  go_wp2_with fail
  refine hF.out.mono ?_
  rintro e w0 ⟨rfl, hb0⟩
  have HB0 := Lib.hid hb0
  clear hb0
  go_wp2_with fail
  refine (HP.out w0).mono ?_
  rintro e w1 ⟨rfl, hb1⟩
  have HB1 := Lib.hid (HB0.out.trans (hb1.mono HB0.out.size))
  clear hb1
  go_wp2_with fail
  refine (HA.out w1 HB1.out).mono ?_
  rintro e w2 ⟨rfl, h2, h3⟩
  have H2 := Lib.hid h2
  have H3 := Lib.hid ((HW.out w1 HB1.out).trans h3)
  clear h2 h3
  go_wp2
  go_end0
  exact ⟨rfl, H2.out, H3.out⟩
set_option maxHeartbeats 2000000 in
set_option maxRecDepth 100000 in
theorem wData (B k : Nat) (bs : List UInt8) (g o : Nat) (s : List UInt8) (w : World) (hs : (mk s).size ≤ 50000) (h : WrAt B k bs w) (hlen : bs.length ≤ 900000) (hBw : B ≤ w.heap.size) (hc : w.cell? ⟨g, o, none⟩ = some (.string (mk s))) (hg : ∃ cs t, w.heap[g]? = some (.cells cs t (0, 0)) ∧ g ≠ k ∧ t ≠ 5) :
    Calls Tryz.prog 112 #[.pointer (some ⟨k, 0, none⟩), .pointer (some ⟨g, o, none⟩)] w fun e w' => e = .returned (.tuple #[]) ∧ WrAt B k (bs ++ (le 4 s.length ++ s)) w' ∧ Wrote B k w w' := by
  have hz := mk_len s
  have hP0 := fun W => oPut ((mk s).size : Int) 4 ⟨by omega, by omega⟩ W
  have ep := putR_fit (n := ((mk s).size : Int)) (wd := 4) (by omega) (by omega) (by simp; omega)
  rw [show ((4 : Nat) : Int) = 4 from rfl] at ep
  rw [ep] at hP0
  have HP := Lib.hid hP0
  have HA := Lib.hid (fun W (hb : Below w.heap.size w W) => add_any B k bs (le 4 (mk s).size) W (h.below hb) (by rw [mk_len, le_len]; omega) (Nat.le_trans hBw hb.size))
  have HA2 := Lib.hid (fun W (hw' : WrAt B k (bs ++ le 4 (mk s).size) W) (hz' : w.heap.size ≤ W.heap.size) => add_any B k (bs ++ le 4 (mk s).size) s W hw' (by rw [List.length_append, le_len]; omega) (Nat.le_trans hBw hz'))
  have HW := Lib.hid (fun W (hb : Below w.heap.size w W) => Wrote.of_below (k := k) hBw hb)
  have HC := Lib.hid (fun W (hw' : Wrote B k w W) => (by
    obtain ⟨cs, t, h1, h2, h3⟩ := hg
    have := hw'.2 g _ h1 (fun e => h2 (by injection e)) (fun c fz hc => h3 (by injection hc))
    rw [Lib.cell_of_heap this, ← Lib.cell_of_heap h1]; exact hc : W.cell? ⟨g, o, none⟩ = some (.string (mk s))))
  have HE : Hid (bs ++ le 4 (mk s).size ++ s = bs ++ (le 4 s.length ++ s)) := by rw [hz, List.append_assoc]; exact rfl
  clear hP0 h hlen hg hz ep
  dsimp only at HP
  rw [Int.toNat_natCast] at HP
  generalize le 4 (mk s).size = L at *
  go_enter Tryz.func112, Tryz.ntmps112
  go_wp2_with fail
  refine (HP.out _).mono ?_
  rintro e w1 ⟨rfl, hb1⟩
  have HB1 := Lib.hid hb1
  clear hb1
  go_wp2_with fail
  refine (HA.out w1 HB1.out).mono ?_
  rintro e w2 ⟨rfl, h2, h3⟩
  have H2 := Lib.hid h2
  have H3 := Lib.hid ((HW.out w1 HB1.out).trans h3)
  clear h2 h3
  have c2 := HC.out w2 H3.out
  go_wp2_with fail
  refine (HA2.out w2 H2.out (H3.out.1.size)).mono ?_
  rintro e w3 ⟨rfl, h2, h3⟩
  rw [HE.out] at h2
  have H4 := Lib.hid h2
  have H5 := Lib.hid (H3.out.trans h3)
  clear h2 h3
  go_wp2
  go_end0
  exact ⟨rfl, H4.out, H5.out⟩
end Go.Proofs.YtlfdmbfbfadifaaGreatDoor

namespace Go.Proofs.YtlfdmbfbfadifaaGreatDoor
open Go.RowKit

set_option maxHeartbeats 2000000 in
set_option maxRecDepth 100000 in
theorem wDir (B k : Nat) (bs : List UInt8) (g : Nat) (m : MM) (w : World) (hd : inD m.st) (hbd : bigD m.st) (hok : checkR m.st = 0) (gw : G w) (h : WrAt B k bs w) (hlen : bs.length ≤ 900000) (hBw : B ≤ w.heap.size) (hm : BlkM w g m) :
    Calls Tryz.prog 113 #[.pointer (some ⟨k, 0, none⟩), .pointer (some ⟨g, 22, none⟩)] w fun e w' => e = .returned (.tuple #[]) ∧ WrAt B k (bs ++ (le 2 (putS m.st).1.length ++ (putS m.st).1)) w' ∧ Wrote B k w w' := by
  have hst := hm.stat
  obtain ⟨hl1, hl2⟩ := putS_len hok
  have hS0 := sPut m.st hd hbd w gw
  rw [hl2] at hS0
  have HS := Lib.hid hS0
  have hz := mk_len (putS m.st).1
  have hP0 := fun W => oPut ((mk (putS m.st).1).size : Int) 2 ⟨by omega, by omega⟩ W
  have ep := putR_fit (n := ((mk (putS m.st).1).size : Int)) (wd := 2) (by omega) (by omega) (by simp; omega)
  rw [show ((2 : Nat) : Int) = 2 from rfl] at ep
  rw [ep] at hP0
  have HP := Lib.hid hP0
  have HA := Lib.hid (fun W (hb : Below w.heap.size w W) => add_any B k bs (le 2 (mk (putS m.st).1).size) W (h.below hb) (by rw [mk_len, le_len]; omega) (Nat.le_trans hBw hb.size))
  have HA2 := Lib.hid (fun W (hw' : WrAt B k (bs ++ le 2 (mk (putS m.st).1).size) W) (hz' : w.heap.size ≤ W.heap.size) => add_any B k (bs ++ le 2 (mk (putS m.st).1).size) (putS m.st).1 W hw' (by rw [List.length_append, le_len]; omega) (Nat.le_trans hBw hz'))
  have HW := Lib.hid (fun W (hb : Below w.heap.size w W) => Wrote.of_below (k := k) hBw hb)
  have HE : Hid (bs ++ le 2 (mk (putS m.st).1).size ++ (putS m.st).1 = bs ++ (le 2 (putS m.st).1.length ++ (putS m.st).1)) := by rw [hz, List.append_assoc]; exact rfl
  have HST := Lib.hid hst
  have hsz : (mk (putS m.st).1).size ≤ 313 := by omega
  clear hP0 h hlen hz ep hS0 hst hl1 hl2 hm
  dsimp only at HP
  rw [Int.toNat_natCast] at HP
  generalize (putS m.st).1 = S at *
  generalize le 2 (mk S).size = L at *
  have HI : Hid ((Tryz.prog.info? 27).map (·.size) = some (cellsD m.st).length) := by show _ = some 13; kernel_rfl
  unfold dirV cellsA at HS
  generalize cellsD m.st = cd at *
  go_enter Tryz.func113, Tryz.ntmps113
  go_wp2_with (refine wpList_load_mid rfl 27 _ rfl g 22 rfl cd _ HST.out Tryz.underlying27 rfl HI.out ?_)
  refine HS.out.mono ?_
  rintro e w0 ⟨rfl, hb0⟩
  have HB0 := Lib.hid hb0
  clear hb0
  go_wp2_with fail
  refine (HP.out w0).mono ?_
  rintro e w1 ⟨rfl, hb1⟩
  have HB1 := Lib.hid (HB0.out.trans (hb1.mono HB0.out.size))
  clear hb1
  go_wp2_with fail
  refine (HA.out w1 HB1.out).mono ?_
  rintro e w2 ⟨rfl, h2, h3⟩
  have H2 := Lib.hid h2
  have H3 := Lib.hid ((HW.out w1 HB1.out).trans h3)
  have hz2 := Lib.hid (Nat.le_trans HB1.out.size h3.1.size)
  clear h2 h3
  go_wp2_with fail
  refine (HA2.out w2 H2.out hz2.out).mono ?_
  rintro e w3 ⟨rfl, h2, h3⟩
  rw [HE.out] at h2
  have H4 := Lib.hid h2
  have H5 := Lib.hid (H3.out.trans h3)
  clear h2 h3
  go_wp2
  go_end0
  exact ⟨rfl, H4.out, H5.out⟩

/-- The bytes of the names up to the k-th. -/
def namesTo (L : List (List UInt8)) (j : Nat) : List UInt8 := le 2 L.length ++ (L.take j).flatMap counted
theorem namesTo_zero (L : List (List UInt8)) : namesTo L 0 = le 2 L.length := by simp [namesTo]
theorem namesTo_succ {L : List (List UInt8)} {j : Nat} (h : j < L.length) : namesTo L j ++ counted L[j] = namesTo L (j + 1) := by
  unfold namesTo
  rw [List.take_succ_eq_append_getElem h, List.flatMap_append, List.append_assoc]; simp
theorem namesTo_all (L : List (List UInt8)) : namesTo L L.length = le 2 L.length ++ L.flatMap counted := by simp [namesTo]
theorem namesTo_le {L : List (List UInt8)} (h : L.length ≤ 16 ∧ ∀ l ∈ L, l.length ≤ 64) (j : Nat) : (namesTo L j).length ≤ 1100 := by
  unfold namesTo
  have := flatMap_le (L := L.take j) (g := counted) (n := 66) fun l hl => by rw [counted_len]; have := h.2 l (List.mem_of_mem_take hl); omega
  have : (L.take j).length ≤ L.length := List.length_take_le' ..
  rw [List.length_append, le_len]; omega
theorem wrote_cell {B k : Nat} {w w' : World} (h : Wrote B k w w') {g : Nat} (hg : ∃ cs t, w.heap[g]? = some (.cells cs t (0, 0)) ∧ g ≠ k ∧ t ≠ 5) (o : Nat) : w'.cell? ⟨g, o, none⟩ = w.cell? ⟨g, o, none⟩ := by
  obtain ⟨cs, t, h1, h2, h3⟩ := hg
  have := h.2 g _ h1 (fun e => h2 (by injection e)) (fun c fz hc => h3 (by injection hc))
  rw [Lib.cell_of_heap this, ← Lib.cell_of_heap h1]

set_option maxHeartbeats 2000000 in
set_option maxRecDepth 100000 in
theorem wNames (B k : Nat) (bs : List UInt8) (g o : Nat) (v : Value) (L : List (List UInt8)) (w0 w : World) (hL : L.length ≤ 16 ∧ ∀ l ∈ L, l.length ≤ 64) (hr : SRow w0 v L) (hB0 : w0.heap.size = B) (hb : Below B w0 w) (h : WrAt B k bs w) (hlen : bs.length ≤ 800000)
    (hc : w.cell? ⟨g, o, none⟩ = some v) (hg : ∃ cs t, w.heap[g]? = some (.cells cs t (0, 0)) ∧ g ≠ k ∧ t ≠ 5) :
    Calls Tryz.prog 115 #[.pointer (some ⟨k, 0, none⟩), .pointer (some ⟨g, o, none⟩)] w fun e w' => e = .returned (.tuple #[]) ∧ WrAt B k (bs ++ (le 2 L.length ++ L.flatMap counted)) w' ∧ Wrote B k w w' := by
  subst hB0
  have hBw := hb.size
  obtain ⟨p, cap, rfl, hcap, hcm, -⟩ := id hr
  have hP0 := fun W => oPut (L.length : Int) 2 ⟨by omega, by omega⟩ W
  have ep := putR_fit (n := (L.length : Int)) (wd := 2) (by omega) (by omega) (by simp; omega)
  rw [show ((2 : Nat) : Int) = 2 from rfl] at ep
  rw [ep] at hP0
  dsimp only at hP0
  rw [Int.toNat_natCast] at hP0
  have HP := Lib.hid hP0
  have HA := Lib.hid (fun W (hb : Below w.heap.size w W) => add_any w0.heap.size k bs (le 2 L.length) W (h.below hb) (by rw [mk_len, le_len]; omega) (Nat.le_trans hBw hb.size))
  have HW := Lib.hid (fun W (hb : Below w.heap.size w W) => Wrote.of_below (k := k) hBw hb)
  have HC := Lib.hid (fun W (h : Wrote w0.heap.size k w W) => (wrote_cell h hg o).trans hc)
  have HT := Lib.hid (fun j (hj : j < L.length) gg W (hwr : WrAt w0.heap.size k (bs ++ namesTo L j) W) (hz : w0.heap.size ≤ W.heap.size) (hcc : W.cell? ⟨gg, 0, none⟩ = some (.string (mk L[j]))) => wText w0.heap.size k (bs ++ namesTo L j) gg 0 L[j] W (by have := hL.2 _ (List.getElem_mem hj); omega) hwr (by have := namesTo_le hL j; rw [List.length_append]; omega) hz hcc)
  have HS := Lib.hid (fun j (hj : j < L.length) => (by rw [List.append_assoc, namesTo_succ hj] : bs ++ namesTo L j ++ counted L[j] = bs ++ namesTo L (j + 1)))
  have HZ : Hid (bs ++ le 2 L.length = bs ++ namesTo L 0) := by rw [namesTo_zero]; exact rfl
  have HX : Hid (bs ++ namesTo L L.length = bs ++ (le 2 L.length ++ L.flatMap counted)) := by rw [namesTo_all]; exact rfl
  have HR := Lib.hid hr
  have HB := Lib.hid hb
  have hl0 : (L.length : Int) ≤ (cap : Int) := by omega
  unfold maxLen at hcm
  clear hP0 ep hlen hL hg h hr hb
  go_enter Tryz.func115, Tryz.ntmps115
  go_wp2_with fail
  refine (HP.out w).mono ?_
  rintro e w1 ⟨rfl, hb1⟩
  have HB1 := Lib.hid hb1
  clear hb1
  go_wp2_with fail
  refine (HA.out w1 HB1.out).mono ?_
  rintro e w2 ⟨rfl, h2, h3⟩
  rw [HZ.out] at h2
  have H2 := Lib.hid h2
  have H3 := Lib.hid ((HW.out w1 HB1.out).trans h3)
  have hc2 := HC.out w2 H3.out
  clear h2 h3
  go_wp2
  go_loopw [19] (fun vj wr => ∃ j : Nat, vj = .int .i64 (j : Int) ∧ j ≤ L.length ∧ Hid (WrAt w0.heap.size k (bs ++ namesTo L j) wr) ∧ Hid (Wrote w0.heap.size k w wr)) (fun vj _ => L.length - (intOf vj).toNat)
  case atStart => exact ⟨0, rfl, by omega, H2, H3⟩
  case round =>
    obtain ⟨j, rfl, hj, hw1, hw2⟩ := hrel
    by_cases hlt : j < L.length
    · obtain ⟨b, o', cap', hv, hbb, hcl, x0⟩ := HR.out.at_ (HB.out.trans hw2.out.1) hlt
      obtain ⟨rfl, rfl⟩ : p = some ⟨b, o', none⟩ ∧ cap = cap' := by injection hv with a1 a2 a3; exact ⟨a1, a3⟩
      clear hv hbb
      have HTj := Lib.hid (HT.out j hlt)
      have HSj := Lib.hid (HS.out j hlt)
      have k0 : (0 : Int) ≤ (j : Int) := by omega
      have k1 : (j : Int) < (L.length : Int) := by omega
      generalize L[j] = sj at *
      generalize mk sj = s at *
      have hBal := Lib.hid ((Below.refl wr.heap.size wr).alloc (Nat.le_refl _) (.cells #[.string s] 9))
      have hcn : Hid ((wr.alloc (.cells #[.string s] 9)).cell? ⟨wr.heap.size, 0, none⟩ = some (.string s)) := by
        show _ = _
        rw [World.cell?_alloc_new]; rfl
      have hzw := Lib.hid hw2.out.1.size
      have hWal := Lib.hid (hw2.out.trans (Wrote.of_below (k := k) (Nat.le_trans hBw hw2.out.1.size) hBal.out))
      have hWa := Lib.hid (hw1.out.alloc (.cells #[.string s] 9))
      go_wp2_with fail
      refine (HTj.out wr.heap.size _ hWa.out (Nat.le_trans hBw hWal.out.1.size) hcn.out).mono ?_
      rintro e w3 ⟨rfl, h2, h3⟩
      rw [HSj.out] at h2
      have H4 := Lib.hid h2
      have H5 := Lib.hid (hWal.out.trans h3)
      clear h2 h3
      go_wp2
      exact ⟨⟨j + 1, by go_num, by omega, H4, H5⟩, by simp [intOf]; omega⟩
    · obtain rfl : j = L.length := by omega
      have h4 := hw1.out
      rw [HX.out] at h4
      have H4 := Lib.hid h4
      clear h4
      go_wp2
      go_end0
      exact ⟨rfl, H4.out, hw2.out⟩
end Go.Proofs.YtlfdmbfbfadifaaGreatDoor
