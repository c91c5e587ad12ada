/-
  Walks: the closures of setData, Rename, Attrs, Remove; changeBy.
-/
import Derived.Test.YtalhkoolpnmcdaaAp
namespace Go.Proofs.Ytalhkoolpnmcdaa
open Go.RowKit

theorem BlkI.far {w : World} {b : Nat} {i : Int} (h : BlkI w b i) {a : Addr} (ha : b ≠ a.block) (v : Value) : BlkI (w.setCell a v) b i := ⟨by rw [World.cell?_setCell_other w a ⟨b, 0, none⟩ v (fun e => ha (by rw [e]))]; exact h.1, by simp only [World.setCell, Array.size_modify]; exact h.2⟩
/-- A function value in a block of its own. -/
def BlkF (w : World) (b g : Nat) (lb : Array Value) : Prop := w.cell? ⟨b, 0, none⟩ = some (.func (.func g) #[] lb) ∧ b < w.heap.size
theorem BlkF.below {w w' : World} {b g : Nat} {lb : Array Value} (h : BlkF w b g lb) (hB : Below w.heap.size w w') : BlkF w' b g lb := ⟨(hB.cell (p := ⟨b, 0, none⟩) h.2).trans h.1, Nat.lt_of_lt_of_le h.2 hB.size⟩

set_option maxRecDepth 100000 in
set_option maxHeartbeats 3200000 in
theorem setData1_any (s : List UInt8) (g : Nat) (lb : Array Value) (F : ND → ND) (eg : ∀ args w, (callFunc g args).run Try.prog w = .ok (.enter g args) w) (bs bf : Nat) (w : World) (hs : BlkS w bs s) (hf : BlkF w bf g lb) (hE : Edits g lb F w) :
    Edits 99 #[.pointer (some ⟨bs, 0, none⟩), .pointer (some ⟨bf, 0, none⟩)] (fun n => F (dataN s n)) w := by
  intro W G o cur n hB hG hS h0 h1
  obtain ⟨cs, ls⟩ := hs.below hB
  obtain ⟨cf, lf⟩ := hf.below hB
  have ns : bs ≠ G := by have := hs.2; omega
  have nf : bf ≠ G := by have := hf.2; omega
  have ns' : G ≠ bs := fun e => ns e.symm
  have nf' : G ≠ bf := fun e => nf e.symm
  have c10 := hS.cell 10 _ rfl
  have f10 := hS.frozen (o + 10)
  have HD := hS.done.set 10 (by omega) (.string (mk s)) (m := dataN s n) rfl
  obtain ⟨W1, hW1⟩ : ∃ W1, W1 = W.setCell ⟨G, o + 10, none⟩ (.string (mk s)) := ⟨_, rfl⟩
  have hB1 : Below w.heap.size w W1 := by rw [hW1]; exact hB.setCell (p := ⟨G, o + 10, none⟩) hG _
  rw [← hW1] at HD
  have hcall := fun cur1 (h : Slot W1 G o cur1 (dataN s n)) => hE W1 G o cur1 (dataN s n) hB1 hG h h0 h1
  obtain ⟨cur1, hs1, ht1, hg1⟩ := HD
  replace hcall := Lib.hid (hcall cur1 hs1)
  have HT1 := Lib.hid ht1
  have HG1 := Lib.hid hg1
  rw [hW1] at hcall
  have HW1 := Lib.hid hW1
  show Calls Try.prog _ #[.pointer (some ⟨G, o, none⟩), .pointer (some ⟨bs, 0, none⟩), .pointer (some ⟨bf, 0, none⟩)] W _
  clear hW1 hB1 hs1 ht1 hg1 hE hs hf hB ls lf hS
  go_enter Try.func99, Try.ntmps99
  go_wp2_with (go_at_fn g; refine hcall.out.mono ?_; rintro e w' ⟨rfl, hD⟩; have HD := Lib.hid hD; clear hD)
  go_end0
  obtain ⟨cur2, hs2, ht2, hg2⟩ := HD.out
  rw [← HW1.out] at hg2
  exact ⟨rfl, cur2, hs2, HT1.out.trans ht2, HG1.out.trans hg2⟩

set_option maxRecDepth 100000 in
set_option maxHeartbeats 3200000 in
theorem Rename1_any (x : List UInt8) (bs : Nat) (w : World) (hs : BlkS w bs x) : Edits 92 #[.pointer (some ⟨bs, 0, none⟩)] (nameN x) w := by
  intro W G o cur n hB hG hS h0 h1
  obtain ⟨cs, ls⟩ := hs.below hB
  have ns : bs ≠ G := by have := hs.2; omega
  have ns' : G ≠ bs := fun e => ns e.symm
  have c3 := hS.cell 3 _ rfl
  have f3 := hS.frozen (o + 3)
  have HD := Lib.hid (hS.done.set 3 (by omega) (.string (mk x)) (m := nameN x n) rfl)
  show Calls Try.prog _ #[.pointer (some ⟨G, o, none⟩), .pointer (some ⟨bs, 0, none⟩)] W _
  clear hs hB ls hS
  go_enter Try.func92, Try.ntmps92
  go_wp2
  go_end0
  exact ⟨rfl, HD.out⟩

set_option maxRecDepth 100000 in
set_option maxHeartbeats 12800000 in
theorem Attrs1_any (mode : Int) (gid : List UInt8) (mtime : Int) (bm bs bt : Nat) (w : World) (hm : BlkI w bm mode) (hs : BlkS w bs gid) (ht : BlkI w bt mtime) :
    Edits 93 #[.pointer (some ⟨bm, 0, none⟩), .pointer (some ⟨bs, 0, none⟩), .pointer (some ⟨bt, 0, none⟩)] (attrN mode gid mtime) w := by
  intro W G o cur n hB hG hS h0 h1
  obtain ⟨cm, lm⟩ := hm.below hB
  obtain ⟨cs, ls⟩ := hs.below hB
  obtain ⟨ct, lt⟩ := ht.below hB
  have ns : bs ≠ G := by have := hs.2; omega
  have nm : bm ≠ G := by have := hm.2; omega
  have nt : bt ≠ G := by have := ht.2; omega
  have ns' : G ≠ bs := fun e => ns e.symm
  have nm' : G ≠ bm := fun e => nm e.symm
  have nt' : G ≠ bt := fun e => nt e.symm
  have hc := hS.cell
  have c4 := hc 4 _ rfl
  have c6 := hc 6 _ rfl
  have c9 := hc 9 _ rfl
  have f4 := hS.frozen (o + 4)
  have f6 := hS.frozen (o + 6)
  have f9 := hS.frozen (o + 9)
  have hN := Lib.hid (fun W => nameOf_any gid W)
  have HD := Lib.hid hS.done
  show Calls Try.prog _ #[.pointer (some ⟨G, o, none⟩), .pointer (some ⟨bm, 0, none⟩), .pointer (some ⟨bs, 0, none⟩), .pointer (some ⟨bt, 0, none⟩)] W _
  have hsz : (mk (shortL gid)).toList.isEmpty = decide (shortL gid = []) := by rw [mk_toList, Bool.eq_iff_iff]; simp
  have hat : attrN mode gid mtime n = { n with mo := if mode = -1 then n.mo else mode, gi := if shortL gid = [] then n.gi else shortL gid, mt := if mtime = -1 then n.mt else mtime } := rfl
  generalize attrN mode gid mtime n = m at hat ⊢
  clear hc hS hm hs ht hB lm ls lt
  generalize shortL gid = sg at *
  by_cases ha : mode = -1
  · by_cases hb : sg = []
    · by_cases hc : mtime = -1
      · rw [if_pos ha, if_pos hb, if_pos hc] at hat
        have ha2 : (mode != -1) = false := by simpa using ha
        have hc2 : (mtime != -1) = false := by simpa using hc
        rw [decide_eq_true hb] at hsz
        have hsz2 : (mk sg).toList = [] ↔ True := by rw [mk_toList]; simp [hb]
        have HE : Hid (Done W G o cur m W) := by rw [hat]; exact HD.out
        clear hat HD ha hb hc
        go_enter Try.func93, Try.ntmps93
        go_wp2_with (go_at_call 34; refine (hN.out _).mono ?_; rintro e w' ⟨rfl, rfl⟩)
        go_end0
        exact ⟨rfl, HE.out⟩
      · rw [if_pos ha, if_pos hb, if_neg hc] at hat
        have ha2 : (mode != -1) = false := by simpa using ha
        have hc2 : (mtime != -1) = true := by simpa using hc
        rw [decide_eq_true hb] at hsz
        have hsz2 : (mk sg).toList = [] ↔ True := by rw [mk_toList]; simp [hb]
        have HE : Hid (Done W G o cur m (W.setCell ⟨G, o + 9, none⟩ (.int .i64 mtime))) := by rw [hat]; exact (HD.out.set 9 (by omega) (.int .i64 mtime) (m := { n with mt := mtime }) rfl)
        clear hat HD ha hb hc
        go_enter Try.func93, Try.ntmps93
        go_wp2_with (go_at_call 34; refine (hN.out _).mono ?_; rintro e w' ⟨rfl, rfl⟩)
        go_end0
        exact ⟨rfl, HE.out⟩
    · by_cases hc : mtime = -1
      · rw [if_pos ha, if_neg hb, if_pos hc] at hat
        have ha2 : (mode != -1) = false := by simpa using ha
        have hc2 : (mtime != -1) = false := by simpa using hc
        rw [decide_eq_false hb] at hsz
        have hsz2 : (mk sg).toList = [] ↔ False := by rw [mk_toList]; simp [hb]
        have HE : Hid (Done W G o cur m (W.setCell ⟨G, o + 6, none⟩ (.string (mk sg)))) := by rw [hat]; exact (HD.out.set 6 (by omega) (.string (mk sg)) (m := { n with gi := sg }) rfl)
        clear hat HD ha hb hc
        go_enter Try.func93, Try.ntmps93
        go_wp2_with (go_at_call 34; refine (hN.out _).mono ?_; rintro e w' ⟨rfl, rfl⟩)
        go_end0
        exact ⟨rfl, HE.out⟩
      · rw [if_pos ha, if_neg hb, if_neg hc] at hat
        have ha2 : (mode != -1) = false := by simpa using ha
        have hc2 : (mtime != -1) = true := by simpa using hc
        rw [decide_eq_false hb] at hsz
        have hsz2 : (mk sg).toList = [] ↔ False := by rw [mk_toList]; simp [hb]
        have HE : Hid (Done W G o cur m ((W.setCell ⟨G, o + 6, none⟩ (.string (mk sg))).setCell ⟨G, o + 9, none⟩ (.int .i64 mtime))) := by rw [hat]; exact ((HD.out.set 6 (by omega) (.string (mk sg)) (m := { n with gi := sg }) rfl).set 9 (by omega) (.int .i64 mtime) (m := { n with gi := sg, mt := mtime }) rfl)
        clear hat HD ha hb hc
        go_enter Try.func93, Try.ntmps93
        go_wp2_with (go_at_call 34; refine (hN.out _).mono ?_; rintro e w' ⟨rfl, rfl⟩)
        go_end0
        exact ⟨rfl, HE.out⟩
  · by_cases hb : sg = []
    · by_cases hc : mtime = -1
      · rw [if_neg ha, if_pos hb, if_pos hc] at hat
        have ha2 : (mode != -1) = true := by simpa using ha
        have hc2 : (mtime != -1) = false := by simpa using hc
        rw [decide_eq_true hb] at hsz
        have hsz2 : (mk sg).toList = [] ↔ True := by rw [mk_toList]; simp [hb]
        have HE : Hid (Done W G o cur m (W.setCell ⟨G, o + 4, none⟩ (.int .i64 mode))) := by rw [hat]; exact (HD.out.set 4 (by omega) (.int .i64 mode) (m := { n with mo := mode }) rfl)
        clear hat HD ha hb hc
        go_enter Try.func93, Try.ntmps93
        go_wp2_with (go_at_call 34; refine (hN.out _).mono ?_; rintro e w' ⟨rfl, rfl⟩)
        go_end0
        exact ⟨rfl, HE.out⟩
      · rw [if_neg ha, if_pos hb, if_neg hc] at hat
        have ha2 : (mode != -1) = true := by simpa using ha
        have hc2 : (mtime != -1) = true := by simpa using hc
        rw [decide_eq_true hb] at hsz
        have hsz2 : (mk sg).toList = [] ↔ True := by rw [mk_toList]; simp [hb]
        have HE : Hid (Done W G o cur m ((W.setCell ⟨G, o + 4, none⟩ (.int .i64 mode)).setCell ⟨G, o + 9, none⟩ (.int .i64 mtime))) := by rw [hat]; exact ((HD.out.set 4 (by omega) (.int .i64 mode) (m := { n with mo := mode }) rfl).set 9 (by omega) (.int .i64 mtime) (m := { n with mo := mode, mt := mtime }) rfl)
        clear hat HD ha hb hc
        go_enter Try.func93, Try.ntmps93
        go_wp2_with (go_at_call 34; refine (hN.out _).mono ?_; rintro e w' ⟨rfl, rfl⟩)
        go_end0
        exact ⟨rfl, HE.out⟩
    · by_cases hc : mtime = -1
      · rw [if_neg ha, if_neg hb, if_pos hc] at hat
        have ha2 : (mode != -1) = true := by simpa using ha
        have hc2 : (mtime != -1) = false := by simpa using hc
        rw [decide_eq_false hb] at hsz
        have hsz2 : (mk sg).toList = [] ↔ False := by rw [mk_toList]; simp [hb]
        have HE : Hid (Done W G o cur m ((W.setCell ⟨G, o + 4, none⟩ (.int .i64 mode)).setCell ⟨G, o + 6, none⟩ (.string (mk sg)))) := by rw [hat]; exact ((HD.out.set 4 (by omega) (.int .i64 mode) (m := { n with mo := mode }) rfl).set 6 (by omega) (.string (mk sg)) (m := { n with mo := mode, gi := sg }) rfl)
        clear hat HD ha hb hc
        go_enter Try.func93, Try.ntmps93
        go_wp2_with (go_at_call 34; refine (hN.out _).mono ?_; rintro e w' ⟨rfl, rfl⟩)
        go_end0
        exact ⟨rfl, HE.out⟩
      · rw [if_neg ha, if_neg hb, if_neg hc] at hat
        have ha2 : (mode != -1) = true := by simpa using ha
        have hc2 : (mtime != -1) = true := by simpa using hc
        rw [decide_eq_false hb] at hsz
        have hsz2 : (mk sg).toList = [] ↔ False := by rw [mk_toList]; simp [hb]
        have HE : Hid (Done W G o cur m (((W.setCell ⟨G, o + 4, none⟩ (.int .i64 mode)).setCell ⟨G, o + 6, none⟩ (.string (mk sg))).setCell ⟨G, o + 9, none⟩ (.int .i64 mtime))) := by rw [hat]; exact (((HD.out.set 4 (by omega) (.int .i64 mode) (m := { n with mo := mode }) rfl).set 6 (by omega) (.string (mk sg)) (m := { n with mo := mode, gi := sg }) rfl).set 9 (by omega) (.int .i64 mtime) (m := { n with mo := mode, gi := sg, mt := mtime }) rfl)
        clear hat HD ha hb hc
        go_enter Try.func93, Try.ntmps93
        go_wp2_with (go_at_call 34; refine (hN.out _).mono ?_; rintro e w' ⟨rfl, rfl⟩)
        go_end0
        exact ⟨rfl, HE.out⟩

set_option maxRecDepth 100000 in
set_option maxHeartbeats 1600000 in
theorem Remove1_any (n : ND) (d : Int) (bi : Nat) (w : World) (hi : BlkI w bi d) :
    Calls Try.prog 88 #[nodeV n, .pointer (some ⟨bi, 0, none⟩)] w fun e w' => e = .returned (.bool (kidB n d)) ∧ Below w.heap.size w w' := by
  have hB0 : Below w.heap.size w (w.alloc (.cells (cellsA n) 31)) := (Below.refl _ w).alloc (Nat.le_refl _) _
  have hK0 := BlkN.new w n
  obtain ⟨c2, b2⟩ := hi.below hB0
  have hK := Lib.hid (fun W => isChild_any n d W)
  generalize kidB n d = res at *
  generalize hW : w.alloc (.cells (cellsA n) 31) = W at *
  replace hW := Lib.hid hW
  have HB0 := Lib.hid hB0
  have HK0 := Lib.hid hK0
  unfold nodeV at hK ⊢
  clear hi hB0 hK0 b2
  go_enter Try.func88, Try.ntmps88
  go_wp2_with (first
    | (refine wpList_load_row rfl 31 _ rfl w.heap.size rfl 31 (cellsA n) (0, 0) _ HK0.out Try.underlying31 rfl (by kernel_rfl) ?_)
    | (go_at_call 52; refine (hK.out _).mono ?_; rintro e w' ⟨rfl, hB1⟩; have HB1 := Lib.hid (HB0.out.trans (hB1.mono HB0.out.size)); clear hB1)
    | simp only [hW.out])
  go_ret
  exact ⟨rfl, HB1.out⟩
set_option maxRecDepth 100000 in
set_option maxHeartbeats 1600000 in
theorem Remove2_any (n : ND) (d : Int) (bi : Nat) (w : World) (hi : BlkI w bi d) :
    Calls Try.prog 90 #[nodeV n, .pointer (some ⟨bi, 0, none⟩)] w fun e w' => e = .returned (.bool (n.id == d)) ∧ Below w.heap.size w w' := by
  have hB0 : Below w.heap.size w (w.alloc (.cells (cellsA n) 31)) := (Below.refl _ w).alloc (Nat.le_refl _) _
  have hK0 := BlkN.new w n
  obtain ⟨c2, b2⟩ := hi.below hB0
  have c0 := hK0.cell 0
  rw [show (cellsN n)[0]? = some (.int .i64 n.id) from rfl] at c0
  generalize hW : w.alloc (.cells (cellsA n) 31) = W at *
  replace hW := Lib.hid hW
  have HB0 := Lib.hid hB0
  unfold nodeV
  clear hi hB0 hK0 b2
  go_enter Try.func90, Try.ntmps90
  go_wp2_with (simp only [hW.out])
  go_ret
  exact ⟨rfl, HB0.out⟩

/-- changeBy hands out the change by a user at a time. -/
def GivesF (F : ND → ND) (w : World) (e : Ending) (w' : World) : Prop := ∃ g lb, e = .returned (.func (.func g) #[] lb) ∧ (∀ args w, (callFunc g args).run Try.prog w = .ok (.enter g args) w) ∧ Edits g lb F w' ∧ Below w.heap.size w w'
set_option maxRecDepth 100000 in
set_option maxHeartbeats 1600000 in
theorem changeBy_any (uid : List UInt8) (now : Int) (w : World) :
    Calls Try.prog 71 #[.string (mk uid), .int .i64 now] w fun e w' => GivesF (touchN uid now) w e w' := by
  have eg : ∀ args w, (callFunc 100 args).run Try.prog w = .ok (.enter 100 args) w := enters_of Try.func100 (by kernel_rfl) rfl
  obtain ⟨W, hW, hB, hs, hi⟩ : ∃ W, (w.alloc (.cells #[.string (mk uid)] 9)).alloc (.cells #[.int .i64 now] 3) = W ∧ Below w.heap.size w W ∧ BlkS W w.heap.size uid ∧ BlkI W (w.heap.size + 1) now := by
    refine ⟨_, rfl, ((Below.refl _ w).alloc (Nat.le_refl _) _).alloc (by simp) _, ?_, ?_⟩
    · have h : BlkS (w.alloc (.cells #[.string (mk uid)] 9)) w.heap.size uid := ⟨Joins.cell_of_block (heap_alloc_new w _) 0, by simp⟩
      exact h.below ((Below.refl _ _).alloc (Nat.le_refl _) _)
    · have h := heap_alloc_new (w.alloc (.cells #[.string (mk uid)] 9)) (.cells #[.int .i64 now] 3)
      rw [show (w.alloc (.cells #[.string (mk uid)] 9)).heap.size = w.heap.size + 1 by simp] at h
      exact ⟨Joins.cell_of_block h 0, by simp⟩
  have hE := Lib.hid (changeBy1_any uid now _ _ W hi hs)
  replace hW := Lib.hid hW
  have HB := Lib.hid hB
  have EG := Lib.hid eg
  clear hB hs hi eg
  go_enter Try.func71, Try.ntmps71
  go_wp2_with (simp only [hW.out])
  go_ret
  exact ⟨_, _, rfl, EG.out, hE.out, HB.out⟩
end Go.Proofs.Ytalhkoolpnmcdaa
