/-
  Walks: closures that change a node behind a pointer.
-/
import Derived.Test.YtalhkoolpnmcdaaAo
namespace Go.Proofs.Ytalhkoolpnmcdaa
open Go.RowKit

/-- Block G holds cur; from offset o on lies the node n. -/
structure Slot (w : World) (G o : Nat) (cur : Array Value) (n : ND) : Prop where
  blk : w.heap[G]? = some (.cells cur 31 (0, 0))
  fit : o + 11 ≤ cur.size
  at_ : ∀ j v, (cellsN n)[j]? = some v → cur[o + j]? = some v
/-- Only the eleven cells from o on have turned. -/
def Turned (cur cur' : Array Value) (o : Nat) : Prop := cur'.size = cur.size ∧ ∀ j, (j < o ∨ o + 11 ≤ j) → cur'[j]? = cur[j]?
theorem Turned.refl (cur : Array Value) (o : Nat) : Turned cur cur o := ⟨rfl, fun _ _ => rfl⟩
theorem Turned.trans {a b c : Array Value} {o : Nat} (h : Turned a b o) (k : Turned b c o) : Turned a c o := ⟨k.1.trans h.1, fun j hj => (k.2 j hj).trans (h.2 j hj)⟩
theorem Slot.cell {w : World} {G o : Nat} {cur : Array Value} {n : ND} (h : Slot w G o cur n) : ∀ j v, (cellsN n)[j]? = some v → w.cell? ⟨G, o + j, none⟩ = some v := fun j v hv => by
  rw [Joins.cell_of_block h.blk]; exact h.at_ j v hv
theorem Slot.frozen {w : World} {G o : Nat} {cur : Array Value} {n : ND} (h : Slot w G o cur n) (i : Nat) : w.frozen? ⟨G, i, none⟩ = false := by
  have := h.blk
  simp [World.frozen?, this]
theorem only_set {a w : World} {g : Nat} (h : a.grownBy w (some g)) (i : Nat) (u : Value) : a.grownBy (w.setCell ⟨g, i, none⟩ u) (some g) :=
  ⟨h.os, h.tape, h.output, by simpa [World.setCell] using h.size, fun k hk hne => (Below.heap_setCell w ⟨g, i, none⟩ u k (by rintro rfl; exact hne rfl)).trans (h.block k hk hne)⟩
/-- What a change of the node comes to. -/
def Done (W : World) (G o : Nat) (cur : Array Value) (m : ND) (w' : World) : Prop := ∃ cur', Slot w' G o cur' m ∧ Turned cur cur' o ∧ W.grownBy w' (some G)
theorem Slot.done {w : World} {G o : Nat} {cur : Array Value} {n : ND} (h : Slot w G o cur n) : Done w G o cur n w := ⟨cur, h, Turned.refl _ _, World.grownBy.refl w _⟩
theorem Done.set {W w' : World} {G o : Nat} {cur : Array Value} {n m : ND} (h : Done W G o cur n w') (k : Nat) (hk : k < 11) (u : Value) (hm : cellsN m = (cellsN n).set k u) : Done W G o cur m (w'.setCell ⟨G, o + k, none⟩ u) := by
  obtain ⟨cur', hs, ht, hg⟩ := h
  refine ⟨cur'.setIfInBounds (o + k) u, ⟨heap_setCell_same w' G (o + k) cur' _ u hs.blk, by simpa using hs.fit, fun j v hv => ?_⟩, ⟨by simpa using ht.1, fun j hj => ?_⟩, only_set hg _ _⟩
  · rw [hm] at hv
    have hf := hs.fit
    rw [Array.getElem?_setIfInBounds]
    by_cases e : k = j
    · subst e
      rw [if_pos rfl, if_pos (by omega)]
      rw [List.getElem?_set_self (by rw [cellsN_len]; exact hk)] at hv
      exact hv
    · rw [if_neg (by omega)]
      rw [List.getElem?_set_ne e] at hv
      exact hs.at_ j v hv
  · rw [Array.getElem?_setIfInBounds, if_neg (by omega)]
    exact ht.2 j hj
theorem Done.then {W w1 w2 : World} {G o : Nat} {cur : Array Value} {n m : ND} (h : Done W G o cur n w1) (k : ∀ cur1, Slot w1 G o cur1 n → Done w1 G o cur1 m w2) : Done W G o cur m w2 := by
  obtain ⟨cur1, hs, ht, hg⟩ := h
  obtain ⟨cur2, hs2, ht2, hg2⟩ := k cur1 hs
  exact ⟨cur2, hs2, ht.trans ht2, hg.trans hg2⟩

/-- What is asked of a function value that changes a node: function g, bound to the addresses lb; in every later world it makes n to F n; it may lay blocks. -/
def Edits (g : Nat) (lb : Array Value) (F : ND → ND) (w : World) : Prop :=
  ∀ (W : World) (G o : Nat) (cur : Array Value) (n : ND), Below w.heap.size w W → w.heap.size ≤ G → Slot W G o cur n → 0 ≤ n.ve → n.ve ≤ 2147483647 →
    Calls Try.prog g (#[.pointer (some ⟨G, o, none⟩)] ++ lb) W fun e w' => e = .returned (.tuple #[]) ∧ Done W G o cur (F n) w'
theorem Edits.later {g : Nat} {lb : Array Value} {F : ND → ND} {w w' : World} (h : Edits g lb F w) (hB : Below w.heap.size w w') : Edits g lb F w' :=
  fun W G o cur n hW hG => h W G o cur n (hB.trans (hW.mono hB.size)) (Nat.le_trans hB.size hG)

set_option maxRecDepth 100000 in
set_option maxHeartbeats 3200000 in
theorem changeBy1_any (uid : List UInt8) (now : Int) (bi bs : Nat) (w : World) (hi : BlkI w bi now) (hs : BlkS w bs uid) : Edits 100 #[.pointer (some ⟨bi, 0, none⟩), .pointer (some ⟨bs, 0, none⟩)] (touchN uid now) w := by
  intro W G o cur n hB hG hS h0 h1
  obtain ⟨ci, li⟩ := hi.below hB
  obtain ⟨cs, ls⟩ := hs.below hB
  have ni : bi ≠ G := by have := hi.2; omega
  have ns : bs ≠ G := by have := hs.2; omega
  have ni' : G ≠ bi := fun e => ni e.symm
  have ns' : G ≠ bs := fun e => ns e.symm
  have hc := hS.cell
  have c2 := hc 2 _ rfl
  have c7 := hc 7 _ rfl
  have c9 := hc 9 _ rfl
  have f2 := hS.frozen (o + 2)
  have f7 := hS.frozen (o + 7)
  have f9 := hS.frozen (o + 9)
  have hT := Lib.hid (fun W => timeOf_any now W)
  have hN := Lib.hid (fun W => nameOf_any uid W)
  have HD := Lib.hid hS.done
  have HN := Lib.hid (show ∀ ve, cellsN { n with ve := ve } = (cellsN n).set 2 (.int .i64 ve) from fun _ => rfl)
  have hvi : verI n.ve = if 2147483647 < n.ve + 1 then 0 else n.ve + 1 := rfl
  show Calls Try.prog _ #[.pointer (some ⟨G, o, none⟩), .pointer (some ⟨bi, 0, none⟩), .pointer (some ⟨bs, 0, none⟩)] W _
  clear hc hS hi hs hB ls li
  by_cases hv : 2147483647 < n.ve + 1
  · rw [if_pos hv] at hvi
    have HE : Hid (Done W G o cur (touchN uid now n) ((((W.setCell ⟨G, o + 2, none⟩ (.int .i64 (n.ve + 1))).setCell ⟨G, o + 2, none⟩ (.int .i64 0)).setCell ⟨G, o + 9, none⟩ (.int .i64 (timeI now))).setCell ⟨G, o + 7, none⟩ (.string (mk (shortL uid))))) :=
      (((HD.out.set 2 (by omega) (.int .i64 (n.ve + 1)) (m := { n with ve := n.ve + 1 }) rfl).set 2 (by omega) (.int .i64 0) (m := { n with ve := 0 }) rfl).set 9 (by omega) _ (m := { n with ve := 0, mt := timeI now }) rfl).set 7 (by omega) _ (by unfold touchN; rw [hvi]; rfl)
    clear hvi HD HN
    go_enter Try.func100, Try.ntmps100
    go_wp2_with (first
      | (go_at_call 35; refine (hT.out _).mono ?_; rintro e w' ⟨rfl, rfl⟩)
      | (go_at_call 34; refine (hN.out _).mono ?_; rintro e w' ⟨rfl, rfl⟩))
    go_end0
    exact ⟨rfl, HE.out⟩
  · rw [if_neg hv] at hvi
    have HE : Hid (Done W G o cur (touchN uid now n) (((W.setCell ⟨G, o + 2, none⟩ (.int .i64 (n.ve + 1))).setCell ⟨G, o + 9, none⟩ (.int .i64 (timeI now))).setCell ⟨G, o + 7, none⟩ (.string (mk (shortL uid))))) :=
      ((HD.out.set 2 (by omega) (.int .i64 (n.ve + 1)) (m := { n with ve := n.ve + 1 }) rfl).set 9 (by omega) _ (m := { n with ve := n.ve + 1, mt := timeI now }) rfl).set 7 (by omega) _ (by unfold touchN; rw [hvi]; rfl)
    clear hvi HD HN
    go_enter Try.func100, Try.ntmps100
    go_wp2_with (first
      | (go_at_call 35; refine (hT.out _).mono ?_; rintro e w' ⟨rfl, rfl⟩)
      | (go_at_call 34; refine (hN.out _).mono ?_; rintro e w' ⟨rfl, rfl⟩))
    go_end0
    exact ⟨rfl, HE.out⟩
end Go.Proofs.Ytalhkoolpnmcdaa
