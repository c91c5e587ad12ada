/-
  The reference's field, as a whole; its table of fields.
  The reference's Put and Size.
-/
import Derived.Test.YtlfdmbfbfadifaaGreatDoorYz
namespace Go.Proofs.YtlfdmbfbfadifaaGreatDoor
open Go.RowKit

set_option maxHeartbeats 4000000 in
set_option maxRecDepth 100000 in
theorem Rd_8 (s s1 : List UInt8) (m : MM) (w : World) (hL : ∀ W, Below w.heap.size w W → Calls Tryz.prog 49 #[outV s, msgV m, .int .i64 12] W fun e w' => e = .returned (outV s1) ∧ Below W.heap.size W w') :
    Calls Tryz.prog 24 #[outV s, msgV m, .int .i64 12] w fun e w' => e = .returned (outV s1) ∧ Below w.heap.size w w' := by
  have H0 := Lib.hid (LSt.new w s m)
  have HL := Lib.hid (hL _ H0.out.1)
  have HX := Lib.hid (H0.out.2.2.1)
  unfold BlkM at HX
  clear hL
  unfold outV msgV at *
  generalize hca : cellsB m = ca at *
  have HC := Lib.hid hca
  clear hca
  go_enter Tryz.func24, Tryz.ntmps24
  go_wp2_with (refine wpList_load_row rfl 30 _ rfl (w.heap.size + 1) rfl 30 ca (0, 0) _ HX.out Tryz.underlying30 rfl (by rw [← HC.out]; kernel_rfl) ?_)
  refine HL.out.mono ?_
  rintro e W1 ⟨rfl, hB⟩
  have H1 := Lib.hid (H0.out.go hB)
  obtain ⟨r0, r1, r2, r3⟩ := H1.out.r
  clear hB
  go_wp2
  exact bodyPost_ret (results_cell_row rfl _ _ (w.heap.size + 1 + 1) 56 #[.string (mk s1), .int .i64 0] (0, 0) _ rfl (set2 H1.out.2.2.2) Tryz.underlying56 rfl (by kernel_rfl)) rfl ⟨rfl, H1.out.ret _⟩

set_option maxHeartbeats 4000000 in
set_option maxRecDepth 100000 in
theorem Rd_9 (s s1 : List UInt8) (m : MM) (w : World) (hL : ∀ W, Below w.heap.size w W → Calls Tryz.prog 49 #[outV s, msgV m, .int .i64 13] W fun e w' => e = .returned (outV s1) ∧ Below W.heap.size W w') :
    Calls Tryz.prog 24 #[outV s, msgV m, .int .i64 13] w fun e w' => e = .returned (outV s1) ∧ Below w.heap.size w w' := by
  have H0 := Lib.hid (LSt.new w s m)
  have HL := Lib.hid (hL _ H0.out.1)
  have HX := Lib.hid (H0.out.2.2.1)
  unfold BlkM at HX
  clear hL
  unfold outV msgV at *
  generalize hca : cellsB m = ca at *
  have HC := Lib.hid hca
  clear hca
  go_enter Tryz.func24, Tryz.ntmps24
  go_wp2_with (refine wpList_load_row rfl 30 _ rfl (w.heap.size + 1) rfl 30 ca (0, 0) _ HX.out Tryz.underlying30 rfl (by rw [← HC.out]; kernel_rfl) ?_)
  refine HL.out.mono ?_
  rintro e W1 ⟨rfl, hB⟩
  have H1 := Lib.hid (H0.out.go hB)
  obtain ⟨r0, r1, r2, r3⟩ := H1.out.r
  clear hB
  go_wp2
  exact bodyPost_ret (results_cell_row rfl _ _ (w.heap.size + 1 + 1) 56 #[.string (mk s1), .int .i64 0] (0, 0) _ rfl (set2 H1.out.2.2.2) Tryz.underlying56 rfl (by kernel_rfl)) rfl ⟨rfl, H1.out.ret _⟩

set_option maxHeartbeats 4000000 in
set_option maxRecDepth 100000 in
theorem Rd_17 (s s1 : List UInt8) (m : MM) (w : World) (hL : ∀ W, Below w.heap.size w W → Calls Tryz.prog 49 #[outV s, msgV m, .int .i64 20] W fun e w' => e = .returned (outV s1) ∧ Below W.heap.size W w') :
    Calls Tryz.prog 24 #[outV s, msgV m, .int .i64 20] w fun e w' => e = .returned (outV s1) ∧ Below w.heap.size w w' := by
  have H0 := Lib.hid (LSt.new w s m)
  have HL := Lib.hid (hL _ H0.out.1)
  have HX := Lib.hid (H0.out.2.2.1)
  unfold BlkM at HX
  clear hL
  unfold outV msgV at *
  generalize hca : cellsB m = ca at *
  have HC := Lib.hid hca
  clear hca
  go_enter Tryz.func24, Tryz.ntmps24
  go_wp2_with (refine wpList_load_row rfl 30 _ rfl (w.heap.size + 1) rfl 30 ca (0, 0) _ HX.out Tryz.underlying30 rfl (by rw [← HC.out]; kernel_rfl) ?_)
  refine HL.out.mono ?_
  rintro e W1 ⟨rfl, hB⟩
  have H1 := Lib.hid (H0.out.go hB)
  obtain ⟨r0, r1, r2, r3⟩ := H1.out.r
  clear hB
  go_wp2
  exact bodyPost_ret (results_cell_row rfl _ _ (w.heap.size + 1 + 1) 56 #[.string (mk s1), .int .i64 0] (0, 0) _ rfl (set2 H1.out.2.2.2) Tryz.underlying56 rfl (by kernel_rfl)) rfl ⟨rfl, H1.out.ret _⟩

set_option maxHeartbeats 4000000 in
set_option maxRecDepth 100000 in
theorem Rd_18 (s s1 : List UInt8) (m : MM) (w : World) (hL : ∀ W, Below w.heap.size w W → Calls Tryz.prog 49 #[outV s, msgV m, .int .i64 21] W fun e w' => e = .returned (outV s1) ∧ Below W.heap.size W w') :
    Calls Tryz.prog 24 #[outV s, msgV m, .int .i64 21] w fun e w' => e = .returned (outV s1) ∧ Below w.heap.size w w' := by
  have H0 := Lib.hid (LSt.new w s m)
  have HL := Lib.hid (hL _ H0.out.1)
  have HX := Lib.hid (H0.out.2.2.1)
  unfold BlkM at HX
  clear hL
  unfold outV msgV at *
  generalize hca : cellsB m = ca at *
  have HC := Lib.hid hca
  clear hca
  go_enter Tryz.func24, Tryz.ntmps24
  go_wp2_with (refine wpList_load_row rfl 30 _ rfl (w.heap.size + 1) rfl 30 ca (0, 0) _ HX.out Tryz.underlying30 rfl (by rw [← HC.out]; kernel_rfl) ?_)
  refine HL.out.mono ?_
  rintro e W1 ⟨rfl, hB⟩
  have H1 := Lib.hid (H0.out.go hB)
  obtain ⟨r0, r1, r2, r3⟩ := H1.out.r
  clear hB
  go_wp2
  exact bodyPost_ret (results_cell_row rfl _ _ (w.heap.size + 1 + 1) 56 #[.string (mk s1), .int .i64 0] (0, 0) _ rfl (set2 H1.out.2.2.2) Tryz.underlying56 rfl (by kernel_rfl)) rfl ⟨rfl, H1.out.ret _⟩

/-- The reference's numbers of the fields. -/
def refF : Nat → Nat
  | 0 => 8  | 1 => 11  | 2 => 4  | 3 => 10  | 4 => 1  | 5 => 2  | 6 => 5  | 7 => 6
  | 8 => 12  | 9 => 13  | 10 => 7  | 11 => 15  | 12 => 14  | 13 => 17  | 14 => 16  | 15 => 18
  | 16 => 19  | 17 => 20  | 18 => 21  | 19 => 9  | 20 => 22  | 21 => 23
  | _ => 3
theorem Rfield (s : List UInt8) (m : MM) (f : Nat) (w : World) (hm : inM m) (hr : RowM w m) (hf : f < 23) (hfit : Fit m f) (hs : (mk s).size ≤ 700000) :
    Calls Tryz.prog 24 #[outV s, msgV m, .int .i64 (refF f : Int)] w fun e w' => e = .returned (outV (s ++ encF m f)) ∧ Below w.heap.size w w' := by
  rcases k23 hf with rfl | rfl | rfl | rfl | rfl | rfl | rfl | rfl | rfl | rfl | rfl | rfl | rfl | rfl | rfl | rfl | rfl | rfl | rfl | rfl | rfl | rfl | rfl
  · exact Rf_0 s m w hfit hs
  · exact Rf_1 s m w hfit hs
  · exact Rf_2 s m w hfit hs
  · exact Rf_3 s m w hfit hs
  · exact Rf_4 s m w hfit hs
  · exact Rf_5 s m w hfit hs
  · exact Rf_6 s m w hfit hs
  · exact Rf_7 s m w hfit hs
  · exact Rd_8 s _ m w (fun W hB => Rl_8 s m W (hr.below hB) hfit hs)
  · exact Rd_9 s _ m w (fun W hB => Rl_9 s m W (hr.below hB) hfit hs)
  · exact Rf_10 s m w hfit hs
  · exact Rf_11 s m w hfit hs
  · exact Rf_12 s m w hfit hs
  · exact Rf_13 s m w hfit hs
  · exact Rf_14 s m w hfit hs
  · exact Rf_15 s m w hfit hs
  · exact Rf_16 s m w hfit hs
  · exact Rd_17 s _ m w (fun W _ => Rl_17 s m W (by rw [mk_len]; exact hfit) hs)
  · exact Rd_18 s _ m w (fun W _ => Rl_18 s m W hm.2.1 hm.2.2.1 hfit hs)
  · exact Rf_19 s m w hfit hs
  · exact Rf_20 s m w hfit hs
  · exact Rf_21 s m w hfit hs
  · exact Rf_22 s m w hfit hs

/-! ### The table of fields -/
/-- The slice v holds the numbers L, in a block of its own. -/
def IBlk (w : World) (v : Value) (L : List Nat) : Prop :=
  ∃ p, v = .slice p L.length L.length ∧ L.length ≤ 4 ∧ (L ≠ [] → ∃ b, p = some ⟨b, 0, none⟩ ∧ b < w.heap.size ∧ w.heap[b]? = some (.cells (L.map intV).toArray 3 (0, 0)))
theorem IBlk.new (w : World) (L : List Nat) (hl : L.length ≤ 4) (n : Nat) (hn : n = L.length) : IBlk (w.alloc (.cells (L.map intV).toArray 3)) (.slice (some ⟨w.heap.size, 0, none⟩) n n) L := by
  subst hn
  exact ⟨_, rfl, hl, fun _ => ⟨_, rfl, by simp, heap_alloc_new w _⟩⟩
theorem IBlk.nil_ (w : World) : IBlk w (.slice none 0 0) [] := ⟨none, rfl, Nat.zero_le _, fun h => absurd rfl h⟩
theorem IBlk.below {w w' : World} {v : Value} {L : List Nat} (h : IBlk w v L) (hB : Below w.heap.size w w') : IBlk w' v L := by
  obtain ⟨p, rfl, hl, h⟩ := h
  refine ⟨p, rfl, hl, fun hL => ?_⟩
  obtain ⟨b, rfl, hb, hh⟩ := h hL
  exact ⟨b, rfl, Nat.lt_of_lt_of_le hb hB.size, (hB.block b hb).trans hh⟩
theorem IBlk.at_ {w : World} {v : Value} {L : List Nat} (h : IBlk w v L) {k : Nat} (hk : k < L.length) :
    ∃ b, v = .slice (some ⟨b, 0, none⟩) L.length L.length ∧ b < w.heap.size ∧ w.heap[b]? = some (.cells (L.map intV).toArray 3 (0, 0)) ∧ w.cell? ⟨b, k, none⟩ = some (.int .i64 (L.getD k 0 : Int)) := by
  obtain ⟨p, rfl, hl, h⟩ := h
  obtain ⟨b, rfl, hb, hh⟩ := h (by rintro rfl; simp at hk)
  refine ⟨b, rfl, hb, hh, ?_⟩
  rw [Joins.cell_of_block hh k]
  simp [hk, intV, List.getD]
set_option maxRecDepth 100000 in
set_option maxHeartbeats 12800000 in
theorem RFields_kind (k : Int) (hk : kindB k = true) (w : World) :
    Calls Tryz.prog 22 #[.int .i64 k] w fun e w' => ∃ v, e = .returned (.tuple #[v, .bool true]) ∧ IBlk w' v ((fieldsL k).map refF) ∧ Below w.heap.size w w' := by
  rcases kinds hk with rfl | rfl | rfl | rfl | rfl | rfl | rfl | rfl | rfl | rfl | rfl | rfl | rfl | rfl | rfl | rfl | rfl | rfl | rfl | rfl | rfl | rfl | rfl | rfl | rfl | rfl | rfl | rfl | rfl | rfl | rfl
  all_goals clear hk
  all_goals have hB := Lib.hid (fun o => (Below.refl _ w).alloc (Nat.le_refl _) o)
  all_goals have hF := Lib.hid (fun L hl n hn => IBlk.new w L hl n hn)
  all_goals
    go_enter Tryz.func22, Tryz.ntmps22
    go_wp2
    go_ret2
    first
      | exact ⟨_, rfl, IBlk.nil_ _, Below.refl _ _⟩
      | exact ⟨_, rfl, hF.out ((fieldsN _).map refF) (by decide) _ rfl, hB.out _⟩
set_option maxRecDepth 100000 in
set_option maxHeartbeats 12800000 in
theorem RFields_none (k : Int) (hk : kindB k = false) (w : World) :
    Calls Tryz.prog 22 #[.int .i64 k] w fun e w' => ∃ v, e = .returned (.tuple #[v, .bool false]) ∧ IBlk w' v [] ∧ Below w.heap.size w w' := by
  have hne : ∀ c : Int, kindB c = true → (k == c) = false := fun c hc => by
    rw [beq_eq_false_iff_ne]; rintro rfl; rw [hk] at hc; cases hc
  have q100 := hne 100 (by decide)
  have q101 := hne 101 (by decide)
  have q102 := hne 102 (by decide)
  have q103 := hne 103 (by decide)
  have q104 := hne 104 (by decide)
  have q105 := hne 105 (by decide)
  have q107 := hne 107 (by decide)
  have q108 := hne 108 (by decide)
  have q109 := hne 109 (by decide)
  have q110 := hne 110 (by decide)
  have q111 := hne 111 (by decide)
  have q112 := hne 112 (by decide)
  have q113 := hne 113 (by decide)
  have q114 := hne 114 (by decide)
  have q115 := hne 115 (by decide)
  have q116 := hne 116 (by decide)
  have q117 := hne 117 (by decide)
  have q118 := hne 118 (by decide)
  have q119 := hne 119 (by decide)
  have q120 := hne 120 (by decide)
  have q121 := hne 121 (by decide)
  have q122 := hne 122 (by decide)
  have q123 := hne 123 (by decide)
  have q124 := hne 124 (by decide)
  have q125 := hne 125 (by decide)
  have q126 := hne 126 (by decide)
  have q127 := hne 127 (by decide)
  have q128 := hne 128 (by decide)
  have q129 := hne 129 (by decide)
  have q130 := hne 130 (by decide)
  have q131 := hne 131 (by decide)
  clear hne hk
  go_enter Tryz.func22, Tryz.ntmps22
  go_wp2
  go_ret2
  exact ⟨_, rfl, IBlk.nil_ _, Below.refl _ _⟩
theorem RFields9_any (k : Int) (w : World) :
    Calls Tryz.prog 22 #[.int .i64 k] w fun e w' => ∃ v, e = .returned (.tuple #[v, .bool (kindB k)]) ∧ IBlk w' v ((layL k).map refF) ∧ Below w.heap.size w w' := by
  unfold layL
  cases hk : kindB k with
  | true => exact RFields_kind k hk w
  | false => exact RFields_none k hk w
end Go.Proofs.YtlfdmbfbfadifaaGreatDoor

namespace Go.Proofs.YtlfdmbfbfadifaaGreatDoor
open Go.RowKit

theorem IBlk.set {W : World} {v : Value} {L : List Nat} {k : Nat} {cs : Array Value} (h : IBlk W v L) (hk : W.heap[k]? = some (.cells cs 56 (0, 0))) (u1 u2 : Value) : IBlk ((W.setCell ⟨k, 0, none⟩ u1).setCell ⟨k, 1, none⟩ u2) v L := by
  obtain ⟨p, rfl, hl, h⟩ := h
  refine ⟨p, rfl, hl, fun hL => ?_⟩
  obtain ⟨b, rfl, hb, hh⟩ := h hL
  have hne : b ≠ k := by
    rintro rfl
    rw [hh] at hk
    injection hk with hk
    injection hk with h1 h2
    exact absurd h2 (by decide)
  exact ⟨b, rfl, by simpa [World.setCell] using hb, setO hne (setO hne hh)⟩
/-- What is collected lies in the block k, the message in the first block behind w. -/
def PSt (w : World) (k : Nat) (s : List UInt8) (m : MM) (W : World) : Prop :=
  Below w.heap.size w W ∧ w.heap.size < k ∧ W.heap[k]? = some (.cells #[.string (mk s), .int .i64 0] 56 (0, 0)) ∧ BlkM W w.heap.size m
theorem PSt.go {w W W' : World} {k : Nat} {s : List UInt8} {m : MM} (h : PSt w k s m W) (hB : Below W.heap.size W W') : PSt w k s m W' :=
  ⟨h.1.trans (hB.mono h.1.size), h.2.1, (hB.block _ (Array.getElem?_eq_some_iff.1 h.2.2.1).1).trans h.2.2.1, h.2.2.2.below hB h.2.2.2.lt⟩
theorem PSt.drew {w W : World} {k : Nat} {s : List UInt8} {m : MM} (h : PSt w k s m W) : PSt w k s m W.drew := ⟨below_drew h.1, h.2.1, h.2.2.1, h.2.2.2⟩
theorem PSt.set {w W : World} {k : Nat} {s : List UInt8} {m : MM} (h : PSt w k s m W) (t : List UInt8) : PSt w k t m ((W.setCell ⟨k, 0, none⟩ (.string (mk t))).setCell ⟨k, 1, none⟩ (.int .i64 0)) :=
  ⟨(h.1.setCell (p := ⟨k, 0, none⟩) (Nat.le_of_lt h.2.1) _).setCell (p := ⟨k, 1, none⟩) (Nat.le_of_lt h.2.1) _, h.2.1, set2 h.2.2.1, setO (by have := h.2.1; omega) (setO (by have := h.2.1; omega) h.2.2.2)⟩
theorem PSt.o {w W : World} {k : Nat} {s : List UInt8} {m : MM} (h : PSt w k s m W) : W.cell? ⟨k, 0, none⟩ = some (.string (mk s)) ∧ W.cell? ⟨k, 1, none⟩ = some (.int .i64 0) ∧ W.frozen? ⟨k, 0, none⟩ = false ∧ W.frozen? ⟨k, 1, none⟩ = false :=
  ⟨Lib.cell_of_heap h.2.2.1 0, Lib.cell_of_heap h.2.2.1 1, Lib.frozen_of_heap h.2.2.1 0, Lib.frozen_of_heap h.2.2.1 1⟩
theorem PSt.new {w W : World} {m : MM} (h : Below w.heap.size w W) (hk : BlkM W w.heap.size m) (t : List UInt8) : PSt w W.heap.size t m (W.alloc (.cells #[.string (mk t), .int .i64 0] 56)) :=
  ⟨h.alloc h.size _, hk.lt, heap_alloc_new W _, hk.alloc _⟩
/-- Before there is anything to collect in; behind it. -/
def PS0 (w : World) (m : MM) (v : Value) (L : List Nat) (W : World) : Prop := Below w.heap.size w W ∧ BlkM W w.heap.size m ∧ IBlk W v L
def PS1 (w : World) (k : Nat) (s : List UInt8) (m : MM) (v : Value) (L : List Nat) (W : World) : Prop := PSt w k s m W ∧ IBlk W v L
theorem PS0.go {w W W' : World} {m : MM} {v : Value} {L : List Nat} (h : PS0 w m v L W) (hB : Below W.heap.size W W') : PS0 w m v L W' := ⟨h.1.trans (hB.mono h.1.size), h.2.1.below hB h.2.1.lt, h.2.2.below hB⟩
theorem PS0.new {w W : World} {m : MM} {v : Value} {L : List Nat} (h : PS0 w m v L W) (t : List UInt8) : PS1 w W.heap.size t m v L (W.alloc (.cells #[.string (mk t), .int .i64 0] 56)) :=
  ⟨PSt.new h.1 h.2.1 t, h.2.2.below ((Below.refl _ _).alloc (Nat.le_refl _) _)⟩
theorem PS1.go {w W W' : World} {k : Nat} {s : List UInt8} {m : MM} {v : Value} {L : List Nat} (h : PS1 w k s m v L W) (hB : Below W.heap.size W W') : PS1 w k s m v L W' := ⟨h.1.go hB, h.2.below hB⟩
theorem PS1.drew {w W : World} {k : Nat} {s : List UInt8} {m : MM} {v : Value} {L : List Nat} (h : PS1 w k s m v L W) : PS1 w k s m v L W.drew := ⟨h.1.drew, h.2⟩
theorem PS1.set {w W : World} {k : Nat} {s : List UInt8} {m : MM} {v : Value} {L : List Nat} (h : PS1 w k s m v L W) (t : List UInt8) : PS1 w k t m v L ((W.setCell ⟨k, 0, none⟩ (.string (mk t))).setCell ⟨k, 1, none⟩ (.int .i64 0)) :=
  ⟨h.1.set t, h.2.set h.1.2.2.1 _ _⟩
theorem PS0.new0 {w W : World} {m : MM} {v : Value} {L : List Nat} (h : PS0 w m v L W) : PS1 w W.heap.size [] m v L (W.alloc (.cells #[.string ⟨#[]⟩, .int .i64 0] 56)) := h.new []
theorem PS1.o {w W : World} {k : Nat} {s : List UInt8} {m : MM} {v : Value} {L : List Nat} (h : PS1 w k s m v L W) : W.cell? ⟨k, 0, none⟩ = some (.string (mk s)) ∧ W.cell? ⟨k, 1, none⟩ = some (.int .i64 0) ∧ W.frozen? ⟨k, 0, none⟩ = false ∧ W.frozen? ⟨k, 1, none⟩ = false := h.1.o
theorem PS0.blk {w W : World} {m : MM} {v : Value} {L : List Nat} (h : PS0 w m v L W) : BlkM W w.heap.size m := h.2.1
theorem PS1.blk {w W : World} {k : Nat} {s : List UInt8} {m : MM} {v : Value} {L : List Nat} (h : PS1 w k s m v L W) : BlkM W w.heap.size m := h.1.2.2.2
theorem load_row_msg {W : World} {b : Nat} {m : MM} (h : BlkM W b m) : (Instr.loadAt 30 (.pointer (some ⟨b, 0, none⟩))).run Tryz.prog W = .ok (.agg (cellsB m)) W := by
  have := run_loadVar_row (P := Tryz.prog) W b 30 30 (cellsB m) (0, 0) _ h Tryz.underlying30 rfl (by kernel_rfl)
  simp only [Instr.loadAt, Instr.sureAddr, Sem.run_bind, Sem.run_pure, Result.andThen_ok, this]
theorem mapF_getD (L : List Nat) {j : Nat} (h : j < L.length) : (L.map refF).getD j 0 = refF (L.getD j 0) := by simp [List.getD, h]

set_option maxHeartbeats 4000000 in
set_option maxRecDepth 100000 in
theorem RPut_no (m : MM) (hm : inM m) (w : World) (hr : RowM w m) (hck : checkM m ≠ 0) :
    Calls Tryz.prog 9 #[msgV m] w fun e w' => e = .returned (.tuple #[.string (mk (putW m).1), .int .i64 (putW m).2]) ∧ Below w.heap.size w w' := by
  have hB0 : Below w.heap.size w (w.alloc (.cells (cellsB m) 30)) := (Below.refl _ w).alloc (Nat.le_refl _) _
  have HB0 := Lib.hid hB0
  have HK0 := Lib.hid (BlkM.new w m)
  have HC := Lib.hid (RCheckM_any m hm (w.alloc (.cells (cellsB m) 30)) (hr.below hB0))
  have hr := Lib.hid (putW_bad (m := m) hck)
  have hne : (checkM m != 0) = true := by simpa using hck
  clear hB0 hck hm
  unfold msgV at HC ⊢
  generalize checkM m = er at *
  go_enter Tryz.func9, Tryz.ntmps9
  go_wp2_with (refine wpList_load_row rfl 30 _ rfl w.heap.size rfl 30 (cellsB m) (0, 0) _ HK0.out Tryz.underlying30 rfl (by kernel_rfl) ?_)
  refine HC.out.mono ?_
  rintro e w1 ⟨rfl, hB1⟩
  have HB1 := Lib.hid (HB0.out.trans (hB1.mono HB0.out.size))
  clear hB1
  go_wp2
  go_ret2
  rw [hr.out]
  exact ⟨rfl, HB1.out⟩

set_option maxHeartbeats 8000000 in
set_option maxRecDepth 100000 in
theorem RPut_yes (m : MM) (hm : inM m) (w : World) (hr : RowM w m) (hck : checkM m = 0) :
    Calls Tryz.prog 9 #[msgV m] w fun e w' => e = .returned (.tuple #[.string (mk (putW m).1), .int .i64 (putW m).2]) ∧ Below w.heap.size w w' := by
  have hB0 : Below w.heap.size w (w.alloc (.cells (cellsB m) 30)) := (Below.refl _ w).alloc (Nat.le_refl _) _
  have HB0 := Lib.hid hB0
  have HK0 := Lib.hid (BlkM.new w m)
  have HC := Lib.hid (RCheckM_any m hm (w.alloc (.cells (cellsB m) 30)) (hr.below hB0))
  have h2 := Lib.hid (fun h h' => putW_long (m := m) h h')
  have h3 := Lib.hid (fun h h' => putW_ok (m := m) h h')
  clear hB0
  have hl := bodyW_le hck
  have hp := bodyW_pos m
  obtain ⟨hk, ht, -, -⟩ := check_used hck
  obtain ⟨k1, k2⟩ := kind_in hk
  obtain ⟨t1, t2⟩ := tag_in ht
  have L1 := Lib.hid (fun W => RnumI [] m.kd 1 1 W rfl (by omega) ⟨by omega, by omega⟩ ⟨by omega, by omega⟩ (by rw [mk_len]; simp))
  have L2 := Lib.hid (fun W => RnumI ([] ++ le 1 m.kd.toNat) m.tg 2 2 W rfl (by omega) ⟨by omega, by omega⟩ ⟨by omega, by omega⟩ (by rw [mk_len, List.length_append, le_len]; simp))
  have HF := Lib.hid (fun W => RFields_kind m.kd hk W)
  have HZ : Hid ([] ++ le 1 m.kd.toNat ++ le 2 m.tg.toNat = bodyTo m 0) := by rw [bodyTo_zero, List.nil_append]; exact rfl
  have HX : Hid (bodyTo m (fieldsL m.kd).length = bodyW m) := rfl
  have HR := Lib.hid (fun j (hj : j < (fieldsL m.kd).length) W (hB : Below w.heap.size w W) => Rfield (bodyTo m j) m ((fieldsL m.kd).getD j 0) W hm (hr.below hB) (fieldsL_lt hk hj) (fits hck hj) (by have := bodyTo_le hck (Nat.le_of_lt hj); have := (fieldsL_le hk).1; rw [mk_len]; omega))
  have HS := Lib.hid (fun j (hj : j < (fieldsL m.kd).length) => (bodyTo_succ hj).symm)
  replace h2 := Lib.hid (h2.out hck)
  replace h3 := Lib.hid (h3.out hck)
  have hcell : Hid (∀ W, BlkM W w.heap.size m → W.cell? ⟨w.heap.size, 0, none⟩ = some (.int .i64 m.kd) ∧ W.cell? ⟨w.heap.size, 1, none⟩ = some (.int .i64 m.tg)) := fun W h => ⟨h.cell 0, h.cell 1⟩
  have hnil : Hid (mk ([] : List UInt8) = ⟨#[]⟩) := rfl
  rw [hck] at HC
  have hl5 : (fieldsL m.kd).length ≤ 4 := (fieldsL_le hk).1
  clear hck hm hr hk ht k1 k2 t1 t2
  unfold outV msgV at *
  rw [hnil.out] at L1
  generalize ([] : List UInt8) ++ le 1 m.kd.toNat = s1 at *
  generalize s1 ++ le 2 m.tg.toNat = s2 at *
  have HLD : Hid (∀ W, BlkM W w.heap.size m → (Instr.loadAt 30 (.pointer (some ⟨w.heap.size, 0, none⟩))).run Tryz.prog W = .ok (.agg (cellsB m)) W) := fun W h => load_row_msg h
  have HKc : Hid ((w.alloc (.cells (cellsB m) 30)).heap[w.heap.size]? = some (.cells (cellsB m) 30 (0, 0))) := HK0.out
  generalize bodyW m = bd at *
  have hsz : Hid ((Tryz.prog.info? 30).map (·.size) = some (cellsB m).size) := by show _ = _; kernel_rfl
  generalize hca : cellsB m = ca at *
  clear hca
  go_enter Tryz.func9, Tryz.ntmps9
  go_wp2_with (refine wpList_load_row rfl 30 _ rfl w.heap.size rfl 30 ca (0, 0) _ HKc.out Tryz.underlying30 rfl hsz.out ?_)
  refine HC.out.mono ?_
  rintro e w1 ⟨rfl, hB1⟩
  have HB1 := Lib.hid (HB0.out.trans (hB1.mono HB0.out.size))
  have HK1 := Lib.hid (HK0.out.below hB1 HK0.out.lt)
  have c1 := (hcell.out _ HK1.out).1
  clear hB1
  go_wp2_with fail
  refine (HF.out _).mono ?_
  rintro e w2 ⟨v, rfl, hv, hB2⟩
  have hv : IBlk w2 v ((fieldsL m.kd).map refF) := hv
  have HB2 := Lib.hid (HB1.out.trans (hB2.mono HB1.out.size))
  have HK2 := Lib.hid (HK1.out.below hB2 HK1.out.lt)
  have HV := Lib.hid hv
  obtain ⟨p, hvv, hl4, _⟩ := id hv
  subst hvv
  clear hB2 hv c1
  go_wp2
  have H00 : Hid (PS0 w m (.slice p (fieldsL m.kd).length (fieldsL m.kd).length) ((fieldsL m.kd).map refF) w2) := by
    refine ⟨HB2.out, HK2.out, ?_⟩
    have := HV.out
    rw [List.length_map] at this
    exact this
  have H0 : Hid (PS0 w m (.slice p (fieldsL m.kd).length (fieldsL m.kd).length) ((fieldsL m.kd).map refF) w2.drew) := ⟨below_drew H00.out.1, H00.out.2.1.drew, H00.out.2.2⟩
  have hS : Hid (∀ W, BlkM W w.heap.size m → W.cell? ⟨w.heap.size, 0, none⟩ = some (.int .i64 m.kd) ∧ W.cell? ⟨w.heap.size, 1, none⟩ = some (.int .i64 m.tg)) := hcell
  go_cut [7] from 22 to 28 (fun vk wx => ∃ k, vk = .pointer (some ⟨k, 0, none⟩) ∧ Hid (PS1 w k (bodyTo m 0) m (.slice p (fieldsL m.kd).length (fieldsL m.kd).length) ((fieldsL m.kd).map refF) wx))
  case first =>
    go_region_held3 (fun W => W.cell? ⟨w.heap.size, 0, none⟩ = some (.int .i64 m.kd) ∧ W.cell? ⟨w.heap.size, 1, none⟩ = some (.int .i64 m.tg)) (first | exact hS.out _ (PS0.blk H0.out) | exact hS.out _ (BlkM.drew (BlkM.alloc (PS0.blk H00.out) _)) | exact hS.out _ (BlkM.alloc (PS0.blk H0.out) _) | exact hS.out _ (PS0.blk H1.out) | exact hS.out _ (PS1.blk H1.out) | exact hS.out _ (BlkM.alloc (PS0.blk H1.out) _) | exact hS.out _ (PS0.blk H2.out) | exact hS.out _ (PS1.blk H2.out) | exact hS.out _ (BlkM.alloc (PS0.blk H2.out) _) | exact hS.out _ (PS1.blk (PS1.set H2.out _)) | exact hS.out _ (PS1.blk (PS1.set (PS0.new0 H2.out) _))) (first | (go_at_call 23; with_reducible refine (L1.out _).mono ?_; rintro e W1 ⟨rfl, hB⟩; have H1 := Lib.hid (PS0.go H0.out hB); clear hB) | (go_at_call 23; with_reducible refine (L1.out _).mono ?_; rintro e W1 ⟨rfl, hB⟩; have H1 := Lib.hid (PS1.go (PS1.drew (PS0.new0 H00.out)) hB); clear hB) | (go_at_call 23; with_reducible refine (L2.out _).mono ?_; rintro e W2 ⟨rfl, hB⟩; have H2 := Lib.hid (PS0.go H1.out hB); clear hB) | (go_at_call 23; with_reducible refine (L2.out _).mono ?_; rintro e W2 ⟨rfl, hB⟩; have H2 := Lib.hid (PS1.go H1.out hB); clear hB; have z0 := (PS1.o H2.out).1; have z1 := (PS1.o H2.out).2.1; have z2 := (PS1.o H2.out).2.2.1; have z3 := (PS1.o H2.out).2.2.2) | (go_at_call 23; with_reducible refine (L2.out _).mono ?_; rintro e W2 ⟨rfl, hB⟩; have H2 := Lib.hid (PS1.go (PS0.new0 H1.out) hB); clear hB; have z0 := (PS1.o H2.out).1; have z1 := (PS1.o H2.out).2.1; have z2 := (PS1.o H2.out).2.2.1; have z3 := (PS1.o H2.out).2.2.2))
    all_goals (go_wp2_with fail)
    all_goals go_meet
    all_goals rw [← HZ.out]
    all_goals first
      | exact ⟨_, rfl, PS0.new H2.out s2⟩
      | exact ⟨_, rfl, PS1.set H2.out s2⟩
  case rest =>
  obtain ⟨k, rfl, hP⟩ := hcut
  clear H00 H0 hS L1 L2 HZ hcell HK1 HK2 HV
  go_wp2
  go_loopw [8] (fun vj wr => ∃ j : Nat, vj = .int .i64 (j : Int) ∧ j ≤ (fieldsL m.kd).length ∧ Hid (PS1 w k (bodyTo m j) m (.slice p (fieldsL m.kd).length (fieldsL m.kd).length) ((fieldsL m.kd).map refF) wr)) (fun vj _ => (fieldsL m.kd).length - (intOf vj).toNat)
  case atStart => exact ⟨0, rfl, by omega, hP⟩
  case round =>
    clear hP
    obtain ⟨j, rfl, hj, hPj⟩ := hrel
    obtain ⟨o0, o1, o2, o3⟩ := PS1.o hPj.out
    by_cases hlt : j < (fieldsL m.kd).length
    · obtain ⟨b, hpp, hb, hbb, hcj⟩ := hPj.out.2.at_ (k := j) (by rw [List.length_map]; exact hlt)
      obtain rfl : p = some ⟨b, 0, none⟩ := by injection hpp with h1 h2 h3
      rw [mapF_getD _ hlt] at hcj
      have hRj := Lib.hid (fun W hB => HR.out j hlt W hB)
      have hSj := Lib.hid (HS.out j hlt)
      clear hpp hb hbb
      generalize (fieldsL m.kd).getD j 0 = f at *
      go_wp2
      refine wp_region_still_tail 6 (by kernel_rfl) (by kernel_rfl) ?_
      simp only [List.take_succ_cons, List.take_zero, List.drop_succ_cons, List.drop_zero]
      iterate 1 (refine wpStill_step (fun K hK => ?_); go_simp; refine hK _ ?_; clear hK K)
      refine wpStill_load_row rfl 30 _ rfl w.heap.size rfl ca (HLD.out wr.drew (BlkM.drew (PS1.blk hPj.out))) ?_
      iterate 4 (refine wpStill_step (fun K hK => ?_); go_simp; refine hK _ ?_; clear hK K)
      refine wpStill_nil ?_
      change wpList _ _ _ _ _ wr.drew
      have hPd := Lib.hid (PS1.drew hPj.out)
      clear o0 o1 o2 o3 hcj
      generalize wr.drew = wd at *
      go_wp2_with fail
      refine (hRj.out wd hPd.out.1.1).mono ?_
      rintro e W5 ⟨rfl, hB⟩
      have h5 := PS1.go hPd.out hB
      have h6 := PS1.set h5 (bodyTo m j ++ encF m f)
      obtain ⟨o0, o1, o2, o3⟩ := PS1.o h5
      rw [hSj.out] at h6 ⊢
      have H6 := Lib.hid h6
      clear hB h5 h6
      go_wp2
      exact ⟨⟨j + 1, by go_num, by omega, H6⟩, by simp [intOf]; omega⟩
    · obtain rfl : j = (fieldsL m.kd).length := by omega
      have H7 := hPj
      rw [HX.out] at H7 o0
      have hzb := Lib.hid (mk_len bd)
      have hl' : (mk bd).size ≤ 32803 := by rw [hzb.out]; exact hl
      clear hPj hj hlt hl hp
      by_cases h8 : 8192 < 4 + (mk bd).size
      · have hr := Lib.hid (h2.out (by rw [← hzb.out]; exact h8))
        have hd : decide ((8192 : Int) < ((mk bd).size : Int) + 4) = true := by simp; omega
        clear h2 h3 h8
        go_wp2
        go_ret2
        rw [hr.out]
        exact ⟨rfl, H7.out.1.1⟩
      · have hr := Lib.hid (h3.out (by rw [← hzb.out]; exact h8))
        have hd : decide ((8192 : Int) < ((mk bd).size : Int) + 4) = false := by simp; omega
        have hP0 := fun W => qPut (((mk bd).size + 4 : Nat) : Int) 4 ⟨by omega, by omega⟩ W
        have ep := putR_fit (n := (((mk bd).size + 4 : Nat) : Int)) (wd := 4) (by omega) (by omega) (by simp; omega)
        rw [show ((4 : Nat) : Int) = 4 from rfl] at ep
        rw [ep] at hP0
        dsimp only at hP0
        rw [Int.toNat_natCast, Int.natCast_add, show ((4 : Nat) : Int) = 4 from rfl] at hP0
        have hEq : Hid (mk (le 4 ((mk bd).size + 4)) ++ mk bd = mk (le 4 (4 + bd.length) ++ bd)) := by
          show _ = _
          rw [mk_app, hzb.out, Nat.add_comm]
        have HPu := Lib.hid hP0
        have hs1 : (mk (le 4 ((mk bd).size + 4))).size ≤ 4 := by rw [mk_len, le_len]; omega
        clear h2 h3 hP0 ep h8
        generalize le 4 ((mk bd).size + 4) = L4 at *
        go_wp2_with fail
        refine (HPu.out _).mono ?_
        rintro e w3 ⟨rfl, hB3⟩
        have H8 := Lib.hid (PS1.go H7.out hB3)
        clear o0 o1 o2 o3 hB3
        obtain ⟨o0, o1, o2, o3⟩ := PS1.o H8.out
        go_wp2
        go_ret2
        rw [hr.out, hEq.out]
        exact ⟨rfl, H8.out.1.1⟩

theorem RPut_msg (m : MM) (hm : inM m) (w : World) (hr : RowM w m) :
    Calls Tryz.prog 9 #[msgV m] w fun e w' => e = .returned (.tuple #[.string (mk (putW m).1), .int .i64 (putW m).2]) ∧ Below w.heap.size w w' := by
  by_cases hck : checkM m = 0
  · exact RPut_yes m hm w hr hck
  · exact RPut_no m hm w hr hck
set_option maxHeartbeats 4000000 in
set_option maxRecDepth 100000 in
theorem RSize_msg (m : MM) (hm : inM m) (w : World) (hr : RowM w m) :
    Calls Tryz.prog 11 #[msgV m] w fun e w' => e = .returned (.int .i64 ((putW m).1.length : Int)) ∧ Below w.heap.size w w' := by
  have hB0 : Below w.heap.size w (w.alloc (.cells (cellsB m) 30)) := (Below.refl _ w).alloc (Nat.le_refl _) _
  have HB0 := Lib.hid hB0
  have HK0 := Lib.hid (BlkM.new w m)
  have HP := Lib.hid (RPut_msg m hm (w.alloc (.cells (cellsB m) 30)) (hr.below hB0))
  have HZ := Lib.hid (sizeW m)
  clear hB0 hr hm
  unfold msgV at HP ⊢
  generalize putW m = r at *
  go_enter Tryz.func11, Tryz.ntmps11
  go_wp2_with (refine wpList_load_row rfl 30 _ rfl w.heap.size rfl 30 (cellsB m) (0, 0) _ HK0.out Tryz.underlying30 rfl (by kernel_rfl) ?_)
  refine HP.out.mono ?_
  rintro e w1 ⟨rfl, hB1⟩
  have HB1 := Lib.hid (HB0.out.trans (hB1.mono HB0.out.size))
  clear hB1
  go_wp2
  go_ret
  rw [HZ.out]
  exact ⟨rfl, HB1.out⟩
end Go.Proofs.YtlfdmbfbfadifaaGreatDoor
