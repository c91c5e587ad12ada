/-
  Walks: the reference's texts.
-/
import Derived.Test.YtinjnbcikoejkaaDoorSp
import Derived.Test.YtinjnbcikoejkaaDoorSn
import Derived.BigQuiet
namespace Go.Proofs.YtinjnbcikoejkaaDoor
open Go.RowKit

/-- The four texts of a description, as an array. -/
def arrT (d : DD) : Array Value := #[.string (mk d.nm), .string (mk d.ui), .string (mk d.gi), .string (mk d.mu)]
theorem arrT_one (d : DD) : (arrT d).all (·.oneCell') = true := by simp [arrT, Value.oneCell']
theorem arrT_set (d : DD) {k : Nat} (hk : k < 4) (x : List UInt8) : (arrT d).setIfInBounds k (.string (mk x)) = arrT (setT d k x) := by
  rcases k4 hk with rfl | rfl | rfl | rfl <;> rfl
theorem arrT_at (d : DD) {k : Nat} (hk : k < 4) : (arrT d)[k]? = some (.string (mk (txt d k))) := by
  rcases k4 hk with rfl | rfl | rfl | rfl <;> rfl
def BlkT (w : World) (b : Nat) (d : DD) : Prop := w.heap[b]? = some (.cells (arrT d) 70 (0, 0))
theorem BlkT.lt {w : World} {b : Nat} {d : DD} (h : BlkT w b d) : b < w.heap.size := (Array.getElem?_eq_some_iff.1 h).1
theorem BlkT.cell {w : World} {b : Nat} {d : DD} (h : BlkT w b d) {k : Nat} (hk : k < 4) : w.cell? ⟨b, k, none⟩ = some (.string (mk (txt d k))) := by
  rw [Joins.cell_of_block h k]; exact arrT_at d hk
theorem BlkT.frozen {w : World} {b : Nat} {d : DD} (h : BlkT w b d) (i : Nat) : w.frozen? ⟨b, i, none⟩ = false := by
  unfold BlkT at h
  simp [World.frozen?, h]
theorem BlkT.new (w : World) (d : DD) : BlkT (w.alloc (.cells (arrT d) 70)) w.heap.size d := heap_alloc_new w _
theorem BlkT.alloc {w : World} {b : Nat} {d : DD} (h : BlkT w b d) (o : Obj) : BlkT (w.alloc o) b d := (Below.heap_alloc w o b h.lt).trans h
theorem BlkT.below {w w' : World} {b B : Nat} {d : DD} (h : BlkT w b d) (hB : Below B w w') (hb : b < B) : BlkT w' b d := (hB.block b hb).trans h
theorem BlkT.set {w : World} {b : Nat} {d : DD} (h : BlkT w b d) {k : Nat} (hk : k < 4) (x : List UInt8) : BlkT (w.setCell ⟨b, k, none⟩ (.string (mk x))) b (setT d k x) := by
  have := heap_setCell_same w b k (arrT d) 70 (.string (mk x)) h
  rw [arrT_set d hk x] at this
  exact this
theorem BlkT.apart {w : World} {b : Nat} {d : DD} (h : BlkT w b d) {a : Addr} (ha : b ≠ a.block) (v : Value) : BlkT (w.setCell a v) b d := (heap_setCell_other w a b v ha).trans h
theorem BlkT.setRow {w : World} {b : Nat} {d : DD} (h : BlkT w b d) (e : DD) : BlkT (w.setRow b (arrT e)) b e := setRow_heap w b _ _ _ _ h
theorem load_arr {w : World} {b : Nat} {d : DD} (h : BlkT w b d) : (loadVar 70 ⟨b, 0, none⟩).run Tryd.prog w = .ok (.agg (arrT d)) w :=
  run_loadVar_row w b 70 70 (arrT d) (0, 0) _ h Tryd.underlying70 rfl (by kernel_rfl)
theorem results_arr {fn : Func} {p u b : Nat} {d : DD} {w : World} {tmps : Array Value} (h : fn.results = #[.cell p 70, .tmp u]) (hp : tmps.getD p undef = .pointer (some ⟨b, 0, none⟩)) (hb : BlkT w b d) :
    (results fn tmps).run Tryd.prog w = .ok (.tuple #[.agg (arrT d), tmps.getD u undef]) w := by
  rw [results_cell_tmp h, hp]
  have ha : (asAddr (.pointer (some ⟨b, 0, none⟩))).run Tryd.prog w = .ok ⟨b, 0, none⟩ w := rfl
  simp only [ha, Result.andThen, load_arr hb]

/-- k texts have been read: them, and where they end. -/
def txT (s : List UInt8) : Nat → Option (DD × Nat)
  | 0 => some (noD, 0)
  | k + 1 => match txT s k with
    | none => none
    | some (d, a) => match textAt s a with
      | none => none
      | some (t, c) => some (setT d k t, c)
def txX (s : List UInt8) : Bool := match txT s 4 with
  | none => false
  | some (_, a) => decide (a = s.length)
theorem txT_none {b : List UInt8} {k : Nat} (h : txT b k = none) (j : Nat) : txT b (k + j) = none := by
  induction j with
  | zero => exact h
  | succ j ih => rw [← Nat.add_assoc, txT, ih]
theorem txX_stop {b : List UInt8} {k : Nat} {d : DD} {a : Nat} (hk : k < 4) (h : txT b k = some (d, a)) (ht : textAt b a = none) : txX b = false := by
  have h1 : txT b (k + 1) = none := by rw [txT, h]; simp only [ht]
  have := txT_none h1 (3 - k)
  rw [show k + 1 + (3 - k) = 4 by omega] at this
  unfold txX; rw [this]
theorem txT_step {b : List UInt8} {k : Nat} {d : DD} {a c : Nat} {t : List UInt8} (h : txT b k = some (d, a)) (ht : textAt b a = some (t, c)) : txT b (k + 1) = some (setT d k t, c) := by
  rw [txT, h]; simp only [ht]
theorem txX_end {b : List UInt8} {d : DD} {a : Nat} (h : txT b 4 = some (d, a)) : txX b = decide (a = b.length) := by
  unfold txX; rw [h]
def TxPost (s : List UInt8) (w : World) (e : Ending) (w' : World) : Prop := ∃ d, e = .returned (.tuple #[.agg (arrT d), .bool (txX s)]) ∧ Below w.heap.size w w' ∧ (txX s = true → ∃ a, txT s 4 = some (d, a))
theorem val_two (b : List UInt8) (a : Nat) (h : a + 1 < (mk b).size) : val (cut b a 2) = (mk b)[a].toNat + 256 * (mk b)[a + 1].toNat := by
  rw [cut_cons b a 1 (by omega), cut_cons b (a + 1) 0 h]
  simp [val, cut]
theorem textAt_short {l : List UInt8} {a : Nat} (h : l.length < a + 2) : textAt l a = none := by unfold textAt; rw [if_pos h]
theorem textAt_long {l : List UInt8} {a : Nat} (h : ¬ l.length < a + 2) (h2 : l.length < a + 2 + val (cut l a 2)) : textAt l a = none := by unfold textAt; rw [if_neg h, if_pos h2]
theorem textAt_ok {l : List UInt8} {a : Nat} (h : ¬ l.length < a + 2) (h2 : ¬ l.length < a + 2 + val (cut l a 2)) : textAt l a = some (cut l (a + 2) (val (cut l a 2)), a + 2 + val (cut l a 2)) := by unfold textAt; rw [if_neg h, if_neg h2]

theorem two_arrs (w : World) : ∃ W, (w.alloc (.cells (arrT noD) 70)).alloc (.cells (arrT noD) 70) = W ∧ Below w.heap.size w W ∧ BlkT W w.heap.size noD ∧ BlkT W (w.heap.size + 1) noD := by
  refine ⟨_, rfl, ((Below.refl _ w).alloc (Nat.le_refl _) _).alloc (by simp) _, (BlkT.new w noD).alloc _, ?_⟩
  have h := BlkT.new (w.alloc (.cells (arrT noD) 70)) noD
  rwa [show (w.alloc (.cells (arrT noD) 70)).heap.size = w.heap.size + 1 by simp] at h
theorem zero_arr (W : World) : W.alloc (.cells #[.string ⟨#[]⟩, .string ⟨#[]⟩, .string ⟨#[]⟩, .string ⟨#[]⟩] 70) = W.alloc (.cells (arrT noD) 70) := rfl

set_option maxRecDepth 100000 in
set_option maxHeartbeats 6400000 in
theorem texts_any (b : List UInt8) (hb : (mk b).size ≤ 1000000) (w : World) :
    Calls Tryd.prog 38 #[.string (mk b)] w fun e w' => TxPost b w e w' := by
  obtain ⟨W, hW, hB0, hK0, hK1⟩ := two_arrs w
  have hz := Lib.hid zero_arr
  have HL := Lib.hid (mk_size b)
  replace hW := Lib.hid hW
  replace hB0 := Lib.hid hB0
  replace hK0 := Lib.hid hK0
  replace hK1 := Lib.hid hK1
  go_enter Tryd.func38, Tryd.ntmps38
  go_wp2
  simp only [hz.out, hW.out]
  go_loopw [5, 6] (fun va vk wr => ∃ (k a : Nat) (d : DD), vk = .int .i64 (k : Int) ∧ va = .int .i64 (a : Int) ∧ k ≤ 4 ∧ a ≤ (mk b).size ∧ Hid (txT b k = some (d, a)) ∧ Hid (Below w.heap.size w wr) ∧ Hid (BlkT wr w.heap.size noD) ∧ Hid (BlkT wr (w.heap.size + 1) d)) (fun _ vk _ => 4 - (intOf vk).toNat)
  case atStart => exact ⟨0, 0, noD, rfl, rfl, by omega, by omega, (rfl : txT b 0 = some (noD, 0)), hB0.out, hK0.out, hK1.out⟩
  case round =>
    obtain ⟨k, a, d, rfl, rfl, hk, ha, hT, hB, hA, hC⟩ := hrel
    by_cases hlt : k < 4
    · by_cases h2 : (mk b).size < a + 2
      · have hst := Lib.hid (txX_stop hlt hT.out (textAt_short (by rw [← HL.out]; exact h2)))
        have HX := Lib.hid (hA.out.setRow d)
        go_wp2_with (first
          | (refine wpList_load_row rfl 70 _ rfl (w.heap.size + 1) rfl 70 (arrT d) (0, 0) _ hC.out Tryd.underlying70 rfl (by kernel_rfl) ?_)
          | (refine wpList_store_row rfl 70 _ _ rfl w.heap.size (arrT d) rfl rfl 70 (arrT noD) hA.out (by kernel_rfl) rfl (arrT_one d) ?_))
        refine bodyPost_ret (results_arr rfl rfl HX.out) rfl ?_
        exact ⟨d, by rw [hst.out]; rfl, below_setRow hB.out (Nat.le_refl _) _, fun h => by rw [hst.out] at h; cases h⟩
      · have hv := val_two b a (by omega)
        have hnl : ¬ b.length < a + 2 := by rw [← HL.out]; exact h2
        have hsl := fun h => textAt_long (l := b) (a := a) hnl h
        have hso := fun h => textAt_ok (l := b) (a := a) hnl h
        rw [← HL.out] at hsl hso
        have hx := Lib.hid (mk_cut b (a + 2))
        have hv6 := val_cut2 b a
        generalize val (cut b a 2) = n at *
        have hsl' := Lib.hid (fun h => txX_stop hlt hT.out (hsl h))
        have hso' := Lib.hid (fun h => txT_step hT.out (hso h))
        clear hsl hso hnl hT
        have b0 : a < (mk b).size := by omega
        have b1 : a + 1 < (mk b).size := by omega
        have c0l := (mk b)[a].toNat_lt
        have c1l := (mk b)[a + 1].toNat_lt
        generalize hc0 : (mk b)[a] = c0 at *
        generalize hc1 : (mk b)[a + 1] = c1 at *
        have k0 : (0 : Int) ≤ (a : Int) := by omega
        have k1 : (a : Int) < ((mk b).size : Int) := by omega
        have k2 : IntKind.i64.wrap ((a : Int) + 1) = (a : Int) + 1 := IntWalk.i64_in _ (by omega)
        have k3 : (0 : Int) ≤ (a : Int) + 1 := by omega
        have k4 : (a : Int) + 1 < ((mk b).size : Int) := by omega
        have k5 : ((a : Int) + 1).toNat = a + 1 := by omega
        have kn : (c0.toNat : Int) + 256 * (c1.toNat : Int) = (n : Int) := by rw [hv]; omega
        replace kn := Lib.hid kn
        clear hv
        go_wp2
        go_quiet (fail)
        rw [kn.out]
        have hB2 := Lib.hid (below_drewN hB.out nq)
        have hA2 : Hid (BlkT (wr.drewN nq) w.heap.size noD) := hA.out
        have hC2 : Hid (BlkT (wr.drewN nq) (w.heap.size + 1) d) := hC.out
        generalize wr.drewN nq = wq at *
        clear kn k0 k1 k2 k3 k4 k5 hc0 hc1 c0l c1l hB hA hC
        by_cases h3 : (mk b).size < a + 2 + n
        · have hst := Lib.hid (hsl'.out h3)
          have HX := Lib.hid (hA2.out.setRow d)
          clear hsl' hso' hx
          go_wp2_with (first
            | (refine wpList_load_row rfl 70 _ rfl (w.heap.size + 1) rfl 70 (arrT d) (0, 0) _ hC2.out Tryd.underlying70 rfl (by kernel_rfl) ?_)
            | (refine wpList_store_row rfl 70 _ _ rfl w.heap.size (arrT d) rfl rfl 70 (arrT noD) hA2.out (by kernel_rfl) rfl (arrT_one d) ?_))
          refine bodyPost_ret (results_arr rfl rfl HX.out) rfl ?_
          exact ⟨d, by rw [hst.out]; rfl, below_setRow hB2.out (Nat.le_refl _) _, fun h => by rw [hst.out] at h; cases h⟩
        · have hT2 := hso'.out h3
          have hxx := hx.out n
          have hc := hC2.out.cell hlt
          have hf := hC2.out.frozen k
          generalize cut b (a + 2) n = t at *
          have HB3 := Lib.hid (hB2.out.setCell (p := ⟨w.heap.size + 1, k, none⟩) (Nat.le_succ _) (.string (mk t)))
          have HA3 := Lib.hid (hA2.out.apart (a := ⟨w.heap.size + 1, k, none⟩) (by show w.heap.size ≠ w.heap.size + 1; omega) (.string (mk t)))
          have HC3 := Lib.hid (hC2.out.set hlt t)
          replace hT2 := Lib.hid hT2
          rw [← hxx] at HB3 HA3 HC3
          replace hxx := Lib.hid hxx
          clear hsl' hso' hx hB2 hA2 hC2
          go_wp2
          exact ⟨⟨k + 1, a + 2 + n, _, by go_num, by go_num, by omega, by omega, hT2, HB3, HA3, HC3⟩, by simp [intOf]; omega⟩
    · obtain rfl : k = 4 := by omega
      have hend := txX_end hT.out
      rw [← HL.out] at hend
      have hend' : txX b = ((a : Int) == ((mk b).size : Int)) := by rw [hend, Bool.eq_iff_iff, decide_eq_true_iff, beq_iff_eq]; omega
      replace hend' := Lib.hid hend'
      have HX := Lib.hid (hA.out.setRow d)
      clear hend
      go_wp2_with (first
        | (refine wpList_load_row rfl 70 _ rfl (w.heap.size + 1) rfl 70 (arrT d) (0, 0) _ hC.out Tryd.underlying70 rfl (by kernel_rfl) ?_)
        | (refine wpList_store_row rfl 70 _ _ rfl w.heap.size (arrT d) rfl rfl 70 (arrT noD) hA.out (by kernel_rfl) rfl (arrT_one d) ?_))
      refine bodyPost_ret (results_arr rfl rfl HX.out) rfl ?_
      exact ⟨d, by rw [hend'.out]; rfl, below_setRow hB.out (Nat.le_refl _) _, fun _ => ⟨a, hT.out⟩⟩
end Go.Proofs.YtinjnbcikoejkaaDoor
