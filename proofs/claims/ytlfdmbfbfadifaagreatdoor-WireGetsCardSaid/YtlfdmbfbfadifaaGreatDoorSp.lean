/-
  Walks: the reference's number.
  Walks: the reference's texts.
  Reading once more: the reference's Get over texts that are read apart. No walk in this text.
-/
import Derived.Test.YtlfdmbfbfadifaaGreatDoorSd
import Derived.Test.YtlfdmbfbfadifaaGreatDoorSm
import Derived.BigQuiet
namespace Go.Proofs.YtlfdmbfbfadifaaGreatDoor.St
open Go.RowKit

def sat (v : Nat) : Int := if 9223372036854775808 ≤ v then 9223372036854775807 else (v : Int)
theorem sat_big {v : Nat} {c : Nat} (h : (36028797018963968 : Int) ≤ sat v) : sat (c + 256 * v) = 9223372036854775807 := by
  unfold sat at h ⊢
  split at h
  · rw [if_pos (by omega)]
  · rw [if_pos (by omega)]
theorem sat_small {v : Nat} {c : Nat} (hc : c < 256) (h : ¬ (36028797018963968 : Int) ≤ sat v) : sat (c + 256 * v) = sat v * 256 + (c : Int) := by
  unfold sat at h ⊢
  split at h
  · omega
  · rw [if_neg (by omega), if_neg (by omega)]; omega
theorem sat_nn (v : Nat) : 0 ≤ sat v ∧ sat v ≤ 9223372036854775807 := by unfold sat; split <;> omega
def kpB (l : List UInt8) : Bool := decide (l = List.replicate l.length 255)
theorem numQ_eq (l : List UInt8) : numQ l = if kpB l then -1 else sat (val l) := by
  unfold numQ kpB sat; simp
theorem kpB_cons (c : UInt8) (l : List UInt8) : kpB (c :: l) = (kpB l && ((c.toNat : Int) == 255)) := by
  unfold kpB
  rw [Bool.eq_iff_iff]
  simp only [List.length_cons, List.replicate_succ, List.cons.injEq, Bool.and_eq_true, decide_eq_true_eq, beq_iff_eq]
  constructor
  · rintro ⟨rfl, h⟩; exact ⟨h, rfl⟩
  · rintro ⟨h, hc⟩; exact ⟨UInt8.toNat.inj (by show c.toNat = 255; omega), h⟩
theorem cut_cons (b : List UInt8) (x m : Nat) (h : x < (mk b).size) : cut b x (m + 1) = (mk b)[x] :: cut b (x + 1) m := by
  rw [mk_get]
  rw [mk_size] at h
  unfold cut
  rw [List.drop_eq_getElem_cons h, List.take_succ_cons]

set_option maxRecDepth 100000 in
set_option maxHeartbeats 3200000 in
theorem number_any (b : List UInt8) (a k : Nat) (h1 : 1 ≤ k) (h8 : k ≤ 8) (hs : a + k ≤ (mk b).size) (hb : (mk b).size ≤ 1000000) (w : World) :
    Calls Tryz.prog 92 #[.string (mk b), .int .i64 (a : Int), .int .i64 (k : Int)] w fun e w' => e = .returned (.int .i64 (numQ (cut b a k))) ∧ w = w' := by
  have hr := numQ_eq (cut b a k)
  generalize numQ (cut b a k) = res at hr ⊢
  replace hr := Lib.hid hr
  go_enter Tryz.func92, Tryz.ntmps92
  go_wp2
  go_loop [7, 8, 9] (fun vn vk vi => ∃ (j : Nat) (i : Int) (n : Int) (kp : Bool), vi = .int .i64 i ∧ i = (j : Int) - 1 ∧ vn = .int .i64 n ∧ vk = .bool kp ∧ j ≤ k ∧ 0 ≤ n ∧ n ≤ 9223372036854775807 ∧ Hid (n = sat (val (cut b (a + j) (k - j)))) ∧ Hid (kp = kpB (cut b (a + j) (k - j)))) (fun _ _ vi => (intOf vi + 1).toNat)
  case atStart => exact ⟨k, _, 0, true, rfl, by omega, rfl, rfl, by omega, by omega, by omega, (by simp [cut, val, sat] : 0 = sat (val (cut b (a + k) (k - k)))), (by simp [cut, kpB] : true = kpB (cut b (a + k) (k - k)))⟩
  case round =>
    obtain ⟨j, i, n, kp, rfl, hi, rfl, rfl, hj, hn0, hn1, hn, hkp⟩ := hrel
    by_cases hj0 : j = 0
    · subst hj0
      obtain rfl : i = -1 := by omega
      have hr2 := hr.out
      rw [show cut b a k = cut b (a + 0) (k - 0) from rfl, ← hn.out, ← hkp.out] at hr2
      replace hr2 := Lib.hid hr2
      clear hi
      cases kp
      · go_wp2
        go_ret
        rw [hr2.out]
        exact ⟨rfl, rfl⟩
      · go_wp2
        go_ret
        rw [hr2.out]
        exact ⟨rfl, rfl⟩
    · obtain ⟨j, rfl⟩ : ∃ d, j = d + 1 := ⟨j - 1, by omega⟩
      obtain rfl : i = (j : Int) := by omega
      have hbd : a + j < (mk b).size := by omega
      have hcc := cut_cons b (a + j) (k - (j + 1)) hbd
      rw [show a + j + 1 = a + (j + 1) by omega, show k - (j + 1) + 1 = k - j by omega] at hcc
      have hv : val (cut b (a + j) (k - j)) = (mk b)[a + j].toNat + 256 * val (cut b (a + (j + 1)) (k - (j + 1))) := by rw [hcc]; rfl
      have hk2 := kpB_cons (mk b)[a + j] (cut b (a + (j + 1)) (k - (j + 1)))
      rw [← hcc, ← hkp.out] at hk2
      have hc : (mk b)[a + j].toNat < 256 := (mk b)[a + j].toNat_lt
      by_cases hbig : (36028797018963968 : Int) ≤ n
      · have hs2 := sat_big (c := (mk b)[a + j].toNat) (by rw [← hn.out]; exact hbig)
        rw [← hv] at hs2
        have HS := Lib.hid hs2.symm
        replace hk2 := Lib.hid hk2.symm
        clear hv hs2 hcc hc hn hkp hi
        cases kp
        · go_wp2
          exact ⟨⟨j, (j : Int) - 1, _, _, by first | rfl | (congr 1), rfl, rfl, rfl, by omega, by omega, by omega, HS.out, hk2.out⟩, by simp [intOf]; try omega⟩
        · go_wp2
          exact ⟨⟨j, (j : Int) - 1, _, _, by first | rfl | (congr 1), rfl, rfl, rfl, by omega, by omega, by omega, HS.out, hk2.out⟩, by simp [intOf]; try omega⟩
      · have hs2 := sat_small hc (v := val (cut b (a + (j + 1)) (k - (j + 1)))) (by rw [← hn.out]; exact hbig)
        rw [← hv, ← hn.out] at hs2
        have HS := Lib.hid hs2.symm
        replace hk2 := Lib.hid hk2.symm
        have HC := Lib.hid hc
        have hd : decide ((36028797018963968 : Int) ≤ n) = false := by simpa using hbig
        have HN := Lib.hid hbig
        clear hv hs2 hcc hc hn hkp hi hbig
        cases kp
        · go_wp2
          have hN := HN.out
          have hC := HC.out
          have e1 : wrap64 (n * 256) = n * 256 := IntWalk.wrap64_in _ (by omega)
          have e2 : wrap64 (((mk b)[a + j].toNat : Nat) : Int) = (((mk b)[a + j].toNat : Nat) : Int) := IntWalk.wrap64_in _ (by omega)
          have e3 : wrap64 (n * 256 + (((mk b)[a + j].toNat : Nat) : Int)) = n * 256 + (((mk b)[a + j].toNat : Nat) : Int) := IntWalk.wrap64_in _ (by omega)
          refine ⟨⟨j, (j : Int) - 1, n * 256 + (((mk b)[a + j].toNat : Nat) : Int), _, by first | rfl | (congr 1), rfl, ?_, rfl, by omega, by omega, by omega, HS.out, hk2.out⟩, by simp [intOf]; try omega⟩
          rw [e1, e2, e3]
        · go_wp2
          have hN := HN.out
          have hC := HC.out
          have e1 : wrap64 (n * 256) = n * 256 := IntWalk.wrap64_in _ (by omega)
          have e2 : wrap64 (((mk b)[a + j].toNat : Nat) : Int) = (((mk b)[a + j].toNat : Nat) : Int) := IntWalk.wrap64_in _ (by omega)
          have e3 : wrap64 (n * 256 + (((mk b)[a + j].toNat : Nat) : Int)) = n * 256 + (((mk b)[a + j].toNat : Nat) : Int) := IntWalk.wrap64_in _ (by omega)
          refine ⟨⟨j, (j : Int) - 1, n * 256 + (((mk b)[a + j].toNat : Nat) : Int), _, by first | rfl | (congr 1), rfl, ?_, rfl, by omega, by omega, by omega, HS.out, hk2.out⟩, by simp [intOf]; try omega⟩
          rw [e1, e2, e3]
end Go.Proofs.YtlfdmbfbfadifaaGreatDoor.St

namespace Go.Proofs.YtlfdmbfbfadifaaGreatDoor.St
open Go.RowKit

/-- The four texts of a description, as an array. -/
def arrT (d : DD) : Array Value := #[.string (mk d.nm), .string (mk d.ui), .string (mk d.gi), .string (mk d.mu)]
theorem arrT_one (d : DD) : (arrT d).all (·.oneCell') = true := by simp [arrT, Value.oneCell']
theorem arrT_set (d : DD) {k : Nat} (hk : k < 4) (x : List UInt8) : (arrT d).setIfInBounds k (.string (mk x)) = arrT (setT d k x) := by
  rcases k4 hk with rfl | rfl | rfl | rfl <;> rfl
theorem arrT_at (d : DD) {k : Nat} (hk : k < 4) : (arrT d)[k]? = some (.string (mk (txt d k))) := by
  rcases k4 hk with rfl | rfl | rfl | rfl <;> rfl
def BlkT (w : World) (b : Nat) (d : DD) : Prop := w.heap[b]? = some (.cells (arrT d) 143 (0, 0))
theorem BlkT.lt {w : World} {b : Nat} {d : DD} (h : BlkT w b d) : b < w.heap.size := (Array.getElem?_eq_some_iff.1 h).1
theorem BlkT.cell {w : World} {b : Nat} {d : DD} (h : BlkT w b d) {k : Nat} (hk : k < 4) : w.cell? ⟨b, k, none⟩ = some (.string (mk (txt d k))) := by
  rw [Joins.cell_of_block h k]; exact arrT_at d hk
theorem BlkT.frozen {w : World} {b : Nat} {d : DD} (h : BlkT w b d) (i : Nat) : w.frozen? ⟨b, i, none⟩ = false := by
  unfold BlkT at h
  simp [World.frozen?, h]
theorem BlkT.new (w : World) (d : DD) : BlkT (w.alloc (.cells (arrT d) 143)) w.heap.size d := heap_alloc_new w _
theorem BlkT.alloc {w : World} {b : Nat} {d : DD} (h : BlkT w b d) (o : Obj) : BlkT (w.alloc o) b d := (Below.heap_alloc w o b h.lt).trans h
theorem BlkT.below {w w' : World} {b B : Nat} {d : DD} (h : BlkT w b d) (hB : Below B w w') (hb : b < B) : BlkT w' b d := (hB.block b hb).trans h
theorem BlkT.set {w : World} {b : Nat} {d : DD} (h : BlkT w b d) {k : Nat} (hk : k < 4) (x : List UInt8) : BlkT (w.setCell ⟨b, k, none⟩ (.string (mk x))) b (setT d k x) := by
  have := heap_setCell_same w b k (arrT d) 143 (.string (mk x)) h
  rw [arrT_set d hk x] at this
  exact this
theorem BlkT.apart {w : World} {b : Nat} {d : DD} (h : BlkT w b d) {a : Addr} (ha : b ≠ a.block) (v : Value) : BlkT (w.setCell a v) b d := (heap_setCell_other w a b v ha).trans h
theorem BlkT.setRow {w : World} {b : Nat} {d : DD} (h : BlkT w b d) (e : DD) : BlkT (w.setRow b (arrT e)) b e := setRow_heap w b _ _ _ _ h
theorem load_arr {w : World} {b : Nat} {d : DD} (h : BlkT w b d) : (loadVar 143 ⟨b, 0, none⟩).run Tryz.prog w = .ok (.agg (arrT d)) w :=
  run_loadVar_row w b 143 143 (arrT d) (0, 0) _ h Tryz.underlying143 rfl (by kernel_rfl)
theorem results_arr {fn : Func} {p u b : Nat} {d : DD} {w : World} {tmps : Array Value} (h : fn.results = #[.cell p 143, .tmp u]) (hp : tmps.getD p undef = .pointer (some ⟨b, 0, none⟩)) (hb : BlkT w b d) :
    (results fn tmps).run Tryz.prog w = .ok (.tuple #[.agg (arrT d), tmps.getD u undef]) w := by
  rw [results_cell_tmp h, hp]
  have ha : (asAddr (.pointer (some ⟨b, 0, none⟩))).run Tryz.prog w = .ok ⟨b, 0, none⟩ w := rfl
  simp only [ha, Result.andThen, load_arr hb]

/-- k texts have been read: them, and where they end. -/
def txT (s : List UInt8) : Nat → Option (DD × Nat)
  | 0 => some (noD, 0)
  | k + 1 => match txT s k with
    | none => none
    | some (d, a) => match textAt s a with
      | none => none
      | some (t, c) => some (setT d k t, c)
def txX (s : List UInt8) : Bool := match txT s 4 with
  | none => false
  | some (_, a) => decide (a = s.length)
theorem txT_none {b : List UInt8} {k : Nat} (h : txT b k = none) (j : Nat) : txT b (k + j) = none := by
  induction j with
  | zero => exact h
  | succ j ih => rw [← Nat.add_assoc, txT, ih]
theorem txX_stop {b : List UInt8} {k : Nat} {d : DD} {a : Nat} (hk : k < 4) (h : txT b k = some (d, a)) (ht : textAt b a = none) : txX b = false := by
  have h1 : txT b (k + 1) = none := by rw [txT, h]; simp only [ht]
  have := txT_none h1 (3 - k)
  rw [show k + 1 + (3 - k) = 4 by omega] at this
  unfold txX; rw [this]
theorem txT_step {b : List UInt8} {k : Nat} {d : DD} {a c : Nat} {t : List UInt8} (h : txT b k = some (d, a)) (ht : textAt b a = some (t, c)) : txT b (k + 1) = some (setT d k t, c) := by
  rw [txT, h]; simp only [ht]
theorem txX_end {b : List UInt8} {d : DD} {a : Nat} (h : txT b 4 = some (d, a)) : txX b = decide (a = b.length) := by
  unfold txX; rw [h]
def TxPost (s : List UInt8) (w : World) (e : Ending) (w' : World) : Prop := ∃ d, e = .returned (.tuple #[.agg (arrT d), .bool (txX s)]) ∧ Below w.heap.size w w' ∧ (txX s = true → ∃ a, txT s 4 = some (d, a))
theorem val_two (b : List UInt8) (a : Nat) (h : a + 1 < (mk b).size) : val (cut b a 2) = (mk b)[a].toNat + 256 * (mk b)[a + 1].toNat := by
  rw [cut_cons b a 1 (by omega), cut_cons b (a + 1) 0 h]
  simp [val, cut]
theorem textAt_short {l : List UInt8} {a : Nat} (h : l.length < a + 2) : textAt l a = none := by unfold textAt; rw [if_pos h]
theorem textAt_long {l : List UInt8} {a : Nat} (h : ¬ l.length < a + 2) (h2 : l.length < a + 2 + val (cut l a 2)) : textAt l a = none := by unfold textAt; rw [if_neg h, if_pos h2]
theorem textAt_ok {l : List UInt8} {a : Nat} (h : ¬ l.length < a + 2) (h2 : ¬ l.length < a + 2 + val (cut l a 2)) : textAt l a = some (cut l (a + 2) (val (cut l a 2)), a + 2 + val (cut l a 2)) := by unfold textAt; rw [if_neg h, if_neg h2]

theorem two_arrs (w : World) : ∃ W, (w.alloc (.cells (arrT noD) 143)).alloc (.cells (arrT noD) 143) = W ∧ Below w.heap.size w W ∧ BlkT W w.heap.size noD ∧ BlkT W (w.heap.size + 1) noD := by
  refine ⟨_, rfl, ((Below.refl _ w).alloc (Nat.le_refl _) _).alloc (by simp) _, (BlkT.new w noD).alloc _, ?_⟩
  have h := BlkT.new (w.alloc (.cells (arrT noD) 143)) noD
  rwa [show (w.alloc (.cells (arrT noD) 143)).heap.size = w.heap.size + 1 by simp] at h
theorem zero_arr (W : World) : W.alloc (.cells #[.string ⟨#[]⟩, .string ⟨#[]⟩, .string ⟨#[]⟩, .string ⟨#[]⟩] 143) = W.alloc (.cells (arrT noD) 143) := rfl

set_option maxRecDepth 100000 in
set_option maxHeartbeats 6400000 in
theorem texts_any (b : List UInt8) (hb : (mk b).size ≤ 1000000) (w : World) :
    Calls Tryz.prog 91 #[.string (mk b)] w fun e w' => TxPost b w e w' := by
  obtain ⟨W, hW, hB0, hK0, hK1⟩ := two_arrs w
  have hz := Lib.hid zero_arr
  have HL := Lib.hid (mk_size b)
  replace hW := Lib.hid hW
  replace hB0 := Lib.hid hB0
  replace hK0 := Lib.hid hK0
  replace hK1 := Lib.hid hK1
  go_enter Tryz.func91, Tryz.ntmps91
  go_wp2
  simp only [hz.out, hW.out]
  go_loopw [5, 6] (fun va vk wr => ∃ (k a : Nat) (d : DD), vk = .int .i64 (k : Int) ∧ va = .int .i64 (a : Int) ∧ k ≤ 4 ∧ a ≤ (mk b).size ∧ Hid (txT b k = some (d, a)) ∧ Hid (Below w.heap.size w wr) ∧ Hid (BlkT wr w.heap.size noD) ∧ Hid (BlkT wr (w.heap.size + 1) d)) (fun _ vk _ => 4 - (intOf vk).toNat)
  case atStart => exact ⟨0, 0, noD, rfl, rfl, by omega, by omega, (rfl : txT b 0 = some (noD, 0)), hB0.out, hK0.out, hK1.out⟩
  case round =>
    obtain ⟨k, a, d, rfl, rfl, hk, ha, hT, hB, hA, hC⟩ := hrel
    by_cases hlt : k < 4
    · by_cases h2 : (mk b).size < a + 2
      · have hst := Lib.hid (txX_stop hlt hT.out (textAt_short (by rw [← HL.out]; exact h2)))
        have HX := Lib.hid (hA.out.setRow d)
        go_wp2_with (first
          | (refine wpList_load_row rfl 143 _ rfl (w.heap.size + 1) rfl 143 (arrT d) (0, 0) _ hC.out Tryz.underlying143 rfl (by kernel_rfl) ?_)
          | (refine wpList_store_row rfl 143 _ _ rfl w.heap.size (arrT d) rfl rfl 143 (arrT noD) hA.out (by kernel_rfl) rfl (arrT_one d) ?_))
        refine bodyPost_ret (results_arr rfl rfl HX.out) rfl ?_
        exact ⟨d, by rw [hst.out]; rfl, below_setRow hB.out (Nat.le_refl _) _, fun h => by rw [hst.out] at h; cases h⟩
      · have hv := val_two b a (by omega)
        have hnl : ¬ b.length < a + 2 := by rw [← HL.out]; exact h2
        have hsl := fun h => textAt_long (l := b) (a := a) hnl h
        have hso := fun h => textAt_ok (l := b) (a := a) hnl h
        rw [← HL.out] at hsl hso
        have hx := Lib.hid (mk_cut b (a + 2))
        have hv6 := val_cut2 b a
        generalize val (cut b a 2) = n at *
        have hsl' := Lib.hid (fun h => txX_stop hlt hT.out (hsl h))
        have hso' := Lib.hid (fun h => txT_step hT.out (hso h))
        clear hsl hso hnl hT
        have b0 : a < (mk b).size := by omega
        have b1 : a + 1 < (mk b).size := by omega
        have c0l := (mk b)[a].toNat_lt
        have c1l := (mk b)[a + 1].toNat_lt
        generalize hc0 : (mk b)[a] = c0 at *
        generalize hc1 : (mk b)[a + 1] = c1 at *
        have k0 : (0 : Int) ≤ (a : Int) := by omega
        have k1 : (a : Int) < ((mk b).size : Int) := by omega
        have k2 : IntKind.i64.wrap ((a : Int) + 1) = (a : Int) + 1 := IntWalk.i64_in _ (by omega)
        have k3 : (0 : Int) ≤ (a : Int) + 1 := by omega
        have k4 : (a : Int) + 1 < ((mk b).size : Int) := by omega
        have k5 : ((a : Int) + 1).toNat = a + 1 := by omega
        have kn : (c0.toNat : Int) + 256 * (c1.toNat : Int) = (n : Int) := by rw [hv]; omega
        replace kn := Lib.hid kn
        clear hv
        go_wp2
        go_quiet (fail)
        rw [kn.out]
        have hB2 := Lib.hid (below_drewN hB.out nq)
        have hA2 : Hid (BlkT (wr.drewN nq) w.heap.size noD) := hA.out
        have hC2 : Hid (BlkT (wr.drewN nq) (w.heap.size + 1) d) := hC.out
        generalize wr.drewN nq = wq at *
        clear kn k0 k1 k2 k3 k4 k5 hc0 hc1 c0l c1l hB hA hC
        by_cases h3 : (mk b).size < a + 2 + n
        · have hst := Lib.hid (hsl'.out h3)
          have HX := Lib.hid (hA2.out.setRow d)
          clear hsl' hso' hx
          go_wp2_with (first
            | (refine wpList_load_row rfl 143 _ rfl (w.heap.size + 1) rfl 143 (arrT d) (0, 0) _ hC2.out Tryz.underlying143 rfl (by kernel_rfl) ?_)
            | (refine wpList_store_row rfl 143 _ _ rfl w.heap.size (arrT d) rfl rfl 143 (arrT noD) hA2.out (by kernel_rfl) rfl (arrT_one d) ?_))
          refine bodyPost_ret (results_arr rfl rfl HX.out) rfl ?_
          exact ⟨d, by rw [hst.out]; rfl, below_setRow hB2.out (Nat.le_refl _) _, fun h => by rw [hst.out] at h; cases h⟩
        · have hT2 := hso'.out h3
          have hxx := hx.out n
          have hc := hC2.out.cell hlt
          have hf := hC2.out.frozen k
          generalize cut b (a + 2) n = t at *
          have HB3 := Lib.hid (hB2.out.setCell (p := ⟨w.heap.size + 1, k, none⟩) (Nat.le_succ _) (.string (mk t)))
          have HA3 := Lib.hid (hA2.out.apart (a := ⟨w.heap.size + 1, k, none⟩) (by show w.heap.size ≠ w.heap.size + 1; omega) (.string (mk t)))
          have HC3 := Lib.hid (hC2.out.set hlt t)
          replace hT2 := Lib.hid hT2
          rw [← hxx] at HB3 HA3 HC3
          replace hxx := Lib.hid hxx
          clear hsl' hso' hx hB2 hA2 hC2
          go_wp2
          exact ⟨⟨k + 1, a + 2 + n, _, by go_num, by go_num, by omega, by omega, hT2, HB3, HA3, HC3⟩, by simp [intOf]; omega⟩
    · obtain rfl : k = 4 := by omega
      have hend := txX_end hT.out
      rw [← HL.out] at hend
      have hend' : txX b = ((a : Int) == ((mk b).size : Int)) := by rw [hend, Bool.eq_iff_iff, decide_eq_true_iff, beq_iff_eq]; omega
      replace hend' := Lib.hid hend'
      have HX := Lib.hid (hA.out.setRow d)
      clear hend
      go_wp2_with (first
        | (refine wpList_load_row rfl 143 _ rfl (w.heap.size + 1) rfl 143 (arrT d) (0, 0) _ hC.out Tryz.underlying143 rfl (by kernel_rfl) ?_)
        | (refine wpList_store_row rfl 143 _ _ rfl w.heap.size (arrT d) rfl rfl 143 (arrT noD) hA.out (by kernel_rfl) rfl (arrT_one d) ?_))
      refine bodyPost_ret (results_arr rfl rfl HX.out) rfl ?_
      exact ⟨d, by rw [hend'.out]; rfl, below_setRow hB.out (Nat.le_refl _) _, fun _ => ⟨a, hT.out⟩⟩
end Go.Proofs.YtlfdmbfbfadifaaGreatDoor.St

namespace Go.Proofs.YtlfdmbfbfadifaaGreatDoor.St
open Go.RowKit

/-- The description whose numbers are those of t, its texts those of d. -/
def rdD (f : List UInt8 → Int) (t : List UInt8) (d : DD) : DD :=
  ⟨f (cut t 0 2), f (cut t 2 4), f (cut t 6 1), f (cut t 7 4), f (cut t 11 8), f (cut t 19 4), f (cut t 23 8), f (cut t 31 8), f (cut t 39 8), d.nm, d.ui, d.gi, d.mu⟩
theorem rdD_noD (f : List UInt8 → Int) (t : List UInt8) : rdD f t noD = decN f t 9 := rfl
theorem rdD_set (f : List UInt8 → Int) (t : List UInt8) (d : DD) {k : Nat} (hk : k < 4) (x : List UInt8) : setT (rdD f t d) k x = rdD f t (setT d k x) := by
  rcases k4 hk with rfl | rfl | rfl | rfl <;> rfl
theorem cut_drop (t : List UInt8) (a k : Nat) : cut (t.drop 47) a k = cut t (47 + a) k := by unfold cut; rw [List.drop_drop]
theorem textAt_drop {t : List UInt8} (h : 47 ≤ t.length) (a : Nat) : textAt t (47 + a) = (textAt (t.drop 47) a).map fun p => (p.1, 47 + p.2) := by
  unfold textAt
  rw [cut_drop, List.length_drop, cut_drop]
  by_cases h1 : t.length < 47 + a + 2
  · rw [if_pos h1, if_pos (by omega)]; rfl
  · have h1' : ¬ t.length - 47 < a + 2 := by omega
    rw [if_neg h1, if_neg h1']
    by_cases h2 : t.length < 47 + a + 2 + val (cut t (47 + a) 2)
    · have h2' : t.length - 47 < a + 2 + val (cut t (47 + a) 2) := by omega
      rw [if_pos h2, if_pos h2']; rfl
    · have h2' : ¬ t.length - 47 < a + 2 + val (cut t (47 + a) 2) := by omega
      rw [if_neg h2, if_neg h2']
      simp only [Option.map_some, Nat.add_assoc]
theorem decT_txT {f : List UInt8 → Int} {t : List UInt8} (h : 47 ≤ t.length) : ∀ k, k ≤ 4 → decT f t k = (txT (t.drop 47) k).map fun p => (rdD f t p.1, 47 + p.2)
  | 0, _ => rfl
  | k + 1, hk => by
    rw [decT, txT, decT_txT h k (by omega)]
    rcases txT (t.drop 47) k with _ | ⟨d, a⟩
    · rfl
    · simp only [Option.map_some]
      rw [textAt_drop h]
      rcases textAt (t.drop 47) a with _ | ⟨x, c⟩
      · rfl
      · simp only [Option.map_some]
        rw [rdD_set f t d (by omega)]
theorem decX_rd {f : List UInt8 → Int} {t : List UInt8} (h : 47 ≤ t.length) : (decX f t).2 = txX (t.drop 47) ∧ ∀ d a, txT (t.drop 47) 4 = some (d, a) → (decX f t).1 = rdD f t d := by
  unfold decX txX
  rw [if_neg (by omega), decT_txT h 4 (by omega)]
  rcases txT (t.drop 47) 4 with _ | ⟨d, a⟩
  · exact ⟨rfl, fun d a h => by cases h⟩
  · simp only [Option.map_some]
    refine ⟨?_, ?_⟩
    · rw [Bool.eq_iff_iff, decide_eq_true_iff, decide_eq_true_iff, List.length_drop]; omega
    · rintro d' a' h'
      injection h' with h'
      injection h' with h1 h2
      rw [h1]
theorem txT_big {s : List UInt8} (hs : s.length ≤ maxLen) : ∀ (k : Nat) (d : DD) (a : Nat), k ≤ 4 → txT s k = some (d, a) → bigD d
  | 0, d, a, _, h => by
    simp only [txT, Option.some.injEq, Prod.mk.injEq] at h
    obtain ⟨rfl, _⟩ := h
    exact bigD_noD
  | k + 1, d, a, hk, h => by
    rw [txT] at h
    rcases h1 : txT s k with _ | ⟨d', a'⟩
    · rw [h1] at h; cases h
    · rw [h1] at h
      simp only at h
      rcases h2 : textAt s a' with _ | ⟨t, c⟩
      · rw [h2] at h; cases h
      · rw [h2] at h
        simp only [Option.some.injEq, Prod.mk.injEq] at h
        obtain ⟨rfl, rfl⟩ := h
        have i2 := txT_big hs k d' a' (by omega) h1
        have hl := (textAt_le h2).2.2
        exact fun j hj => by
          rw [txt_setT d' (by omega) hj]
          split
          · omega
          · exact i2 j hj
theorem numQ_in (l : List UInt8) : inI (numQ l) := by
  unfold numQ
  split
  · exact ⟨by decide, by decide⟩
  · split
    · exact ⟨by decide, by decide⟩
    · exact ⟨by omega, by omega⟩
theorem rdD_in (t : List UInt8) (d : DD) : inD (rdD numQ t d) := fun k hk => by
  rcases k9 hk with rfl | rfl | rfl | rfl | rfl | rfl | rfl | rfl | rfl <;> exact numQ_in _
theorem rdD_big {t : List UInt8} {d : DD} (h : bigD d) : bigD (rdD numQ t d) := fun k hk => by
  have := h k hk
  rcases k4 hk with rfl | rfl | rfl | rfl <;> exact this

/-! ### The two readings of a number are the same to Check -/
theorem numPQ (l : List UInt8) : numP l = numQ l ∨ (numP l = -2 ∧ numQ l = 9223372036854775807) := by
  unfold numP numQ
  split
  · exact .inl rfl
  · split
    · exact .inr ⟨rfl, rfl⟩
    · exact .inl rfl
theorem okN_PQ {k : Nat} (hk : k < 9) (l : List UInt8) : okN k (numP l) = okN k (numQ l) := by
  rcases numPQ l with h | ⟨h1, h2⟩
  · rw [h]
  · rw [h1, h2, okN_low (by omega), okN_big hk (by omega)]
theorem okN_same {k : Nat} {l : List UInt8} (h : okN k (numP l) = true) : numP l = numQ l := by
  rcases numPQ l with e | ⟨h1, _⟩
  · exact e
  · rw [h1, okN_low (by omega)] at h; cases h
theorem check_PQ (t : List UInt8) (d : DD) : checkR (rdD numP t d) = checkR (rdD numQ t d) := by
  unfold checkR
  have ha : allN (rdD numP t d) = allN (rdD numQ t d) := by
    unfold allN
    simp only [rdD]
    rw [okN_PQ (by omega), okN_PQ (by omega), okN_PQ (by omega), okN_PQ (by omega), okN_PQ (by omega), okN_PQ (by omega), okN_PQ (by omega), okN_PQ (by omega), okN_PQ (by omega)]
  rw [ha]; rfl
theorem rdD_PQ {t : List UInt8} {d : DD} (h : checkR (rdD numP t d) = 0) : rdD numP t d = rdD numQ t d := by
  have ha := (checkR_0.1 h).1
  have e := fun {k : Nat} (hk : k < 9) => allN_at ha hk
  have e0 := okN_same (e (k := 0) (by omega))
  have e1 := okN_same (e (k := 1) (by omega))
  have e2 := okN_same (e (k := 2) (by omega))
  have e3 := okN_same (e (k := 3) (by omega))
  have e4 := okN_same (e (k := 4) (by omega))
  have e5 := okN_same (e (k := 5) (by omega))
  have e6 := okN_same (e (k := 6) (by omega))
  have e7 := okN_same (e (k := 7) (by omega))
  have e8 := okN_same (e (k := 8) (by omega))
  simp only [rdD, num] at *
  rw [e0, e1, e2, e3, e4, e5, e6, e7, e8]
theorem getS_PQ (l : List UInt8) (a : Int) : getS numP l a = getS numQ l a := by
  unfold getS
  by_cases h : (getTextR l a).2.2 ≠ 0
  · rw [if_pos h, if_pos h]
  · rw [if_neg h, if_neg h]
    generalize (getTextR l a).1 = t
    by_cases hl : 47 ≤ t.length
    · obtain ⟨p2, p1⟩ := decX_rd (f := numP) hl
      obtain ⟨q2, q1⟩ := decX_rd (f := numQ) hl
      rw [p2, q2]
      cases hx : txX (t.drop 47)
      · rw [if_pos rfl, if_pos rfl]
      · have e1 : ¬ (true = false) := by decide
        rw [if_neg e1, if_neg e1]
        have hs : ∃ d a, txT (t.drop 47) 4 = some (d, a) := by
          unfold txX at hx
          rcases ht : txT (t.drop 47) 4 with _ | ⟨d, a⟩
          · rw [ht] at hx; cases hx
          · exact ⟨d, a, rfl⟩
        obtain ⟨d, a', ht⟩ := hs
        rw [p1 d a' ht, q1 d a' ht, check_PQ]
        by_cases hc : checkR (rdD numQ t d) = 0
        · have e2 : ¬ (checkR (rdD numQ t d) ≠ 0) := by simpa using hc
          rw [if_neg e2, if_neg e2, rdD_PQ (by rw [check_PQ]; exact hc)]
        · rw [if_pos hc, if_pos hc]
    · have e : ∀ f, decX f t = (noD, false) := fun f => by unfold decX; rw [if_pos (by omega)]
      rw [e, e]

/-! ### What the reference's Get decides -/
theorem getQ_arg {l : List UInt8} {a : Int} (h : a < 0 ∨ (l.length : Int) < a) : getS numQ l a = (noD, 0, 1) := by
  have e : getTextR l a = ([], 0, 1) := by
    have : getR l a 2 = (0, 0, 1) := by rw [getR, if_pos (by omega)]
    rw [getTextR, this, if_pos (by decide)]
  rw [getS_err (by rw [e]; decide), e]
theorem getQ_short {l : List UInt8} {a : Nat} (ha : a ≤ l.length) (h : textAt l a = none) : getS numQ l (a : Int) = (noD, 0, 3) := by
  have e := getTextR_none ha h
  rw [getS_err (by rw [e]; decide), e]
theorem getQ_form {l t : List UInt8} {a c : Nat} (h : textAt l a = some (t, c)) (h2 : t.length < 47 ∨ txX (t.drop 47) = false) : getS numQ l (a : Int) = (noD, 0, 2) := by
  have e := getTextR_some h
  refine getS_form (by rw [e]) ?_
  rw [e]
  show (decX numQ t).2 = false
  by_cases hl : t.length < 47
  · unfold decX; rw [if_pos hl]
  · rw [(decX_rd (by omega)).1]
    rcases h2 with h2 | h2
    · omega
    · exact h2
theorem getQ_check {l t : List UInt8} {a c a' : Nat} {d : DD} (h : textAt l a = some (t, c)) (hl : 47 ≤ t.length) (h2 : txX (t.drop 47) = true) (h3 : txT (t.drop 47) 4 = some (d, a')) (h4 : checkR (rdD numQ t d) ≠ 0) :
    getS numQ l (a : Int) = (noD, 0, checkR (rdD numQ t d)) := by
  have e := getTextR_some h
  obtain ⟨q2, q1⟩ := decX_rd (f := numQ) hl
  have hq := q1 d a' h3
  rw [getS_check (by rw [e]) (by rw [e]; exact q2.trans h2) (by rw [e]; rw [hq]; exact h4), e]
  rw [hq]
theorem getQ_ok {l t : List UInt8} {a c a' : Nat} {d : DD} (h : textAt l a = some (t, c)) (hl : 47 ≤ t.length) (h2 : txX (t.drop 47) = true) (h3 : txT (t.drop 47) 4 = some (d, a')) (h4 : checkR (rdD numQ t d) = 0) :
    getS numQ l (a : Int) = (rdD numQ t d, (c : Int), 0) := by
  have e := getTextR_some h
  obtain ⟨q2, q1⟩ := decX_rd (f := numQ) hl
  have hq := q1 d a' h3
  rw [getS_ok (by rw [e]) (by rw [e]; exact q2.trans h2) (by rw [e]; rw [hq]; exact h4), e]
  rw [hq]
theorem number_lit (b : List UInt8) (a k : Nat) (ai ki : Int) (ha : ai = (a : Int)) (hk : ki = (k : Int)) (h1 : 1 ≤ k) (h8 : k ≤ 8) (hs : a + k ≤ (mk b).size) (hb : (mk b).size ≤ 1000000) (w : World) :
    Calls Tryz.prog 92 #[.string (mk b), .int .i64 ai, .int .i64 ki] w fun e w' => e = .returned (.int .i64 (numQ (cut b a k))) ∧ w = w' := by
  rw [ha, hk]; exact number_any b a k h1 h8 hs hb w
theorem mk_drop {t : List UInt8} (h : 47 ≤ t.length) : (mk t).extract 47 (mk t).size = mk (t.drop 47) := by
  have := mk_cut t 47 (t.length - 47)
  rw [show 47 + (t.length - 47) = (mk t).size by rw [mk_size]; omega] at this
  rw [this]
  unfold cut
  rw [List.take_of_length_le (by rw [List.length_drop]; omega)]
end Go.Proofs.YtlfdmbfbfadifaaGreatDoor.St
