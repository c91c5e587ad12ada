/-
  Walks: WirePieces.
-/
import Derived.Test.YtlfdmbfbfadifaaDoorVf
namespace Go.Proofs.YtlfdmbfbfadifaaDoor
open Go.RowKit

/-- An operation whose guard says yes, without it. -/
theorem wpList_unguard {P : Program} {ops : Array Oper} {rest : List Oper} {o : Oper} {a : Act} {w : World} {Q : Exit → Act → World → Prop} (hw : Region.wanted o (yielded ops a.tmps) = true)
    (h : wpList P ops Q ({ o with guard := none } :: rest) a w) : wpList P ops Q (o :: rest) a w := by
  unfold wpList at h ⊢
  rw [if_pos hw]
  rw [if_pos (by simp [Region.wanted])] at h
  exact h
theorem run_build_none {P : Program} (w : World) (t e : TypeId) (ie : TypeInfo) (hu : P.underlying t = some (.slice e)) (hie : P.info? e = some ie) :
    (Instr.buildSlice t 0 #[]).run P w = .ok (.slice (some ⟨w.heap.size, 0, none⟩) 0 0) (w.alloc (.cells #[] e)) := by
  have h0 : Array.range 0 = #[] := Array.eq_empty_of_size_eq_zero (by simp)
  simp [Instr.buildSlice, run_underlying hu, sizeOf, typeInfo, hie, newRow, Instr.fill, h0]
theorem wpList_build_noneM {ops : Array Oper} {rest : List Oper} {o : Oper} {a : Act} {w : World} {Q : Exit → Act → World → Prop} (hg : o.guard = none) (ho : o.op = .buildSlice 50 0 #[])
    (h : wpList Tryd.prog ops Q rest (a.put o.dst (.slice (some ⟨w.heap.size, 0, none⟩) 0 0)) (w.alloc (.cells #[] 35))) : wpList Tryd.prog ops Q (o :: rest) a w := by
  obtain ⟨i0, hi, hz0, hz1, hz2⟩ := info_parts info_msgZ
  refine wpList_plain hg fun K hK => ?_
  have hrun := run_build_none (P := Tryd.prog) w 50 35 i0 Tryd.underlying50 hi
  unfold Oper.wp execOp
  simp only [ho, Sem.run_bind, List.map_toArray, List.map_nil, hrun, Result.andThen_ok]
  exact hK _ _ h
theorem run_append_zero {P : Program} {w : World} {base : Nat} {e : TypeId} {size : Nat} (t ty : TypeId) (i : TypeInfo) (ht : P.underlying t = some (.slice e)) (hi : P.info? e = some i)
    (v : Value) (n : Nat) (xs : List Value) (hown : w.ownsRow base e size v n xs) (p : Option Addr) (c : Nat) :
    (Builtin.append_ #[t, t] ty #[v, .slice p 0 c]).run P w = .ok v w := by
  rcases hown.2 with ⟨rfl, rfl⟩ | ⟨g, cap, cur, rfl, _, _, hnc, _⟩
  · cases p <;> simp [Builtin.append_, run_underlying ht, sizeOf, typeInfo, hi, Builtin.lenOf, Builtin.firstCells, loadCells, loadCellsFrom]
  · cases p <;> simp [Builtin.append_, run_underlying ht, sizeOf, typeInfo, hi, Builtin.lenOf, Builtin.firstCells, loadCells, loadCellsFrom, hnc, storeCells]
theorem wpList_append_zero {P : Program} {w : World} {ops : Array Oper} {rest : List Oper} {o : Oper} {a : Act} {Q : Exit → Act → World → Prop} (hgd : o.guard = none) (s x : Operand) (t : TypeId)
    (ho : o.op = .call { callee := .builtin .append, args := #[s, x], argTypes := #[t, t] })
    (base : Nat) (e : TypeId) (i : TypeInfo) (size : Nat) (ht : P.underlying t = some (.slice e)) (hi : P.info? e = some i)
    (v : Value) (n : Nat) (xs : List Value) (hs : a.eval s = v) (hown : w.ownsRow base e size v n xs) (p : Option Addr) (c : Nat) (hx : a.eval x = .slice p 0 c)
    (h : wpList P ops Q rest (a.put o.dst v) w) : wpList P ops Q (o :: rest) a w := by
  refine wpList_plain hgd fun K hK => ?_
  have hrun := run_append_zero (P := P) (w := w) t o.type i ht hi v n xs hown p c
  unfold Oper.wp
  simp [execOp, ho, resolve, invoke, builtin, hs, hx, hrun, Result.andThen]
  exact hK _ _ h
theorem flatM_at (L : List MM) (j : Nat) (h : j < L.length * 39) : (flatM L)[j]? = (cellsM (atM L (j / 39)))[j % 39]? := by
  have := flatM_get L (j / 39) (j % 39) (by omega) (by omega)
  rwa [show j / 39 * 39 + j % 39 = j by omega] at this
theorem flatM_len (L : List MM) : (flatM L).length = L.length * 39 := by
  induction L with
  | nil => rfl
  | cons m L ih => rw [flatM, List.flatMap_cons, List.length_append, cellsM_len, List.length_cons, Nat.succ_mul]; rw [flatM] at ih; omega
theorem grown_refl (w : World) (o : Option Nat) : w.grownBy w o := ⟨rfl, rfl, rfl, Nat.le_refl _, fun _ _ _ => rfl⟩
theorem wpList_append_msgs {ops : Array Oper} {rest : List Oper} {o : Oper} {a : Act} {w : World} {Q : Exit → Act → World → Prop} (hgd : o.guard = none) (s x : Operand)
    (ho : o.op = .call { callee := .builtin .append, args := #[s, x], argTypes := #[50, 50] }) (B : Nat) (hB : B ≤ w.heap.size) (u vx : Value) (n : Nat) (xs : List Value) (L : List MM)
    (hs : a.eval s = u) (hown : w.ownsRow B 35 39 u n xs) (hx : a.eval x = vx) (hL : MSRow w vx L) (hn : n + L.length ≤ 100000)
    (h : ∀ u' w', w'.ownsRow B 35 39 u' (n + L.length) (xs ++ flatM L) → w.grownBy w' u.ownBlock → wpList Tryd.prog ops Q rest (a.put o.dst u') w') : wpList Tryd.prog ops Q (o :: rest) a w := by
  obtain ⟨i0, hi, hz0, hz1, hz2⟩ := info_parts info_msgZ
  obtain ⟨⟨p, cap, rfl, hc, hm, hcell⟩, hr⟩ := hL
  by_cases he : L = []
  · subst he
    refine wpList_append_zero hgd s x 50 ho B 35 i0 39 Tryd.underlying50 hi u n xs hs hown p cap hx (h u w ?_ (grown_refl w _))
    have e : flatM [] = [] := rfl
    rw [e, List.append_nil]
    exact hown
  · obtain ⟨b, o', rfl, hb, hcl⟩ := hcell he
    refine wpList_append_own_at w hgd s x 50 ho B 35 i0 (.agg (cellsB noM)) 39 424 Tryd.underlying50 hi hz0 hz1 hz2 rfl (by decide) u n xs hs hown ⟨b, o', none⟩ L.length cap (flatM L) hx (flatM_len L) ?_ ?_ (by unfold maxLen; omega) (by omega) hB (fun v' w' h1 h2 _ _ => h v' w' h1 h2)
    · intro j v hv
      have hj : j < L.length * 39 := by
        have := (List.getElem?_eq_some_iff.1 hv).1
        rwa [flatM_len] at this
      rw [flatM_at L j hj] at hv
      have := hcl (j / 39) (by omega) (j % 39) v hv
      rw [add_at]
      rwa [show o' + j / 39 * 39 + j % 39 = o' + j by omega] at this
    · intro v hv
      obtain ⟨m, hm', hv⟩ := List.mem_flatMap.1 hv
      have := (hr m hm').one
      exact cellsM_one m (cellsB_one m this.1 this.2) v hv
/-- A slice of the call's own whose messages lie in memory. -/
theorem MSRow.of_own {B : Nat} {w : World} {v : Value} {L : List MM} (hown : w.ownsRow B 35 39 v L.length (flatM L)) (hr : ∀ m ∈ L, RowM w m) : MSRow w v L := by
  refine ⟨?_, hr⟩
  obtain ⟨h1, h2⟩ := id hown
  rcases h2 with ⟨rfl, hx⟩ | ⟨g, cap, cur, rfl, hb, hg, hnc, hcm, rest⟩
  · have : L = [] := List.eq_nil_of_length_eq_zero hx
    subst this
    exact (MSRow.nil_ w).1
  · refine ⟨some ⟨g, 0, none⟩, cap, rfl, hnc, hcm, fun _ => ⟨g, 0, rfl, (Array.getElem?_eq_some_iff.1 hg).1, fun k hkl j u hu => ?_⟩⟩
    have hj : j < 39 := by
      have := (List.getElem?_eq_some_iff.1 hu).1
      rwa [cellsM_len] at this
    have := World.ownsRow.cells (w := w) hown rfl (k * 39 + j) u ((flatM_get L k j hkl hj).trans hu)
    rw [add_at] at this
    rw [show 0 + k * 39 + j = 0 + (k * 39 + j) by omega]
    exact this
theorem MSRow.after {W w4 w5 : World} {u v : Value} {L : List MM} {n : Nat} {xs : List Value} (hv : MSRow W v L) (hB : Below W.heap.size W w4) (hown : w4.ownsRow W.heap.size 35 39 u n xs) (hg : w4.grownBy w5 u.ownBlock) : Below W.heap.size W w5 ∧ MSRow w5 v L :=
  have h := hB.trans (below_grown hB.size hown hg)
  ⟨h, hv.below h⟩
theorem both_row {W w6 : World} {u va vb : Value} {A B : List MM} (ha : MSRow W va A) (hb : MSRow W vb B) (hB : Below W.heap.size W w6) (hown : w6.ownsRow W.heap.size 35 39 u (0 + A.length + B.length) ([] ++ flatM A ++ flatM B)) : MSRow w6 u (A ++ B) := by
  refine MSRow.of_own (B := W.heap.size) ?_ (fun m hm => ?_)
  · rw [List.length_append]
    have e : flatM (A ++ B) = flatM A ++ flatM B := by simp [flatM]
    rw [e]
    simpa using hown
  · rcases List.mem_append.1 hm with hm | hm
    · exact (ha.2 m hm).below hB
    · exact (hb.2 m hm).below hB
theorem chain_len {l : List UInt8} {lim : Int} : ∀ (L : List MM) (a c : Nat), Chain l lim L a c → a + 7 * L.length ≤ c
  | [], a, c, h => by have h : a = c := h; simp; omega
  | m :: L, a, c, h => by
    obtain ⟨x, ⟨q, rfl, h1, h2, h3, h4, h5⟩, h6⟩ := h
    have := chain_len L _ _ h6
    rw [List.length_cons]; omega
theorem chain_end {l : List UInt8} {lim : Int} : ∀ (L : List MM) (a c : Nat), a ≤ l.length → Chain l lim L a c → c ≤ l.length
  | [], a, c, ha, h => by have h : a = c := h; omega
  | m :: L, a, c, ha, h => by
    obtain ⟨x, ⟨q, rfl, h1, _⟩, h6⟩ := h
    exact chain_end L _ _ (by omega) h6
theorem splW_len {l : List UInt8} {ms : Int} {L : List MM} {r : List UInt8} (h : splW l ms = (L, r, 0)) : L.length ≤ l.length := by
  unfold splW at h
  obtain ⟨M, c, hM, h1, _, _⟩ := splR_chain _ _ _ _ _ (by omega) h
  rw [List.nil_append] at hM
  subst hM
  have := chain_len _ _ _ h1
  have := chain_end _ _ _ (Nat.zero_le _) h1
  omega

set_option maxRecDepth 100000 in
set_option maxHeartbeats 12800000 in
theorem wirePieces_walk (s : ByteArray) (a ms : Int) (hs : s.size ≤ maxLen) (_ha : inI a) (_hm : inI ms) (w : World) (g : G w) :
    Calls Tryd.prog 12 #[.string s, .int .i64 a, .int .i64 ms] w fun e w' => e = .returned (.bool true) ∧ Below w.heap.size w w' := by
  have hA := Lib.hid (fun W (h : Below w.heap.size w W) => alive_any W (g.below h))
  unfold maxLen at hs
  by_cases hbig : 20000 < s.size
  · go_enter Tryd.func12, Tryd.ntmps12
    go_wp2_with fail
    refine (hA.out _ (Below.refl _ w)).mono ?_
    rintro e W2 ⟨rfl, hB2⟩
    go_wp2
    go_ret
    exact ⟨rfl, hB2⟩
  have d0 : decide ((20000 : Int) < (s.size : Int)) = false := decide_eq_false (by omega)
  by_cases h1 : a < 0
  · have d1 : decide (a < 0) = true := decide_eq_true h1
    go_enter Tryd.func12, Tryd.ntmps12
    go_wp2_with fail
    refine (hA.out _ (Below.refl _ w)).mono ?_
    rintro e W2 ⟨rfl, hB2⟩
    go_wp2
    go_ret
    exact ⟨rfl, hB2⟩
  have d1 : decide (a < 0) = false := decide_eq_false h1
  by_cases h2 : (s.size : Int) < a
  · have d2 : decide ((s.size : Int) < a) = true := decide_eq_true h2
    go_enter Tryd.func12, Tryd.ntmps12
    go_wp2_with fail
    refine (hA.out _ (Below.refl _ w)).mono ?_
    rintro e W2 ⟨rfl, hB2⟩
    go_wp2
    go_ret
    exact ⟨rfl, hB2⟩
  have d2 : decide ((s.size : Int) < a) = false := decide_eq_false h2
  obtain ⟨t, rfl⟩ := Int.eq_ofNat_of_zero_le (show 0 ≤ a by omega)
  obtain ⟨l, rfl⟩ : ∃ l, s = mk l := ⟨_, (mk_of s).symm⟩
  have hsz := mk_size l
  have hP1 := Lib.hid (Split_any l ms (by omega) w g)
  rcases hsp : splW l ms with ⟨L, r, er⟩
  unfold SplPost at hP1
  rw [hsp] at hP1
  replace hsz := Lib.hid hsz
  by_cases he : er = 0
  case neg =>
    have hne : (er != 0) = true := by simpa using he
    clear g hsp
    go_enter Tryd.func12, Tryd.ntmps12
    go_wp2_with fail
    refine hP1.out.mono ?_
    rintro e W1 ⟨v, L', rfl, -, -, hB1⟩
    have HB1 := Lib.hid hB1
    clear hB1
    go_wp2_with fail
    refine (hA.out _ HB1.out).mono ?_
    rintro e W2 ⟨rfl, hB2⟩
    have HB2 := Lib.hid (HB1.out.trans (hB2.mono HB1.out.size))
    clear hB2
    go_wp2
    go_ret
    exact ⟨rfl, HB2.out⟩
  case pos =>
    subst he
    have htl : t ≤ l.length := by have := hsz.out; omega
    obtain ⟨A, left, B, q1, q2, rfl, ll, lr⟩ := splW_pieces htl hsp
    have nA := splW_len q1
    have nB := splW_len q2
    have nL := splW_len hsp
    have hP2 := Lib.hid (fun W (h : Below w.heap.size w W) => Split_any (l.take t) ms (by rw [mk_size, List.length_take]; have := hsz.out; omega) W (g.below h))
    have hP3 := Lib.hid (fun W (h : Below w.heap.size w W) => Split_any (left ++ l.drop t) ms (by rw [mk_size]; have := hsz.out; omega) W (g.below h))
    unfold SplPost at hP2 hP3
    rw [q1] at hP2
    rw [q2] at hP3
    have e1 : mk (l.take t) = (mk l).extract 0 t := by
      have := mk_slice l 0 t
      rw [Nat.zero_add] at this
      rw [this]; unfold cut; simp
    have e2 : mk (left ++ l.drop t) = mk left ++ (mk l).extract t (mk l).size := by rw [mk_tail l t htl, mk_app]
    rw [e1] at hP2
    rw [e2] at hP3
    have z1 : (mk left).size ≤ 100000 := by rw [mk_size]; have := hsz.out; omega
    have z2 : ((mk l).extract t (mk l).size).size ≤ 100000 := by rw [mk_tail l t htl, mk_size, List.length_drop]; have := hsz.out; omega
    have nA' : A.length ≤ 20000 := by rw [List.length_take] at nA; have := hsz.out; omega
    have nB' : B.length ≤ 20000 := by have := hsz.out; omega
    have t1 : t ≤ (mk l).size := by have := hsz.out; omega
    have er : ((mk r).toList == (mk r).toList) = true := by simp
    clear g hsp q1 q2 e1 e2 ll lr nA nB nL htl
    generalize mk left = X at *
    generalize mk r = R at *
    go_enter Tryd.func12, Tryd.ntmps12
    go_wp2_with fail
    refine hP1.out.mono ?_
    rintro e W1 ⟨v, L', rfl, hL, eL, hB1⟩
    have HB1 := Lib.hid hB1
    clear hB1
    go_wp2_with fail
    refine (hP2.out _ HB1.out).mono ?_
    rintro e W2 ⟨va, A', rfl, hLa, eA, hB2⟩
    have HB2 := Lib.hid (HB1.out.trans (hB2.mono HB1.out.size))
    have hL2 := hL.below hB2
    clear hB2 hL
    go_wp2_with fail
    refine (hP3.out _ HB2.out).mono ?_
    rintro e W3 ⟨vb, B', rfl, hLb, eB, hB3⟩
    have HB3 := Lib.hid (HB2.out.trans (hB3.mono HB2.out.size))
    have HL3 := Lib.hid (hL2.below hB3)
    have HA3 := Lib.hid (hLa.below hB3)
    have HV3 := Lib.hid hLb
    have hs' : Hid ((A' ++ B').map strip = L'.map strip) := Lib.hid (by rw [List.map_append, eA, eB, eL])
    have lA : A'.length ≤ 20000 := by have := congrArg List.length eA; simp at this; omega
    have lB : B'.length ≤ 20000 := by have := congrArg List.length eB; simp at this; omega
    clear hB3 hL2 hLa hLb eA eB eL
    obtain ⟨W4, hW4⟩ : ∃ W4, W3.alloc (.cells #[] 35) = W4 := ⟨_, rfl⟩
    have HB4 : Hid (Below W3.heap.size W3 W4) := Lib.hid (by rw [← hW4]; exact (Below.refl _ W3).alloc (Nat.le_refl _) _)
    have HO4 : Hid (W4.ownsRow W3.heap.size 35 39 (.slice (some ⟨W3.heap.size, 0, none⟩) 0 0) 0 []) := Lib.hid (by rw [← hW4]; exact World.ownsRow_lit W3 #[] 0 (Nat.le_refl _) (Nat.zero_le _) rfl)
    have HA4 := Lib.hid (HA3.out.below HB4.out)
    replace hW4 := Lib.hid hW4
    go_wp2_with (first
      | (refine wpList_unguard rfl ?_; refine wpList_build_noneM rfl rfl ?_; rw [hW4.out])
      | (at_builtin; refine wpList_unguard rfl ?_; refine wpList_append_msgs rfl (.tmp 72) (.tmp 73) rfl W3.heap.size HB4.out.size _ _ 0 [] A' rfl HO4.out rfl HA4.out (by omega) ?_; intro u5 w5 ho5 hg5; have HB5 := Lib.hid (MSRow.after HV3.out HB4.out HO4.out hg5); have HO5 := Lib.hid ho5; clear ho5 hg5)
      | (at_builtin; refine wpList_unguard rfl ?_; refine wpList_append_msgs rfl (.tmp 74) (.tmp 75) rfl W3.heap.size HB5.out.1.size _ _ _ _ B' rfl HO5.out rfl HB5.out.2 (by omega) ?_; intro u6 w6 ho6 hg6; have HB6 := Lib.hid (MSRow.after HL3.out HB5.out.1 HO5.out hg6); have HR6 := Lib.hid (both_row HA3.out HV3.out HB6.out.1 ho6); clear ho6 hg6))
    refine (same_any _ _ _ _ _ HR6.out HB6.out.2 hs'.out).mono ?_
    rintro e W7 ⟨rfl, hB7⟩
    have HB7 := Lib.hid (HB3.out.trans ((HB6.out.1.mono (Nat.le_refl _)).trans (hB7.mono HB6.out.1.size) |>.mono HB3.out.size))
    clear hB7
    go_wp2_with fail
    refine (hA.out _ HB7.out).mono ?_
    rintro e W8 ⟨rfl, hB8⟩
    have HB8 := Lib.hid (HB7.out.trans (hB8.mono HB7.out.size))
    clear hB8
    go_wp2
    go_ret
    exact ⟨rfl, HB8.out⟩
end Go.Proofs.YtlfdmbfbfadifaaDoor
