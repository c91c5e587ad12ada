/-
  The reference's reader: names.
  The reference's reader: qids.
-/
import Derived.Test.YtlfdmbfbfadifaaGreatDoorVp
namespace Go.Proofs.YtlfdmbfbfadifaaGreatDoor
open Go.RowKit

/-- What stands in blocks below the row's base is kept. -/
theorem RSt.go4 {w W W' : World} {x : XS} {m : MM} (h : RSt w W x m) (hB : Below (w.heap.size + 4) W W') : RSt w W' x m :=
  ⟨h.base.trans (hB.mono (by omega)), (hB.block _ (by omega)).trans h.inB, (hB.block _ (by omega)).trans h.msB, (hB.block _ (by omega)).trans h.inR, (hB.block _ (by omega)).trans h.msR⟩
theorem qN2_lt (x : XS) : (qN x 2).1 < 65536 := by
  unfold qN
  split
  · decide
  · exact getR2_lt x.S 0
theorem qT_len (x : XS) : (qT x).2.S.length ≤ x.S.length := by
  unfold qT
  split
  · exact Nat.zero_le _
  · show (List.drop _ x.S).length ≤ _; rw [List.length_drop]; omega
theorem qQ_len (x : XS) : (qQ x).2.S.length ≤ x.S.length := Nat.le_trans (qN_len _ 8) (Nat.le_trans (qN_len _ 4) (qN_len x 1))
theorem own_form {B : Nat} {w : World} {e : TypeId} {sz k : Nat} {v : Value} {xs : List Value} (h : w.ownsRow B e sz v (k + 1) xs) : ∃ p cap, v = .slice p (k + 1) cap := by
  obtain ⟨_, h2⟩ := h
  rcases h2 with ⟨_, hx⟩ | ⟨g, cap, cur, rfl, _⟩
  · omega
  · exact ⟨_, cap, rfl⟩
theorem RowA.fin {w W : World} {m : MM} {c1 c2 : Array Value} (h : RowA (w.heap.size + 4) W m) : RowA (w.heap.size + 4) ((W.drew.setRow (w.heap.size + 1 + 1) c1).setRow (w.heap.size + 1 + 1 + 1) c2) m :=
  h.to (by rw [setRow_size, setRow_size]; exact Nat.le_refl _) (fun j hj _ => (setRow_ne (by omega)).trans (setRow_ne (by omega)))
/-- The state of the loop. -/
def NL (w W : World) (x : XS) (m : MM) (v : Value) (acc : List (List UInt8)) : Prop := RSt w W x { m with nv := v } ∧ NOwn (w.heap.size + 4) W v acc
theorem NL.go {w W W' : World} {x : XS} {m : MM} {v : Value} {acc : List (List UInt8)} (h : NL w W x m v acc) (hB : Below W.heap.size W W') : NL w W' x m v acc :=
  ⟨h.1.go hB, h.2.keep (fun j _ hl => hB.block j hl)⟩
theorem NL.setI {w W : World} {x : XS} {m : MM} {v : Value} {acc : List (List UInt8)} (h : NL w W x m v acc) (y : XS) : NL w (W.setRow w.heap.size (cellsI y)) y m v acc :=
  ⟨h.1.setI y, h.2.keep (fun j hj _ => setRow_ne (by omega))⟩
theorem NL.more {w W W5 : World} {x : XS} {m : MM} {v v' : Value} {acc acc' : List (List UInt8)} (h : NL w W x m v acc) (hB : Below (w.heap.size + 4) W W5) (h2 : NOwn (w.heap.size + 4) W5 v' acc') : NL w (W5.setCell ⟨w.heap.size + 1, 10, none⟩ v') x m v' acc' :=
  ⟨(h.1.go4 hB).setM (setB_8 { m with nv := v } v'), h2.keep (fun j hj _ => Below.heap_setCell _ _ _ _ (by show _ ≠ w.heap.size + 1; omega))⟩
theorem NL.rowA {w W : World} {x : XS} {m : MM} {v : Value} {acc : List (List UInt8)} (h : NL w W x m v acc) (hfr : Fresh m) : RowA (w.heap.size + 4) W { m with nv := v, nl := acc } :=
  ⟨h.2.rowA, (fresh_row W hfr).2⟩
theorem qNs_stop {n : Nat} {acc : List (List UInt8)} {x : XS} (h : n = 0 ∨ x.bad = true) : qNs n acc x = (acc, x) := by
  cases n with
  | zero => rfl
  | succ n =>
    rw [qNs, if_neg]
    rcases h with h | h
    · cases h
    · rw [h]; decide
theorem qNs_next {n : Nat} {acc : List (List UInt8)} {x : XS} (h : 0 < n) (hb : x.bad = false) : qNs n acc x = qNs (n - 1) (acc ++ [(qT x).1]) (qT x).2 := by
  obtain ⟨k, rfl⟩ : ∃ k, n = k + 1 := ⟨n - 1, by omega⟩
  rw [qNs, if_pos hb]
  rfl
theorem NOwn.form_ {B : Nat} {w : World} {v : Value} {acc : List (List UInt8)} (h : NOwn B w v acc) : ∃ p cap, v = .slice p acc.length cap := by
  obtain ⟨_, h2⟩ := h
  rcases h2 with ⟨rfl, hx⟩ | ⟨g, cap, cur, rfl, _⟩
  · exact ⟨none, 0, by rw [hx]⟩
  · exact ⟨_, cap, rfl⟩
set_option maxHeartbeats 12800000 in
set_option maxRecDepth 100000 in
theorem rl_8 (m : MM) (x : XS) (hs : x.S.length ≤ 1000000) (hfr : Fresh m) (w : World) :
    Calls Tryz.prog 54 #[inV x, msgV m, .int .i64 12] w fun e w' => ∃ v, e = .returned (.tuple #[inV (qNames x).2, msgV { m with nv := v, nl := (qNames x).1 }]) ∧ RowA (w.heap.size + 4) w' { m with nv := v, nl := (qNames x).1 } ∧ Below w.heap.size w w' := by
  have l1 := qN_len x 2
  have hn6 := qN2_lt x
  obtain ⟨n, hn⟩ := Int.eq_ofNat_of_zero_le (qN_nn x 2).1
  rw [hn] at hn6
  have HN := fun W => Xnum x 2 2 rfl hs W
  rw [hn] at HN
  replace HN := Lib.hid HN
  have hR0 : Hid (qNames x = qNs n [] (qN x 2).2) := Lib.hid (by unfold qNames; rw [hn]; rfl)
  have hl1 : (qN x 2).2.S.length ≤ 1000000 := by omega
  have hz := zero_in
  have hzm := zero_msgW
  obtain ⟨W0, hW0, hS0⟩ := RSt.new w x m
  generalize qNames x = res at *
  generalize (qN x 2).2 = x1 at *
  clear hn l1
  replace hW0 := Lib.hid hW0
  replace hS0 := Lib.hid hS0
  have hmn : Hid ({ m with nv := nilS } = m) := Lib.hid (by obtain ⟨e1, e2, _, _⟩ := hfr; cases m; dsimp only at e1 e2; subst e1 e2; rfl)
  obtain ⟨i0, hi, hz0, hz1, hz2⟩ := info_parts info_strY
  have hcM : Hid (∀ v : Value, (cellsB { m with nv := v })[10]? = some v) := Lib.hid fun _ => rfl
  unfold inV
  obtain ⟨mv, hmv⟩ : ∃ a, msgV m = .agg a := ⟨_, rfl⟩
  unfold msgV at hmv ⊢
  clear hmv mv
  go_enter Tryz.func54, Tryz.ntmps54
  go_wp2_with (first
    | (simp only [hz.out, hzm.out, hW0.out])
    | (refine wpList_load_row rfl 66 _ rfl w.heap.size rfl 66 (cellsI x) (0, 0) _ hS0.out.inB Tryz.underlying66 rfl (info_inC x) ?_))
  refine (HN.out _).mono ?_
  rintro e W1 ⟨rfl, hB1⟩
  have hS1 := Lib.hid (hS0.out.go hB1)
  clear hB1
  obtain ⟨W2, hW2, hs2⟩ : ∃ W2, W1.setRow w.heap.size (cellsI x1) = W2 ∧ RSt w W2 x1 m := ⟨_, rfl, hS1.out.setI x1⟩
  have hN2 : Hid (NL w W2 x1 m nilS []) := Lib.hid ⟨by rw [hmn.out]; exact hs2, NOwn.nil_ _ _⟩
  replace hW2 := Lib.hid hW2
  clear hs2
  unfold inV
  go_wp2_with (refine wpList_store_row rfl 66 _ _ rfl w.heap.size (cellsI x1) rfl rfl 66 (cellsI x) hS1.out.inB (info_inC x1) rfl (oneI x1) ?_; rw [hW2.out])
  go_loopw [13] (fun vi wr => ∃ (i : Nat) (acc : List (List UInt8)) (v : Value) (xi : XS), vi = .int .i64 (i : Int) ∧ i ≤ n ∧ acc.length = i ∧ xi.S.length ≤ 1000000 ∧ Hid (res = qNs (n - i) acc xi) ∧ Hid (NL w wr xi m v acc)) (fun vi _ => n - (intOf vi).toNat)
  case atStart => exact ⟨0, [], nilS, x1, rfl, by omega, rfl, hl1, hR0, hN2⟩
  case round =>
    obtain ⟨i, acc, v, xi, rfl, hi1, hlen, hlx, hr, hS⟩ := hrel
    have hal : acc.length < 65536 := by omega
    replace hlen := Lib.hid hlen
    by_cases hlt : i < n
    · have hd : decide ((i : Int) < (n : Int)) = true := by simpa using hlt
      by_cases hbad : xi.bad = true
      · have c1 := (Lib.cell_of_heap hS.out.1.inB 1).trans (show _ = some (.bool true) from by rw [← hbad]; rfl)
        have hres := Lib.hid (hr.out.trans (qNs_stop (.inr hbad)))
        clear hr hbad
        have hrow := Lib.hid ((hS.out.rowA hfr).fin (c1 := cellsI xi) (c2 := cellsB { m with nv := v }))
        have hone := Lib.hid (cellsB_one { m with nv := v } (hS.out.rowA hfr).row.one.1 (hS.out.rowA hfr).row.one.2)
        have hS4 := Lib.hid hS.out.1.drew
        obtain ⟨mm, hmm⟩ : ∃ mm, { m with nv := v } = mm := ⟨_, rfl⟩
        have hfull : Hid (cellsB { m with nv := v, nl := acc } = cellsB mm) := Lib.hid (by rw [← hmm]; rfl)
        rw [hmm] at hrow hone hS4
        replace hmm := Lib.hid hmm
        go_wp2
        refine wp_region_held_drew (S := fun W => RSx w W xi mm) (by kernel_rfl) hS4.out.x (fun hHeld => ?_)
        refine takeD (i := 0) (oi := _) (d := some 157) (v := .agg (cellsI xi)) rfl rfl (by kernel_rfl) (by kernel_rfl) (by kernel_rfl) (fun _ _ _ h => h) (yieldsIf_load_row (by rfl) 66 _ rfl w.heap.size rfl (cellsI xi) (fun W h => load_In h.inB)) (by assumption) ?_
        try simp only [Act.put, List.setIfInBounds_toArray, List.set_cons_zero, List.set_cons_succ]
        refine takeD (i := 1) (oi := _) (d := some 158) (v := .agg (cellsB mm)) rfl rfl (by kernel_rfl) (by kernel_rfl) (by kernel_rfl) (fun _ _ _ h => h) (yieldsIf_load_row (by rfl) 30 _ rfl (w.heap.size + 1) rfl (cellsB mm) (fun W h => load_msg h.msB)) (by assumption) ?_
        try simp only [Act.put, List.setIfInBounds_toArray, List.set_cons_zero, List.set_cons_succ]
        obtain ⟨f1, f2, f3, f4, f5⟩ := hS4.out.fin
        refine wpAnyH_ready (rs := [2]) (by kernel_rfl) (by simp) ?_
        refine AllReadyH.cons (o := _) rfl (fun K hK => ?_) AllReadyH.nil
        rw [if_pos (by rfl)]
        refine wp_store_row 66 _ _ rfl (w.heap.size + 1 + 1) (cellsI xi) rfl rfl 66 (cellsI zeroX) f1 (info_inC xi) rfl (oneI xi) ?_
        refine hK.out _ _ (RSx.set (by assumption) (by omega) _) (fun hHeld2 => ?_)
        clear hK K
        try simp only [Act.put, List.setIfInBounds_toArray]
        refine wpAnyH_ready (rs := [3]) (by kernel_rfl) (by simp) ?_
        refine AllReadyH.cons (o := _) rfl (fun K hK => ?_) AllReadyH.nil
        rw [if_pos (by rfl)]
        refine wp_store_row 30 _ _ rfl (w.heap.size + 1 + 1 + 1) (cellsB mm) rfl rfl 30 (cellsB noM) f2 (info_msgC mm) rfl hone.out ?_
        refine hK.out _ _ (RSx.set hHeld2 (by omega) _) (fun hHeld3 => ?_)
        clear hK K
        try simp only [Act.put]
        refine wpAnyH_done (by kernel_rfl) ?_ _
        rename_i hKr
        refine hKr _ _ (wp_ret ?_)
        refine bodyPost_ret (results_IM rfl rfl rfl f3 f4) rfl ⟨v, ?_, ?_, f5⟩
        · rw [hres.out]; unfold msgV; rw [hfull.out]; rfl
        · rw [hres.out]; exact hrow.out
      · have hbf : xi.bad = false := by simpa using hbad
        have c1 := (Lib.cell_of_heap hS.out.1.inB 1).trans (show _ = some (.bool false) from by rw [← hbf]; rfl)
        have hr2 := Lib.hid (hr.out.trans (qNs_next (by omega) hbf))
        have HT := Lib.hid (fun W => Xtext xi hlx W)
        have hly : (qT xi).2.S.length ≤ 1000000 := Nat.le_trans (qT_len xi) hlx
        clear hr hbad hbf
        generalize (qT xi).2 = y at *
        generalize (qT xi).1 = tx at *
        unfold inV at HT
        go_wp2_with (refine wpList_load_row rfl 66 _ rfl w.heap.size rfl 66 (cellsI xi) (0, 0) _ hS.out.1.inB Tryz.underlying66 rfl (info_inC xi) ?_)
        refine (HT.out _).mono ?_
        rintro e W3 ⟨rfl, hB3⟩
        obtain ⟨V3, hV3, HV3, hG3⟩ : ∃ V, W3.alloc (.cells (cellsI y) 66) = V ∧ BlkI V W3.heap.size y ∧ NL w V xi m v acc := ⟨_, rfl, BlkI.new _ _, (hS.out.go hB3).go ((Below.refl _ W3).alloc (Nat.le_refl _) _)⟩
        obtain ⟨W4, hW4, hs4⟩ : ∃ W4, V3.setRow w.heap.size (cellsI y) = W4 ∧ NL w W4 y m v acc := ⟨_, rfl, hG3.setI y⟩
        replace hV3 := Lib.hid hV3
        replace HV3 := Lib.hid HV3
        have hInB := Lib.hid hG3.1.inB
        replace hW4 := Lib.hid hW4
        have hO4 := hs4.2
        have c10 := (hs4.1.msB.cell 10).trans (hcM.out v)
        obtain ⟨p, cap, rfl⟩ := hO4.form_
        have hle : w.heap.size + 4 ≤ W4.heap.size := hs4.1.msR.lt
        have hS4' := Lib.hid hs4
        have HO : Hid ((W4.alloc (.cells #[.string (mk tx)] 9)).ownsRow (w.heap.size + 4) 9 1 (.slice p acc.length cap) acc.length (acc.map strV)) := Lib.hid (World.ownsRow.alloc hO4 _)
        have Hle : Hid (w.heap.size + 4 ≤ (W4.alloc (.cells #[.string (mk tx)] 9)).heap.size) := Lib.hid (by simp; omega)
        have hB45 : Hid (Below (w.heap.size + 4) W4 (W4.alloc (.cells #[.string (mk tx)] 9))) := Lib.hid ((Below.refl _ W4).alloc hle _)
        clear hs4 hO4 hle hB3 hG3
        go_upto_region 14 with (first
          | (simp only [hz.out])
          | (refine wpList_store_row rfl 66 _ _ rfl W3.heap.size (cellsI y) rfl rfl 66 (cellsI zeroX) (heap_alloc_new W3 _) (info_inC y) rfl (oneI y) ?_; rw [World.setRow_alloc_new, hV3.out]))
        go_upto_region 15 with (first
          | (refine wpList_load_row rfl 66 _ rfl W3.heap.size rfl 66 (cellsI y) (0, 0) _ HV3.out Tryz.underlying66 rfl (info_inC y) ?_)
          | (refine wpList_store_row rfl 66 _ _ rfl w.heap.size (cellsI y) rfl rfl 66 (cellsI xi) hInB.out (info_inC y) rfl (oneI y) ?_; rw [hW4.out]))
        try simp only [Act.put, List.setIfInBounds_toArray, List.set_cons_zero, List.set_cons_succ]
        go_wp2_with (first
          | (at_builtin; refine wpList_append_own_at _ rfl (.tmp 73) (.tmp 75) 22 rfl (w.heap.size + 4) 9 i0 (.string ⟨#[]⟩) 1 16 Tryz.underlying22 hi hz0 hz1 hz2 rfl (by decide) _ _ _ rfl HO.out ⟨W4.heap.size, 0, none⟩ 1 1 [.string (mk tx)] rfl rfl (new_one _ _ _) (by simp [Value.oneCell']) (by unfold maxLen; omega) (by omega) Hle.out ?_; intro v' w5 hown hgrow _ _; obtain ⟨p5, cap5, rfl⟩ := own_form hown; have hB5 := Lib.hid (hB45.out.trans (below_grown Hle.out HO.out hgrow)); have z1 := ((hS4'.out.1.go4 hB5.out).msB.cell 10).trans (hcM.out _); have z0 := (hS4'.out.1.go4 hB5.out).msB.frozen 10; have hO5 := Lib.hid (NOwn.snoc hown); clear hown hgrow))
        have hN5 := Lib.hid (hS4'.out.more hB5.out hO5.out)
        exact ⟨⟨i + 1, acc ++ [tx], _, y, by go_num, by omega, by simp [hlen.out], hly, Lib.hid (by rw [hr2.out]; congr 1), hN5⟩, by simp [intOf]; omega⟩
    · have hd : decide ((i : Int) < (n : Int)) = false := by simpa using hlt
      have hres := Lib.hid (hr.out.trans (qNs_stop (.inl (by omega))))
      clear hr
      have hrow := Lib.hid ((hS.out.rowA hfr).fin (c1 := cellsI xi) (c2 := cellsB { m with nv := v }))
      have hone := Lib.hid (cellsB_one { m with nv := v } (hS.out.rowA hfr).row.one.1 (hS.out.rowA hfr).row.one.2)
      have hS4 := Lib.hid hS.out.1.drew
      obtain ⟨mm, hmm⟩ : ∃ mm, { m with nv := v } = mm := ⟨_, rfl⟩
      have hfull : Hid (cellsB { m with nv := v, nl := acc } = cellsB mm) := Lib.hid (by rw [← hmm]; rfl)
      rw [hmm] at hrow hone hS4
      replace hmm := Lib.hid hmm
      go_wp2
      refine wp_region_held_drew (S := fun W => RSx w W xi mm) (by kernel_rfl) hS4.out.x (fun hHeld => ?_)
      refine takeD (i := 0) (oi := _) (d := some 157) (v := .agg (cellsI xi)) rfl rfl (by kernel_rfl) (by kernel_rfl) (by kernel_rfl) (fun _ _ _ h => h) (yieldsIf_load_row (by rfl) 66 _ rfl w.heap.size rfl (cellsI xi) (fun W h => load_In h.inB)) (by assumption) ?_
      try simp only [Act.put, List.setIfInBounds_toArray, List.set_cons_zero, List.set_cons_succ]
      refine takeD (i := 1) (oi := _) (d := some 158) (v := .agg (cellsB mm)) rfl rfl (by kernel_rfl) (by kernel_rfl) (by kernel_rfl) (fun _ _ _ h => h) (yieldsIf_load_row (by rfl) 30 _ rfl (w.heap.size + 1) rfl (cellsB mm) (fun W h => load_msg h.msB)) (by assumption) ?_
      try simp only [Act.put, List.setIfInBounds_toArray, List.set_cons_zero, List.set_cons_succ]
      obtain ⟨f1, f2, f3, f4, f5⟩ := hS4.out.fin
      refine wpAnyH_ready (rs := [2]) (by kernel_rfl) (by simp) ?_
      refine AllReadyH.cons (o := _) rfl (fun K hK => ?_) AllReadyH.nil
      rw [if_pos (by rfl)]
      refine wp_store_row 66 _ _ rfl (w.heap.size + 1 + 1) (cellsI xi) rfl rfl 66 (cellsI zeroX) f1 (info_inC xi) rfl (oneI xi) ?_
      refine hK.out _ _ (RSx.set (by assumption) (by omega) _) (fun hHeld2 => ?_)
      clear hK K
      try simp only [Act.put, List.setIfInBounds_toArray]
      refine wpAnyH_ready (rs := [3]) (by kernel_rfl) (by simp) ?_
      refine AllReadyH.cons (o := _) rfl (fun K hK => ?_) AllReadyH.nil
      rw [if_pos (by rfl)]
      refine wp_store_row 30 _ _ rfl (w.heap.size + 1 + 1 + 1) (cellsB mm) rfl rfl 30 (cellsB noM) f2 (info_msgC mm) rfl hone.out ?_
      refine hK.out _ _ (RSx.set hHeld2 (by omega) _) (fun hHeld3 => ?_)
      clear hK K
      try simp only [Act.put]
      refine wpAnyH_done (by kernel_rfl) ?_ _
      rename_i hKr
      refine hKr _ _ (wp_ret ?_)
      refine bodyPost_ret (results_IM rfl rfl rfl f3 f4) rfl ⟨v, ?_, ?_, f5⟩
      · rw [hres.out]; unfold msgV; rw [hfull.out]; rfl
      · rw [hres.out]; exact hrow.out
end Go.Proofs.YtlfdmbfbfadifaaGreatDoor

namespace Go.Proofs.YtlfdmbfbfadifaaGreatDoor
open Go.RowKit

/-- The state of the loop. -/
def QL (w W : World) (x : XS) (m : MM) (v : Value) (acc : List QQ) : Prop := RSt w W x { m with qv := v } ∧ QOwn (w.heap.size + 4) W v acc
theorem QL.go {w W W' : World} {x : XS} {m : MM} {v : Value} {acc : List QQ} (h : QL w W x m v acc) (hB : Below W.heap.size W W') : QL w W' x m v acc :=
  ⟨h.1.go hB, h.2.keep (fun j _ hl => hB.block j hl)⟩
theorem QL.setI {w W : World} {x : XS} {m : MM} {v : Value} {acc : List QQ} (h : QL w W x m v acc) (y : XS) : QL w (W.setRow w.heap.size (cellsI y)) y m v acc :=
  ⟨h.1.setI y, h.2.keep (fun j hj _ => setRow_ne (by omega))⟩
theorem QL.more {w W W5 : World} {x : XS} {m : MM} {v v' : Value} {acc acc' : List QQ} (h : QL w W x m v acc) (hB : Below (w.heap.size + 4) W W5) (h2 : QOwn (w.heap.size + 4) W5 v' acc') : QL w (W5.setCell ⟨w.heap.size + 1, 11, none⟩ v') x m v' acc' :=
  ⟨(h.1.go4 hB).setM (setB_9 { m with qv := v } v'), h2.keep (fun j hj _ => Below.heap_setCell _ _ _ _ (by show _ ≠ w.heap.size + 1; omega))⟩
theorem QL.rowA {w W : World} {x : XS} {m : MM} {v : Value} {acc : List QQ} (h : QL w W x m v acc) (hfr : Fresh m) : RowA (w.heap.size + 4) W { m with qv := v, ql := acc } :=
  ⟨(fresh_row W hfr).1, h.2.rowA⟩
theorem qQs_stop {n : Nat} {acc : List QQ} {x : XS} (h : n = 0 ∨ x.bad = true) : qQs n acc x = (acc, x) := by
  cases n with
  | zero => rfl
  | succ n =>
    rw [qQs, if_neg]
    rcases h with h | h
    · cases h
    · rw [h]; decide
theorem qQs_next {n : Nat} {acc : List QQ} {x : XS} (h : 0 < n) (hb : x.bad = false) : qQs n acc x = qQs (n - 1) (acc ++ [(qQ x).1]) (qQ x).2 := by
  obtain ⟨k, rfl⟩ : ∃ k, n = k + 1 := ⟨n - 1, by omega⟩
  rw [qQs, if_pos hb]
  rfl
theorem QOwn.form_ {B : Nat} {w : World} {v : Value} {acc : List QQ} (h : QOwn B w v acc) : ∃ p cap, v = .slice p acc.length cap := by
  obtain ⟨_, h2⟩ := h
  rcases h2 with ⟨rfl, hx⟩ | ⟨g, cap, cur, rfl, _⟩
  · exact ⟨none, 0, by rw [hx]⟩
  · exact ⟨_, cap, rfl⟩
set_option maxHeartbeats 12800000 in
set_option maxRecDepth 100000 in
theorem rl_9 (m : MM) (x : XS) (hs : x.S.length ≤ 1000000) (hfr : Fresh m) (w : World) :
    Calls Tryz.prog 54 #[inV x, msgV m, .int .i64 13] w fun e w' => ∃ v, e = .returned (.tuple #[inV (qQids x).2, msgV { m with qv := v, ql := (qQids x).1 }]) ∧ RowA (w.heap.size + 4) w' { m with qv := v, ql := (qQids x).1 } ∧ Below w.heap.size w w' := by
  have l1 := qN_len x 2
  have hn6 := qN2_lt x
  obtain ⟨n, hn⟩ := Int.eq_ofNat_of_zero_le (qN_nn x 2).1
  rw [hn] at hn6
  have HN := fun W => Xnum x 2 2 rfl hs W
  rw [hn] at HN
  replace HN := Lib.hid HN
  have hR0 : Hid (qQids x = qQs n [] (qN x 2).2) := Lib.hid (by unfold qQids; rw [hn]; rfl)
  have hl1 : (qN x 2).2.S.length ≤ 1000000 := by omega
  have hz := zero_in
  have hzm := zero_msgW
  obtain ⟨W0, hW0, hS0⟩ := RSt.new w x m
  generalize qQids x = res at *
  generalize (qN x 2).2 = x1 at *
  clear hn l1
  replace hW0 := Lib.hid hW0
  replace hS0 := Lib.hid hS0
  have hmn : Hid ({ m with qv := nilS } = m) := Lib.hid (by obtain ⟨e1, e2, _, _⟩ := hfr; cases m; dsimp only at e1 e2; subst e1 e2; rfl)
  obtain ⟨i0, hi, hz0, hz1, hz2⟩ := info_parts info_qidY
  have hcM : Hid (∀ v : Value, (cellsB { m with qv := v })[11]? = some v) := Lib.hid fun _ => rfl
  unfold inV
  obtain ⟨mv, hmv⟩ : ∃ a, msgV m = .agg a := ⟨_, rfl⟩
  unfold msgV at hmv ⊢
  clear hmv mv
  go_enter Tryz.func54, Tryz.ntmps54
  go_wp2_with (first
    | (simp only [hz.out, hzm.out, hW0.out])
    | (refine wpList_load_row rfl 66 _ rfl w.heap.size rfl 66 (cellsI x) (0, 0) _ hS0.out.inB Tryz.underlying66 rfl (info_inC x) ?_))
  refine (HN.out _).mono ?_
  rintro e W1 ⟨rfl, hB1⟩
  have hS1 := Lib.hid (hS0.out.go hB1)
  clear hB1
  obtain ⟨W2, hW2, hs2⟩ : ∃ W2, W1.setRow w.heap.size (cellsI x1) = W2 ∧ RSt w W2 x1 m := ⟨_, rfl, hS1.out.setI x1⟩
  have hN2 : Hid (QL w W2 x1 m nilS []) := Lib.hid ⟨by rw [hmn.out]; exact hs2, QOwn.nil_ _ _⟩
  replace hW2 := Lib.hid hW2
  clear hs2
  unfold inV
  go_wp2_with (refine wpList_store_row rfl 66 _ _ rfl w.heap.size (cellsI x1) rfl rfl 66 (cellsI x) hS1.out.inB (info_inC x1) rfl (oneI x1) ?_; rw [hW2.out])
  go_loopw [16] (fun vi wr => ∃ (i : Nat) (acc : List QQ) (v : Value) (xi : XS), vi = .int .i64 (i : Int) ∧ i ≤ n ∧ acc.length = i ∧ xi.S.length ≤ 1000000 ∧ Hid (res = qQs (n - i) acc xi) ∧ Hid (QL w wr xi m v acc)) (fun vi _ => n - (intOf vi).toNat)
  case atStart => exact ⟨0, [], nilS, x1, rfl, by omega, rfl, hl1, hR0, hN2⟩
  case round =>
    obtain ⟨i, acc, v, xi, rfl, hi1, hlen, hlx, hr, hS⟩ := hrel
    have hal : acc.length < 65536 := by omega
    replace hlen := Lib.hid hlen
    by_cases hlt : i < n
    · have hd : decide ((i : Int) < (n : Int)) = true := by simpa using hlt
      by_cases hbad : xi.bad = true
      · have c1 := (Lib.cell_of_heap hS.out.1.inB 1).trans (show _ = some (.bool true) from by rw [← hbad]; rfl)
        have hres := Lib.hid (hr.out.trans (qQs_stop (.inr hbad)))
        clear hr hbad
        have hrow := Lib.hid ((hS.out.rowA hfr).fin (c1 := cellsI xi) (c2 := cellsB { m with qv := v }))
        have hone := Lib.hid (cellsB_one { m with qv := v } (hS.out.rowA hfr).row.one.1 (hS.out.rowA hfr).row.one.2)
        have hS4 := Lib.hid hS.out.1.drew
        obtain ⟨mm, hmm⟩ : ∃ mm, { m with qv := v } = mm := ⟨_, rfl⟩
        have hfull : Hid (cellsB { m with qv := v, ql := acc } = cellsB mm) := Lib.hid (by rw [← hmm]; rfl)
        rw [hmm] at hrow hone hS4
        replace hmm := Lib.hid hmm
        go_wp2
        refine wp_region_held_drew (S := fun W => RSx w W xi mm) (by kernel_rfl) hS4.out.x (fun hHeld => ?_)
        refine takeD (i := 0) (oi := _) (d := some 157) (v := .agg (cellsI xi)) rfl rfl (by kernel_rfl) (by kernel_rfl) (by kernel_rfl) (fun _ _ _ h => h) (yieldsIf_load_row (by rfl) 66 _ rfl w.heap.size rfl (cellsI xi) (fun W h => load_In h.inB)) (by assumption) ?_
        try simp only [Act.put, List.setIfInBounds_toArray, List.set_cons_zero, List.set_cons_succ]
        refine takeD (i := 1) (oi := _) (d := some 158) (v := .agg (cellsB mm)) rfl rfl (by kernel_rfl) (by kernel_rfl) (by kernel_rfl) (fun _ _ _ h => h) (yieldsIf_load_row (by rfl) 30 _ rfl (w.heap.size + 1) rfl (cellsB mm) (fun W h => load_msg h.msB)) (by assumption) ?_
        try simp only [Act.put, List.setIfInBounds_toArray, List.set_cons_zero, List.set_cons_succ]
        obtain ⟨f1, f2, f3, f4, f5⟩ := hS4.out.fin
        refine wpAnyH_ready (rs := [2]) (by kernel_rfl) (by simp) ?_
        refine AllReadyH.cons (o := _) rfl (fun K hK => ?_) AllReadyH.nil
        rw [if_pos (by rfl)]
        refine wp_store_row 66 _ _ rfl (w.heap.size + 1 + 1) (cellsI xi) rfl rfl 66 (cellsI zeroX) f1 (info_inC xi) rfl (oneI xi) ?_
        refine hK.out _ _ (RSx.set (by assumption) (by omega) _) (fun hHeld2 => ?_)
        clear hK K
        try simp only [Act.put, List.setIfInBounds_toArray]
        refine wpAnyH_ready (rs := [3]) (by kernel_rfl) (by simp) ?_
        refine AllReadyH.cons (o := _) rfl (fun K hK => ?_) AllReadyH.nil
        rw [if_pos (by rfl)]
        refine wp_store_row 30 _ _ rfl (w.heap.size + 1 + 1 + 1) (cellsB mm) rfl rfl 30 (cellsB noM) f2 (info_msgC mm) rfl hone.out ?_
        refine hK.out _ _ (RSx.set hHeld2 (by omega) _) (fun hHeld3 => ?_)
        clear hK K
        try simp only [Act.put]
        refine wpAnyH_done (by kernel_rfl) ?_ _
        rename_i hKr
        refine hKr _ _ (wp_ret ?_)
        refine bodyPost_ret (results_IM rfl rfl rfl f3 f4) rfl ⟨v, ?_, ?_, f5⟩
        · rw [hres.out]; unfold msgV; rw [hfull.out]; rfl
        · rw [hres.out]; exact hrow.out
      · have hbf : xi.bad = false := by simpa using hbad
        have c1 := (Lib.cell_of_heap hS.out.1.inB 1).trans (show _ = some (.bool false) from by rw [← hbf]; rfl)
        have hr2 := Lib.hid (hr.out.trans (qQs_next (by omega) hbf))
        have HT := Lib.hid (fun W => Xqid xi hlx W)
        have hly : (qQ xi).2.S.length ≤ 1000000 := Nat.le_trans (qQ_len xi) hlx
        clear hr hbad hbf
        generalize (qQ xi).2 = y at *
        generalize (qQ xi).1 = tx at *
        unfold inV at HT
        go_wp2_with (refine wpList_load_row rfl 66 _ rfl w.heap.size rfl 66 (cellsI xi) (0, 0) _ hS.out.1.inB Tryz.underlying66 rfl (info_inC xi) ?_)
        refine (HT.out _).mono ?_
        rintro e W3 ⟨rfl, hB3⟩
        obtain ⟨U3, hU3, HU3, hF3⟩ : ∃ V, (W3.alloc (.cells (cellsI zeroX) 66)).alloc (.cells #[.int .i64 0, .int .i64 0, .int .i64 0] 25) = V ∧ BlkI V W3.heap.size zeroX ∧ V.heap[W3.heap.size + 1]? = some (.cells (cellsQ3 noQ) 25 (0, 0)) := by
          obtain ⟨a1, a2, _⟩ := two_at (w := W3) (c1 := cellsI zeroX) (c2 := cellsQ3 noQ) (t1 := 66) (t2 := 25) (Below.refl _ _)
          exact ⟨_, rfl, a1, a2⟩
        have hU : Below W3.heap.size W3 U3 := by rw [← hU3]; exact ((Below.refl _ W3).alloc (Nat.le_refl _) _).alloc (Nat.le_of_lt (by simp)) _
        obtain ⟨V3, hV3, HV3, HQ3, hG3⟩ : ∃ V, (U3.setRow W3.heap.size (cellsI y)).setRow (W3.heap.size + 1) (cellsQ3 tx) = V ∧ BlkI V W3.heap.size y ∧ V.heap[W3.heap.size + 1]? = some (.cells (cellsQ3 tx) 25 (0, 0)) ∧ QL w V xi m v acc :=
          ⟨_, rfl, (setRow_ne (by omega)).trans (setRow_heap _ _ _ _ _ _ HU3), setRow_heap _ _ _ _ _ _ ((setRow_ne (by omega)).trans hF3), (hS.out.go hB3).go (below_setRow (below_setRow hU (Nat.le_refl _) _) (Nat.le_succ _) _)⟩
        have hF3' : (U3.setRow W3.heap.size (cellsI y)).heap[W3.heap.size + 1]? = some (.cells (cellsQ3 noQ) 25 (0, 0)) := (setRow_ne (by omega)).trans hF3
        replace hU3 := Lib.hid hU3
        replace HU3 := Lib.hid HU3
        replace hF3' := Lib.hid hF3'
        replace HQ3 := Lib.hid HQ3
        clear hU hF3
        obtain ⟨W4, hW4, hs4⟩ : ∃ W4, V3.setRow w.heap.size (cellsI y) = W4 ∧ QL w W4 y m v acc := ⟨_, rfl, hG3.setI y⟩
        have HQ4 : Hid (W4.heap[W3.heap.size + 1]? = some (.cells (cellsQ3 tx) 25 (0, 0))) := Lib.hid (by rw [← hW4]; exact (setRow_ne (by have := hS.out.1.msR.lt; have := hB3.size; omega)).trans HQ3.out)
        replace hV3 := Lib.hid hV3
        replace HV3 := Lib.hid HV3
        have hInB := Lib.hid hG3.1.inB
        replace hW4 := Lib.hid hW4
        have hO4 := hs4.2
        have c10 := (hs4.1.msB.cell 11).trans (hcM.out v)
        obtain ⟨p, cap, rfl⟩ := hO4.form_
        have hle : w.heap.size + 4 ≤ W4.heap.size := hs4.1.msR.lt
        have hS4' := Lib.hid hs4
        have HO : Hid ((W4.alloc (.cells #[.int .i64 tx.t, .int .i64 tx.v, .int .i64 tx.p] 25)).ownsRow (w.heap.size + 4) 25 3 (.slice p acc.length cap) acc.length (flatQ acc)) := Lib.hid (World.ownsRow.alloc hO4 _)
        have Hle : Hid (w.heap.size + 4 ≤ (W4.alloc (.cells #[.int .i64 tx.t, .int .i64 tx.v, .int .i64 tx.p] 25)).heap.size) := Lib.hid (by simp; omega)
        have hB45 : Hid (Below (w.heap.size + 4) W4 (W4.alloc (.cells #[.int .i64 tx.t, .int .i64 tx.v, .int .i64 tx.p] 25))) := Lib.hid ((Below.refl _ W4).alloc hle _)
        clear hs4 hO4 hle hB3 hG3
        go_upto_region 22 with (first
          | (simp only [hz.out])
          | (simp only [hU3.out])
          | (refine wpList_store_row rfl 66 _ _ rfl W3.heap.size (cellsI y) rfl rfl 66 (cellsI zeroX) HU3.out (info_inC y) rfl (oneI y) ?_)
          | (refine wpList_store_row rfl 25 _ _ rfl (W3.heap.size + 1) (cellsQ3 tx) rfl rfl 25 (cellsQ3 noQ) hF3'.out (info_qidC tx) rfl (oneQ3 tx) ?_; rw [hV3.out]))
        go_upto_region 23 with (first
          | (refine wpList_load_row rfl 66 _ rfl W3.heap.size rfl 66 (cellsI y) (0, 0) _ HV3.out Tryz.underlying66 rfl (info_inC y) ?_)
          | (refine wpList_store_row rfl 66 _ _ rfl w.heap.size (cellsI y) rfl rfl 66 (cellsI xi) hInB.out (info_inC y) rfl (oneI y) ?_; rw [hW4.out]))
        try simp only [Act.put, List.setIfInBounds_toArray, List.set_cons_zero, List.set_cons_succ]
        go_wp2_with (first
          | (refine wpList_load_row rfl 25 _ rfl (W3.heap.size + 1) rfl 25 (cellsQ3 tx) (0, 0) _ HQ4.out Tryz.underlying25 rfl (info_qidC tx) ?_; unfold cellsQ3)
          | (at_builtin; refine wpList_append_own_at _ rfl (.tmp 102) (.tmp 104) 23 rfl (w.heap.size + 4) 25 i0 (.agg #[.int .i64 0, .int .i64 0, .int .i64 0]) 3 24 Tryz.underlying23 hi hz0 hz1 hz2 rfl (by decide) _ _ _ rfl HO.out ⟨W4.heap.size, 0, none⟩ 1 1 (cellsQL tx) rfl rfl (new_three _ _ _ _ _) (by simp [cellsQL, Value.oneCell']) (by unfold maxLen; omega) (by omega) Hle.out ?_; intro v' w5 hown hgrow _ _; obtain ⟨p5, cap5, rfl⟩ := own_form hown; have hB5 := Lib.hid (hB45.out.trans (below_grown Hle.out HO.out hgrow)); have z1 := ((hS4'.out.1.go4 hB5.out).msB.cell 11).trans (hcM.out _); have z0 := (hS4'.out.1.go4 hB5.out).msB.frozen 11; have hO5 := Lib.hid (QOwn.snoc hown); clear hown hgrow))
        have hN5 := Lib.hid (hS4'.out.more hB5.out hO5.out)
        exact ⟨⟨i + 1, acc ++ [tx], _, y, by go_num, by omega, by simp [hlen.out], hly, Lib.hid (by rw [hr2.out]; congr 1), hN5⟩, by simp [intOf]; omega⟩
    · have hd : decide ((i : Int) < (n : Int)) = false := by simpa using hlt
      have hres := Lib.hid (hr.out.trans (qQs_stop (.inl (by omega))))
      clear hr
      have hrow := Lib.hid ((hS.out.rowA hfr).fin (c1 := cellsI xi) (c2 := cellsB { m with qv := v }))
      have hone := Lib.hid (cellsB_one { m with qv := v } (hS.out.rowA hfr).row.one.1 (hS.out.rowA hfr).row.one.2)
      have hS4 := Lib.hid hS.out.1.drew
      obtain ⟨mm, hmm⟩ : ∃ mm, { m with qv := v } = mm := ⟨_, rfl⟩
      have hfull : Hid (cellsB { m with qv := v, ql := acc } = cellsB mm) := Lib.hid (by rw [← hmm]; rfl)
      rw [hmm] at hrow hone hS4
      replace hmm := Lib.hid hmm
      go_wp2
      refine wp_region_held_drew (S := fun W => RSx w W xi mm) (by kernel_rfl) hS4.out.x (fun hHeld => ?_)
      refine takeD (i := 0) (oi := _) (d := some 157) (v := .agg (cellsI xi)) rfl rfl (by kernel_rfl) (by kernel_rfl) (by kernel_rfl) (fun _ _ _ h => h) (yieldsIf_load_row (by rfl) 66 _ rfl w.heap.size rfl (cellsI xi) (fun W h => load_In h.inB)) (by assumption) ?_
      try simp only [Act.put, List.setIfInBounds_toArray, List.set_cons_zero, List.set_cons_succ]
      refine takeD (i := 1) (oi := _) (d := some 158) (v := .agg (cellsB mm)) rfl rfl (by kernel_rfl) (by kernel_rfl) (by kernel_rfl) (fun _ _ _ h => h) (yieldsIf_load_row (by rfl) 30 _ rfl (w.heap.size + 1) rfl (cellsB mm) (fun W h => load_msg h.msB)) (by assumption) ?_
      try simp only [Act.put, List.setIfInBounds_toArray, List.set_cons_zero, List.set_cons_succ]
      obtain ⟨f1, f2, f3, f4, f5⟩ := hS4.out.fin
      refine wpAnyH_ready (rs := [2]) (by kernel_rfl) (by simp) ?_
      refine AllReadyH.cons (o := _) rfl (fun K hK => ?_) AllReadyH.nil
      rw [if_pos (by rfl)]
      refine wp_store_row 66 _ _ rfl (w.heap.size + 1 + 1) (cellsI xi) rfl rfl 66 (cellsI zeroX) f1 (info_inC xi) rfl (oneI xi) ?_
      refine hK.out _ _ (RSx.set (by assumption) (by omega) _) (fun hHeld2 => ?_)
      clear hK K
      try simp only [Act.put, List.setIfInBounds_toArray]
      refine wpAnyH_ready (rs := [3]) (by kernel_rfl) (by simp) ?_
      refine AllReadyH.cons (o := _) rfl (fun K hK => ?_) AllReadyH.nil
      rw [if_pos (by rfl)]
      refine wp_store_row 30 _ _ rfl (w.heap.size + 1 + 1 + 1) (cellsB mm) rfl rfl 30 (cellsB noM) f2 (info_msgC mm) rfl hone.out ?_
      refine hK.out _ _ (RSx.set hHeld2 (by omega) _) (fun hHeld3 => ?_)
      clear hK K
      try simp only [Act.put]
      refine wpAnyH_done (by kernel_rfl) ?_ _
      rename_i hKr
      refine hKr _ _ (wp_ret ?_)
      refine bodyPost_ret (results_IM rfl rfl rfl f3 f4) rfl ⟨v, ?_, ?_, f5⟩
      · rw [hres.out]; unfold msgV; rw [hfull.out]; rfl
      · rw [hres.out]; exact hrow.out
end Go.Proofs.YtlfdmbfbfadifaaGreatDoor
