/-
  Path.
-/
import Derived.Test.YtalhkoolpnmcdaaBg
namespace Go.Proofs.Ytalhkoolpnmcdaa
open Go.RowKit
attribute [local go_sem] Oper.semAt_some

/-- A node on the way up: the Id that is looked for and the names that were found. -/
def upA (s : Int × List (List UInt8)) (n : ND) : Int × List (List UInt8) := if n.id = s.1 ∧ s.1 ≠ 1 then (n.pa, s.2 ++ [n.nm]) else s
def upK (L : List ND) (s : Int × List (List UInt8)) (k : Nat) : Int × List (List UInt8) := upA s (getN L k)
theorem upA_upS (L : List ND) (d : Int) : (L.reverse.foldl upA (d, [])) = ((L.foldr upS (d, [])).1, (L.foldr upS (d, [])).2.reverse) := by
  rw [List.foldl_reverse]
  induction L with
  | nil => rfl
  | cons n L ih =>
    rw [List.foldr_cons, List.foldr_cons, ih]
    unfold upA upS
    dsimp only
    split <;> simp
theorem range_getN (L : List ND) : (List.range L.length).map (getN L) = L := by
  apply List.ext_getElem (by simp)
  intro i h1 h2
  simp [getN, List.getD_eq_getElem?_getD, List.getElem?_eq_getElem h2]
theorem upK_end (L : List ND) (d : Int) : ((List.range L.length).reverse.foldl (upK L) (d, [])) = ((L.foldr upS (d, [])).1, (namesL L d).reverse) := by
  have h : ∀ (ks : List Nat) s, ks.foldl (upK L) s = (ks.map (getN L)).foldl upA s := by
    intro ks
    induction ks with
    | nil => intro s; rfl
    | cons k ks ih => intro s; rw [List.foldl_cons, List.map_cons, List.foldl_cons, ih]; rfl
  rw [h, List.map_reverse, range_getN, upA_upS]
  rfl
theorem namesL_sub (L : List ND) (d : Int) : (namesL L d).Sublist (L.map (·.nm)) := by
  unfold namesL
  induction L with
  | nil => simp
  | cons n L ih =>
    rw [List.foldr_cons, List.map_cons]
    unfold upS
    split
    · exact ih.cons_cons _
    · exact ih.cons _
theorem sumL_sub {A B : List (List UInt8)} (h : A.Sublist B) : sumL A ≤ sumL B := by
  induction h with
  | slnil => exact Nat.le_refl _
  | cons a _ ih => rw [sumL_cons]; omega
  | cons_cons a _ ih => rw [sumL_cons, sumL_cons]; omega
theorem sumL_names (L : List ND) (h : ∀ n ∈ L, n.nm.length ≤ 900) : sumL (L.map (·.nm)) ≤ L.length * 901 := by
  induction L with
  | nil => simp [sumL]
  | cons n L ih =>
    have h1 := h n (by simp)
    have h2 := ih (fun m hm => h m (by simp [hm]))
    rw [List.map_cons, sumL_cons, List.length_cons]; omega
theorem join_names (L : List ND) (d : Int) (h : ∀ n ∈ L, n.nm.length ≤ 900) (hl : L.length ≤ 1024) : (joinL (namesL L d)).length ≤ 1000000 := by
  have h1 := sumL_names L h
  have h2 := sumL_sub (namesL_sub L d)
  by_cases h0 : namesL L d = []
  · rw [h0]; simp [joinL, Lib.join]
  · have := sumL_join _ h0
    omega

theorem own_set {w : World} {B : Nat} {e : TypeId} {sz : Nat} {v : Value} {n : Nat} {xs : List Value} (h : w.ownsRow B e sz v n xs) (p : Addr) (hp : p.block < B) (u : Value) : (w.setCell p u).ownsRow B e sz v n xs :=
  h.kept (row := some p.block) ⟨rfl, rfl, rfl, by simp [World.setCell], fun k _ hk => Below.heap_setCell w p u k (fun e => hk (by rw [e]))⟩ (.inr fun e => by have := (h.lt _ e).1; omega)
/-- What a round of Path's loop keeps and what it has found. -/
structure PSt (w0 : World) (L : List ND) (d : Int) (E : Nat) (pre : List Nat) (i : Int) (es : List (List UInt8)) (v : Value) (W : World) : Prop where
  st : (i, es) = pre.foldl (upK L) (d, [])
  len : es.length ≤ pre.length
  box : Boxed W (w0.heap.size + 1) 3 (.int .i64 i)
  ebox : Boxed W E 51 v
  own : W.ownsRow (E + 2) 9 1 v es.length (es.map sv)
  low : Below w0.heap.size w0 W
  siz : E + 2 ≤ W.heap.size
  apart : w0.heap.size + 1 < E
theorem PSt.kept {w0 : World} {L : List ND} {d : Int} {E : Nat} {pre : List Nat} {i : Int} {es : List (List UInt8)} {v : Value} {W W' : World} (h : PSt w0 L d E pre i es v W) {row : Option Nat} (hg : W.grownBy W' row)
    (hr : ∀ r, row = some r → E + 2 ≤ r ∧ ∃ o : Obj, W.heap[r]? = some o ∧ o.isCells = false) : PSt w0 L d E pre i es v W' := by
  have hap := h.apart
  have hlow := h.low.size
  refine ⟨h.st, h.len, h.box.kept hg (fun e => by have := (hr _ e.symm).1; omega), h.ebox.kept hg (fun e => by have := (hr _ e.symm).1; omega), h.own.kept hg ?_, h.low.grown hg hlow (fun r e => by have := (hr r e).1; omega), Nat.le_trans h.siz hg.size, hap⟩
  rcases h.own.2 with ⟨rfl, _⟩ | ⟨g, cap, cur, rfl, _, hgb, _⟩
  · exact .inl rfl
  · refine .inr fun e' => ?_
    obtain ⟨_, o, ho, hc⟩ := hr g (by simpa [Value.ownBlock] using e'.symm)
    rw [hgb] at ho; cases ho; cases hc

theorem PSt.same {w0 : World} {L : List ND} {d : Int} {E : Nat} {pre : List Nat} {i : Int} {es : List (List UInt8)} {v : Value} {W : World} (h : PSt w0 L d E pre i es v W) {k : Nat} (hk : ¬ ((getN L k).id = i ∧ i ≠ 1)) : PSt w0 L d E (pre ++ [k]) i es v W := by
  refine ⟨?_, by have := h.len; simp; omega, h.box, h.ebox, h.own, h.low, h.siz, h.apart⟩
  rw [List.foldl_append, ← h.st, List.foldl_cons, List.foldl_nil]
  unfold upK upA
  rw [if_neg hk]
theorem PSt.more {w0 : World} {L : List ND} {d : Int} {E : Nat} {pre : List Nat} {i : Int} {es : List (List UInt8)} {v v' : Value} {W W' : World} (h : PSt w0 L d E pre i es v W) {k : Nat} (hk : (getN L k).id = i ∧ i ≠ 1)
    (hg : W.grownBy W' v.ownBlock) (hown : W'.ownsRow (E + 2) 9 1 v' (es.length + 1) (es.map sv ++ [sv (getN L k).nm])) :
    PSt w0 L d E (pre ++ [k]) (getN L k).pa (es ++ [(getN L k).nm]) v' ((W'.setCell ⟨E, 0, none⟩ v').setCell ⟨w0.heap.size + 1, 0, none⟩ (.int .i64 (getN L k).pa)) := by
  have hap := h.apart
  have hr : ∀ r, v.ownBlock = some r → E + 2 ≤ r := fun r e => (h.own.lt r e).1
  refine ⟨?_, by have := h.len; simp; omega, ?_, ?_, ?_, ?_, ?_, hap⟩
  · rw [List.foldl_append, ← h.st, List.foldl_cons, List.foldl_nil]
    unfold upK upA
    rw [if_pos hk]
  · exact Boxed.set _ (Boxed.other (h.box.kept hg (fun e => by have := hr _ e.symm; omega)) (by omega) _)
  · exact Boxed.other (Boxed.set _ (h.ebox.kept hg (fun e => by have := hr _ e.symm; omega))) (by omega) _
  · rw [List.length_append, List.map_append]
    exact own_set (own_set hown _ (by show E < E + 2; omega) _) _ (by show w0.heap.size + 1 < E + 2; omega) _
  · exact ((h.low.grown hg h.low.size (fun r e => by have := hr r e; omega)).setCell (p := ⟨E, 0, none⟩) (by show w0.heap.size ≤ E; omega) _).setCell (p := ⟨w0.heap.size + 1, 0, none⟩) (by show w0.heap.size ≤ w0.heap.size + 1; omega) _
  · have := h.siz
    have := hg.size
    simp only [World.setCell]
    simp
    omega
/-- A tree and an int are boxed. -/
theorem start_ti (w : World) (nx : Int) (v : Value) (d : Int) : ∃ W, (w.alloc (.cells #[.int .i64 nx, v] 26)).alloc (.cells #[.int .i64 d] 3) = W ∧
    Below w.heap.size w W ∧ W.heap.size = w.heap.size + 2 ∧ BlkT W w.heap.size nx v ∧ Boxed W (w.heap.size + 1) 3 (.int .i64 d) := by
  refine ⟨_, rfl, ((Below.refl _ w).alloc (Nat.le_refl _) _).alloc (by simp) _, by simp, (BlkT.new w nx v).alloc _, ?_⟩
  have h := Boxed.new (w.alloc (.cells #[.int .i64 nx, v] 26)) 3 (.int .i64 d)
  rwa [show (w.alloc (.cells #[.int .i64 nx, v] 26)).heap.size = w.heap.size + 1 by simp] at h

set_option maxRecDepth 100000 in
set_option maxHeartbeats 3200000 in
theorem Path_any (nx : Int) (v : Value) (L : List ND) (d : Int) (w : World) (h : NRow w v L) (hr : Rise L) (hl : L.length ≤ 1000000) (hjn : (joinL (namesL L d)).length ≤ 1000000) :
    Calls Try.prog 22 #[treeV nx v, .int .i64 d] w fun e w' => e = .returned (.tuple #[.string (mk (pathT L d).1), .int .i64 (pathT L d).2]) ∧ Below w.heap.size w w' := by
  obtain ⟨W, hW, hB0, hs0, hT0, hI0⟩ := start_ti w nx v d
  have HN := Lib.hid (Node_any nx v L d W (h.below hB0) hr hl)
  obtain ⟨q, cap, rfl, hc, hmx, _⟩ := id h
  unfold treeV at HN ⊢
  replace hW := Lib.hid hW
  have HB0 := Lib.hid hB0
  have hs := Lib.hid hs0
  have HT := Lib.hid hT0
  have HI := Lib.hid hI0
  have c3 := hI0.cell
  clear hB0 hs0 hT0 hI0
  have hz := Lib.hid zeroN_eq
  cases hh : hasN L d
  · rw [hh] at HN
    have hres : Hid (pathT L d = ([], 8)) := by rw [Hid, pathT, if_pos hh]
    rw [hres.out]
    clear hh c3
    generalize nodeN L d = nd at HN
    go_enter Try.func22, Try.ntmps22
    go_wp2_with fail
    simp only [hW.out]
    refine HN.out.mono ?_
    rintro e w2 ⟨rfl, hB⟩
    obtain ⟨W3, hW3, hB3, hb3, hM3, hs3⟩ := lay1 (n := nd) (HB0.out.trans (hB.mono (by rw [hs.out]; omega))) (by have := hB.size; have := hs.out; omega)
    replace hW3 := Lib.hid hW3
    replace hB3 := Lib.hid hB3
    clear hB hM3 hb3 hs3
    go_wp2_with (refine wpList_store_row rfl 31 _ _ rfl w2.heap.size (cellsA nd) rfl rfl 31 (cellsA noN) (heap_alloc_new w2 _) (by kernel_rfl) rfl (cellsA_one nd) ?_; rw [World.setRow_alloc_new, hW3.out])
    go_ret2
    exact ⟨rfl, hB3.out⟩
  rw [hh] at HN
  have hres : Hid (pathT L d = (47 :: joinL (namesL L d), 0)) := by rw [Hid, pathT, if_neg (by rw [hh]; simp)]; rfl
  rw [hres.out]
  clear hres
  generalize nodeN L d = nd at HN
  refine (callsIn_wide (n := 5)).1 ?_
  refine callsIn_of_wp_marks Try.func22 rfl trivial ?_ rfl
  simp only [Try.ntmps22, List.size_toArray, List.length_cons, List.length_nil, Nat.reduceAdd, Nat.reduceSub, Array.replicate_succ, Array.replicate_zero, List.push_toArray, List.append_toArray, List.nil_append, List.cons_append]
  gi_wp2_with fail
  simp only [hW.out]
  refine ⟨trivial, ?_⟩
  refine (callsIn_wide.2 HN.out).mono ?_
  rintro e w2 ⟨rfl, hB⟩
  have HB2 := HB0.out.trans (hB.mono (by rw [hs.out]; omega))
  obtain ⟨W3, hW3, hB3, hb3, hM3, hs3⟩ := lay1 (n := nd) HB2 HB2.size
  have hsW3 : w.heap.size + 2 ≤ w2.heap.size := by have := hB.size; have := hs.out; omega
  have HT3 := Lib.hid ((HT.out.below hB (by rw [hs.out]; omega)).below hb3 (by omega))
  have HI3 : Boxed W3 (w.heap.size + 1) 3 (.int .i64 d) := (hb3.block _ (by omega)).trans ((hB.block _ (by have := hs.out; omega)).trans HI.out)
  have HI3 := Lib.hid HI3
  replace hW3 := Lib.hid hW3
  replace hB3 := Lib.hid hB3
  have HsW3 := Lib.hid hsW3
  have Hs3 := Lib.hid hs3
  clear hB hM3 HB2 hb3 hs3 hsW3 c3
  have ha4 := (Below.refl W3.heap.size W3).alloc (Nat.le_refl _) (.cells #[.slice none 0 0] 51)
  have c1 := (HT3.out.below ha4 (by have := hB3.out.size; have := Hs3.out; have := HsW3.out; omega)).c1
  clear ha4
  gi_wp2_with (first
    | (refine wpListIn_store_row rfl 31 _ _ rfl w2.heap.size (cellsA nd) rfl rfl 31 (cellsA noN) (heap_alloc_new w2 _) (by kernel_rfl) rfl (cellsA_one nd) ?_; rw [World.setRow_alloc_new, hW3.out])
    | (refine ⟨trivial, ?_⟩; gi_at_call 49; refine (callsIn_wide.2 (Backward_any (.slice q L.length cap) _ rfl)).mono ?_; rintro e w' ⟨rfl, rfl⟩))
  obtain ⟨W5, hW5⟩ : ∃ W5, (W3.alloc (.cells #[.slice none 0 0] 51)).alloc (.cells #[.slice q L.length cap] 24) = W5 := ⟨_, rfl⟩
  have hs5 : W5.heap.size = W3.heap.size + 2 := by rw [← hW5]; simp
  have hb5 : Below w.heap.size w W5 := by rw [← hW5]; exact (hB3.out.alloc hB3.out.size _).alloc (by have := hB3.out.size; simp; omega) _
  have hi5 : Boxed W5 (w.heap.size + 1) 3 (.int .i64 d) := by rw [← hW5]; exact (HI3.out.alloc _).alloc _
  have he5 : Boxed W5 W3.heap.size 51 (.slice none 0 0) := by rw [← hW5]; exact (Boxed.new W3 _ _).alloc _
  have hx5 : Boxed W5 (W3.heap.size + 1) 24 (.slice q L.length cap) := by
    rw [← hW5]
    have := Boxed.new (W3.alloc (.cells #[.slice none 0 0] 51)) 24 (.slice q L.length cap)
    rwa [World.size_alloc] at this
  have hlt3 : w.heap.size + 1 < W3.heap.size := by have := Hs3.out; have := HsW3.out; omega
  rw [hW5]
  clear hW5 c1 HT3 hW3 HI3 HT HN HB0 hs HI hW
  have h' := Lib.hid h
  refine wpIn_rangeFunc_ownH rfl (by omega) rfl trivial (fun args w => enters_of Try.func82 (by kernel_rfl) rfl args w)
    (back_seq 4 (by omega) w.heap.size (W3.heap.size + 1) (.slice q L.length cap) L w W5 (Nat.le_refl _) hb5.size h hb5 hl hx5)
    (fun h1 h2 => h1.trans h2) ?Kb (Below.refl _ _) (fun _ => rfl)
    (fun pre W => ∃ i es v, PSt w L d W3.heap.size pre i es v W) (fun _ _ _ => False) ?I (fun c s W W' row h => h.elim) ⟨d, [], .slice none 0 0, ⟨rfl, Nat.le_refl _, hi5, he5, World.ownsRow_nil _ _ _ _, hb5, by omega, hlt3⟩⟩
    (fun k a' W => ∃ B, BlkN W B (getN L k) ∧ W5.heap.size ≤ B ∧ a' = { tmps := #[.agg #[.int .i64 nx, .slice q L.length cap], .int .i64 d, .pointer (some ⟨w.heap.size, 0, none⟩), .pointer (some ⟨w.heap.size + 1, 0, none⟩), .string ⟨#[]⟩, .int .i64 0, .pointer (some ⟨w2.heap.size, 0, none⟩), .bool true, .pointer (some ⟨W3.heap.size, 0, none⟩), undef, .pointer (some ⟨B, 0, none⟩), .tuple #[nodeV nd, .bool true], .agg #[.int .i64 nx, .slice q L.length cap], .int .i64 d, .tuple #[nodeV nd, .bool true], nodeV nd, .bool true, .bool true, .bool false, .pointer (some ⟨w.heap.size, 1, none⟩), .slice q L.length cap, .func (.func 82) #[] #[.pointer (some ⟨W3.heap.size + 1, 0, none⟩)], .int .i64 (k : Int), nodeV (getN L k), undef, undef, undef, undef, undef, undef, undef, undef, undef, undef, undef, undef, undef, undef, undef, undef, undef, undef, undef, undef], defers := [] }) ?Ax ?assign ?body ?done ?stop
  case Kb =>
    intro W l o o' hl' ho hc hw
    exact ⟨belowK_b hb5.size W l o o' hl' ho hc hw, World.putObj_heap_other (by omega)⟩
  case I =>
    rintro pre A B row ⟨i, es, v, hP⟩ hgr hr
    exact ⟨i, es, v, hP.kept hgr (fun r e => ⟨by have := (hr r e).1; omega, (hr r e).2⟩)⟩
  case Ax =>
    rintro k a' _ A B row ⟨b, hb, hlt, ha⟩ hgr hr
    refine ⟨b, (hgr.block b hb.lt (fun e => ?_)).trans hb, hlt, ha⟩
    obtain ⟨_, o, ho, hc⟩ := hr b e.symm
    unfold BlkN at hb
    rw [hb] at ho; cases ho; cases hc
  case assign =>
    rintro l pre k Wk K ⟨i, es, v, hP⟩ hK
    have HK := Lib.hid hK
    have HP := Lib.hid hP
    clear hK hP
    gi_wp2_with (refine wpListIn_store_row rfl 31 _ _ rfl Wk.heap.size (cellsA (getN L k)) rfl rfl 31 (cellsA noN) (heap_alloc_new Wk _) (by kernel_rfl) rfl (cellsA_one _) ?_; rw [World.setRow_alloc_new])
    have hall := World.grownBy_alloc Wk (.cells (cellsA (getN L k)) 31) none
    have hsz := HP.out.siz
    refine HK.out _ _ ((KeepsOthers.alloc _ _).from _) ⟨(Below.refl _ Wk).alloc (by have := HP.out.low.size; omega) _, hall.block _ (by omega) (by simp)⟩ ⟨i, es, v, HP.out.kept hall (fun r e => by cases e)⟩ ⟨Wk.heap.size, BlkN.new Wk _, ?_, rfl⟩
    rw [hs5]; exact hsz
  case body =>
    rintro l pre k a' Wk hl' hrec ⟨i, es, v, hP⟩ ⟨B, hBN, hBl, rfl⟩ hpre
    have HP := Lib.hid hP
    have HN := Lib.hid hBN
    have hst := hP.st
    have c3 := hP.box.cell
    have f3 := hP.box.frozen
    have n0 := hBN.cell 0
    have n1 := hBN.cell 1
    have n3 := hBN.cell 3
    simp only [cellsN, List.getElem?_cons_zero, List.getElem?_cons_succ] at n0 n1 n3
    generalize hgn : getN L k = n at *
    by_cases h1 : n.id = i
    · by_cases h2 : i = 1
      · have hb1 : (n.id == i) = true := by simpa using h1
        have hb2 : (i != 1) = false := by simpa using h2
        gi_wp2
        refine ⟨KeepsFrom.refl _ _, KpB.refl _ _ _, i, es, v, HP.out.same (by rw [hgn]; omega)⟩
      · have hb1 : (n.id == i) = true := by simpa using h1
        have hb2 : (i != 1) = true := by simpa using h2
        obtain ⟨q0, cap0, rfl⟩ : ∃ q0 cap0, v = .slice q0 es.length cap0 := by
          rcases hP.own.2 with ⟨rfl, he⟩ | ⟨g, cap, cur, rfl, _⟩
          · exact ⟨none, 0, by rw [he]⟩
          · exact ⟨_, cap, rfl⟩
        have HO := Lib.hid hP.own
        have hBg : some B ≠ (Value.slice q0 es.length cap0).ownBlock := fun e => by
          rcases hP.own.2 with ⟨h0, _⟩ | ⟨g, cap, cur, h0, _, hgb, _⟩
          · rw [h0] at e; simp [Value.ownBlock] at e
          · rw [h0] at e
            have e' : B = g := by simpa [Value.ownBlock] using e
            unfold BlkN at hBN
            rw [e', hgb] at hBN
            injection hBN with hBN
            injection hBN with _ h9
            exact absurd h9 (by decide)
        have e8 := hP.ebox.cell
        have g8 := hP.ebox.frozen
        have hel : es.length ≤ 1000000 := by have := hP.len; omega
        have hsz := hP.siz
        have hap := hP.apart
        obtain ⟨i0, hi, hi0, hi1, hi2⟩ := info_parts info_str
        have hne1 : B ≠ W3.heap.size := by omega
        have hne2 : W3.heap.size ≠ w.heap.size + 1 := by omega
        have hrr : ∀ r, (Value.slice q0 es.length cap0).ownBlock = some r → W3.heap.size + 2 ≤ r := fun r e => (hP.own.lt r e).1
        have hBN' := Lib.hid (fun W' (hg : Wk.grownBy W' (Value.slice q0 es.length cap0).ownBlock) =>
          And.intro ((show BlkN W' B n from (hg.block B hBN.lt hBg).trans hBN).cell 1) (And.intro (And.intro (hP.ebox.kept hg (fun e => by have := hrr _ e.symm; omega)).cell (hP.ebox.kept hg (fun e => by have := hrr _ e.symm; omega)).frozen)
            (And.intro (hP.box.kept hg (fun e => by have := hrr _ e.symm; omega)).cell (hP.box.kept hg (fun e => by have := hrr _ e.symm; omega)).frozen)))
        simp only [cellsN, List.getElem?_cons_zero, List.getElem?_cons_succ] at hBN'
        clear hBg hrr
        gi_wp2_with (gi_at_builtin; refine wpListIn_append_own _ rfl (.tmp 32) (.tmp 35) 51 rfl (W3.heap.size + 2) 9 i0 (.string ⟨#[]⟩) 1 16 Try.underlying51 hi hi0 hi1 hi2 rfl (by decide) _ _ _ rfl (HO.out.alloc _) ⟨Wk.heap.size, 0, none⟩ 1 1 [sv n.nm] rfl rfl (cell_one_new _ _ _) (by intro u hu; simp at hu; subst hu; rfl) (by unfold maxLen; omega) (by omega) (by simp; omega) ?_; intro v' w4 hown' hgrow _; obtain ⟨g', cap', rfl⟩ := ownsRow_succ hown'; have hgr' := (World.grownBy_alloc Wk _ (Value.slice q0 es.length cap0).ownBlock).trans hgrow; have b4 := hBN'.out w4 hgr'; have c4 := b4.1; have d4 := b4.2.1.1; have e4 := b4.2.1.2; have f4 := b4.2.2.1; have g4 := b4.2.2.2)
        have hM := HP.out.more (k := k) (by rw [hgn]; exact ⟨h1, h2⟩) hgr' (by rw [hgn]; exact hown')
        rw [hgn] at hM
        have hE1 : ∀ r, (Value.slice q0 es.length cap0).ownBlock = some r → W3.heap.size + 2 ≤ r := fun r e => (HO.out.lt r e).1
        refine ⟨KeepsOthers.from (((KeepsOthers.of_grownBy hgr' fun j o ej hj => ?_).trans (KeepsOthers.setCell _ _ _)).trans (KeepsOthers.setCell _ _ _)) _, ⟨?_, ?_⟩, _, _, _, hM⟩
        · rcases HO.out.2 with ⟨h0, _⟩ | ⟨g, cap, cur, h0, _, hgb, _⟩
          · rw [h0] at ej; simp [Value.ownBlock] at ej
          · rw [h0] at ej
            have e' : g = j := by simpa [Value.ownBlock] using ej
            rw [← e', hgb] at hj; cases hj; rfl
        · exact (((Below.refl w.heap.size Wk).grown hgr' HP.out.low.size (fun r e => by have := hE1 r e; omega)).setCell (p := ⟨W3.heap.size, 0, none⟩) (by show w.heap.size ≤ W3.heap.size; omega) _).setCell (p := ⟨w.heap.size + 1, 0, none⟩) (by show w.heap.size ≤ w.heap.size + 1; omega) _
        · refine (Below.heap_setCell _ _ _ _ (by show W3.heap.size + 1 ≠ w.heap.size + 1; omega)).trans ((Below.heap_setCell _ _ _ _ (by show W3.heap.size + 1 ≠ W3.heap.size; omega)).trans ?_)
          exact hgr'.block _ (by omega) (fun e => by have := hE1 _ e.symm; omega)
    · have hne : (n.id == i) = false := by simpa using h1
      gi_wp2
      refine ⟨KeepsFrom.refl _ _, KpB.refl _ _ _, i, es, v, HP.out.same (by rw [hgn]; exact fun hh => h1 hh.1)⟩
  case done =>
    rintro D xs W6 hD rfl ⟨i, es, v, hP⟩ hK
    have hst := hP.st.trans (upK_end L d)
    have hes : es.reverse = namesL L d := by rw [(Prod.mk.inj hst).2, List.reverse_reverse]
    have hel : es.length ≤ 1000000 := by have := hP.len; simp at this; omega
    have hR := Reverse_lib (W3.heap.size + 2) v es W6 hP.own hel
    rw [hes] at hR
    have HR := Lib.hid hR
    have HJ := Lib.hid (fun W' (h : SRow W' v (namesL L d)) => Join_lib v (namesL L d) W' h hjn)
    have e8 := hP.ebox.cell
    have HP := Lib.hid hP
    have HK := Lib.hid hK
    obtain ⟨q0, cap0, rfl⟩ : ∃ q0 cap0, v = .slice q0 es.length cap0 := by
      rcases hP.own.2 with ⟨rfl, he⟩ | ⟨g, cap, cur, rfl, _⟩
      · exact ⟨none, 0, by rw [he]⟩
      · exact ⟨_, cap, rfl⟩
    clear hst hes hel hR hP hK
    dsimp only [Exit.inBlock, Exit.then]
    gi_wp2_with (refine ⟨trivial, ?_⟩; gi_at_call 50; refine (callsIn_wide.2 HR.out).mono ?_)
    rintro e W7 ⟨rfl, hS7, hB7, hO7⟩
    have e9 := (show Boxed W7 W3.heap.size 51 (.slice q0 es.length cap0) from (hB7.block _ (by omega)).trans HP.out.ebox).cell
    have HJ7 := Lib.hid (HJ.out W7 hS7)
    have HB7 := Lib.hid (HP.out.low.trans (hB7.mono (by omega)))
    have HK7 := Lib.hid (hO7.same _ _ HK.out rfl)
    have hsz := Lib.hid (mk_size (joinL (namesL L d)))
    have hsm : (mk (joinL (namesL L d))).size ≤ 1000000 := by rw [mk_size]; exact hjn
    clear hS7 hB7 hO7 e8
    gi_wp2_with (refine ⟨trivial, ?_⟩; gi_at_call 51; refine (callsIn_wide.2 HJ7.out).mono ?_)
    rintro e W8 ⟨rfl, hB8⟩
    have HK8 := Lib.hid ((hB8.block D (Array.getElem?_eq_some_iff.1 HK7.out).1).trans HK7.out)
    have HB8 := Lib.hid (HB7.out.trans (hB8.mono HB7.out.size))
    clear hB8
    gi_wp2
    rw [mk_slash]
    refine ⟨by simp, .inl ⟨_, _, rfl, run_takeDeferred HK8.out, ?_⟩⟩
    refine ⟨_, results_tmp2 rfl _ _ _, rfl, HB8.out.trans (belowK_b (w := w) (Nat.le_refl _) _ D _ _ (by have := HB8.out.size; omega) HK8.out rfl rfl)⟩
  case stop =>
    intro D c pre W _ _ hx
    exact hx.elim
end Go.Proofs.Ytalhkoolpnmcdaa
