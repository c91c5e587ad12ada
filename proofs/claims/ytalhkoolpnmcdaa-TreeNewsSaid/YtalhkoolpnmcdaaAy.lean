/-
  Walks: Create.
-/
import Derived.Test.YtalhkoolpnmcdaaAx
import Derived.Deep.WholeRow
namespace Go.Proofs.Ytalhkoolpnmcdaa
open Go.RowKit

theorem results_tree3 {fn : Func} {p u x b : Nat} {nx : Int} {v : Value} {w : World} {tmps : Array Value} (h : fn.results = #[.cell p 26, .tmp u, .tmp x]) (hp : tmps.getD p undef = .pointer (some ⟨b, 0, none⟩)) (hb : BlkT w b nx v) :
    (results fn tmps).run Try.prog w = .ok (.tuple #[treeV nx v, tmps.getD u undef, tmps.getD x undef]) w := by
  have ha : (asAddr (.pointer (some ⟨b, 0, none⟩))).run Try.prog w = .ok ⟨b, 0, none⟩ w := rfl
  have hp' : tmps[p]?.getD undef = .pointer (some ⟨b, 0, none⟩) := by simpa using hp
  have hl : (loadVar 26 ⟨b, 0, none⟩).run Try.prog w = .ok (treeV nx v) w := run_loadVar_row w b 26 26 #[.int .i64 nx, v] (0, 0) _ hb Try.underlying26 rfl (by kernel_rfl)
  simp only [results, h]
  simp [Sem.run_bind, Result.andThen, hp', ha, hl]
theorem results_tree2 {fn : Func} {p u b : Nat} {nx : Int} {v : Value} {w : World} {tmps : Array Value} (h : fn.results = #[.cell p 26, .tmp u]) (hp : tmps.getD p undef = .pointer (some ⟨b, 0, none⟩)) (hb : BlkT w b nx v) :
    (results fn tmps).run Try.prog w = .ok (.tuple #[treeV nx v, tmps.getD u undef]) w := by
  have ha : (asAddr (.pointer (some ⟨b, 0, none⟩))).run Try.prog w = .ok ⟨b, 0, none⟩ w := rfl
  have hp' : tmps[p]?.getD undef = .pointer (some ⟨b, 0, none⟩) := by simpa using hp
  have hl : (loadVar 26 ⟨b, 0, none⟩).run Try.prog w = .ok (treeV nx v) w := run_loadVar_row w b 26 26 #[.int .i64 nx, v] (0, 0) _ hb Try.underlying26 rfl (by kernel_rfl)
  simp only [results, h]
  simp [Sem.run_bind, Result.andThen, hp', ha, hl]

theorem yieldsIf_load_row {P : Program} {ops : Array Oper} {S : World → Prop} {op : Oper} {a : Act} (hw : Region.wanted op (yielded ops a.tmps) = true) (ty : TypeId) (x : Operand) (ho : op.op = .load ty x)
    (b : Nat) (hx : a.eval x = .pointer (some ⟨b, 0, none⟩)) (cs : Array Value) (hl : ∀ W, S W → (Instr.loadAt ty (.pointer (some ⟨b, 0, none⟩))).run P W = .ok (.agg cs) W) : YieldsIf P ops S op (.agg cs) a :=
  .inl ⟨hw, fun w hw' => by
    unfold execOp
    simp only [ho, hx, hl w hw', Sem.run_bind, Sem.run_pure, Result.andThen_ok]⟩
/-- An operation is taken first; its slot is written out. -/
theorem takeD {P : Program} {ops : Array Oper} {Q : Exit → Act → World → Prop} {md : Region.Mode} {S : World → Prop} {i : Nat} {oi : Oper} {v : Value} {d : Option Tmp} {fuel : Nat} {listed : Array Bool} {a : Act} {w : World} (hi : ops[i]? = some oi) (hd : oi.dst = d)
    (hs : Region.noSelect ops = true) (hf : Region.free md ops listed i = true) (hr : (Region.ready md ops listed).contains i = true)
    (hQ : ∀ c a w, Q (.panic c) (a.put d v) w → Q (.panic c) a w) (hy : YieldsIf P ops S oi v a) (hS : S w)
    (h : wpAnyH P md ops Q S fuel (listed.setIfInBounds i true) (a.put d v) w) : wpAnyH P md ops Q S (fuel + 1) listed a w := by
  subst hd
  exact wpAnyH_take hi hs hf hr hQ hy hS h
theorem load_tree {W : World} {b : Nat} {nx : Int} {v : Value} (h : BlkT W b nx v) : (Instr.loadAt 26 (.pointer (some ⟨b, 0, none⟩))).run Try.prog W = .ok (.agg #[.int .i64 nx, v]) W := by
  have := run_loadVar_row (P := Try.prog) W b 26 26 #[.int .i64 nx, v] (0, 0) _ h Try.underlying26 rfl (by kernel_rfl)
  simp only [Instr.loadAt, Instr.sureAddr, Sem.run_bind, Sem.run_pure, Result.andThen_ok, this]
theorem load_nodeR {W : World} {b : Nat} {n : ND} (h : BlkN W b n) : (Instr.loadAt 31 (.pointer (some ⟨b, 0, none⟩))).run Try.prog W = .ok (.agg (cellsA n)) W := by
  have := run_loadVar_row (P := Try.prog) W b 31 31 (cellsA n) (0, 0) _ h Try.underlying31 rfl (by kernel_rfl)
  simp only [Instr.loadAt, Instr.sureAddr, Sem.run_bind, Sem.run_pure, Result.andThen_ok, this]
/-- What a call that changes a tree hands out: the tree, a number and the error. -/
def Gives3 (t : TT) (n e : Int) (w : World) (x : Ending) (w' : World) : Prop := ∃ v', x = .returned (.tuple #[treeV t.1 v', .int .i64 n, .int .i64 e]) ∧ NRow w' v' t.2 ∧ Below w.heap.size w w'
def Gives2 (t : TT) (e : Int) (w : World) (x : Ending) (w' : World) : Prop := ∃ v', x = .returned (.tuple #[treeV t.1 v', .int .i64 e]) ∧ NRow w' v' t.2 ∧ Below w.heap.size w w'

theorem create_chk {nx : Int} {L : List ND} {d : Int} {x : List UInt8} {mode : Int} {uid gid : List UInt8} {now : Int} {e : Int} (h : chkT L nx d x mode = e) :
    createT (nx, L) d x mode uid gid now = if e ≠ 0 then ((nx, L), 0, e) else ((nx + 1, edT L d (touchN uid now) ++ [freshN nx d x mode uid gid now]), nx, 0) := by
  unfold chkT chkE dirT at h
  unfold createT
  dsimp only
  split at h
  · rename_i h1
    dsimp only at h
    rw [if_pos (show (8 : Int) ≠ 0 by decide)] at h
    subst h
    rw [if_pos h1, if_pos (by decide)]
  · rename_i h1
    rw [if_neg h1]
    split at h
    · rename_i h2
      dsimp only at h
      rw [if_pos (show (9 : Int) ≠ 0 by decide)] at h
      subst h
      rw [if_pos h2, if_pos (by decide)]
    · rename_i h2
      rw [if_neg h2]
      dsimp only at h
      rw [if_neg (show ¬ (0 : Int) ≠ 0 by decide)] at h
      split at h
      · rename_i h3; subst h; rw [if_pos h3, if_pos (by decide)]
      · rename_i h3
        rw [if_neg h3]
        split at h
        · rename_i h4; subst h; rw [if_pos h4, if_pos (by decide)]
        · rename_i h4
          rw [if_neg h4]
          split at h
          · rename_i h5; subst h; rw [if_pos h5, if_pos (by decide)]
          · rename_i h5
            rw [if_neg h5]
            split at h
            · rename_i h6; subst h; rw [if_pos h6, if_pos (by decide)]
            · rename_i h6
              subst h
              rw [if_neg h6, if_neg (by decide)]
theorem Vld.vers {nx : Int} {L : List ND} (h : Vld nx L) : ∀ n ∈ L, 0 ≤ n.ve ∧ n.ve ≤ 2147483647 := fun n hn => by
  have := (fieldsB_iff.1 (h.fld n hn)).2
  exact ⟨this.1, this.2.1⟩

/-- The tree that came in and the one to be handed out. -/
structure CSt (w : World) (nx : Int) (v : Value) (W : World) : Prop where
  bel : Below w.heap.size w W
  inn : BlkT W w.heap.size nx v
  out : BlkT W (w.heap.size + 1) 0 (.slice none 0 0)
theorem CSt.go {w W W' : World} {nx : Int} {v : Value} (h : CSt w nx v W) (hB : Below W.heap.size W W') : CSt w nx v W' := ⟨h.bel.trans (hB.mono h.bel.size), h.inn.below hB h.inn.lt, h.out.below hB h.out.lt⟩
theorem CSt.drew {w W : World} {nx : Int} {v : Value} (h : CSt w nx v W) : CSt w nx v W.drew := ⟨below_drew h.bel, h.inn, h.out⟩
theorem CSt.size {w W : World} {nx : Int} {v : Value} (h : CSt w nx v W) : w.heap.size + 2 ≤ W.heap.size := h.out.lt

/-- Behind the edit: block g holds the tree with a row of the call's own in block G. -/
structure DSt (w : World) (nx : Int) (v : Value) (M : List ND) (W : World) (g G cap : Nat) : Prop where
  cst : CSt w nx v W
  tre : BlkT W g nx (.slice (some ⟨G, 0, none⟩) M.length cap)
  own : NOwn w.heap.size W (.slice (some ⟨G, 0, none⟩) M.length cap) M
  hg : w.heap.size + 2 ≤ g
  hG : w.heap.size + 2 ≤ G
  ne_ : G ≠ g
theorem CSt.setRow {w W : World} {nx : Int} {v : Value} (h : CSt w nx v W) {g : Nat} (hg : w.heap.size + 2 ≤ g) (cs : Array Value) : CSt w nx v (W.setRow g cs) :=
  ⟨below_setRow h.bel (by omega) _, h.inn.setRow (by omega) _, h.out.setRow (by omega) _⟩
theorem DSt.mk' {w W : World} {nx : Int} {v : Value} {M : List ND} {g G cap : Nat} {old : Array Value} (h : CSt w nx v W) (ho : NOwn w.heap.size W (.slice (some ⟨G, 0, none⟩) M.length cap) M) (hx : W.heap[g]? = some (.cells old 26 (0, 0))) (h1 : w.heap.size + 2 ≤ g) (h2 : w.heap.size + 2 ≤ G) (h3 : G ≠ g) (_ : True) :
    DSt w nx v M (W.setRow g #[.int .i64 nx, .slice (some ⟨G, 0, none⟩) M.length cap]) g G cap :=
  ⟨h.setRow h1 _, setRow_heap _ _ _ _ _ _ hx, own_setRow ho (by simp [Value.ownBlock]; exact h3) _, h1, h2, h3⟩

theorem NOwn.ne_ {B : Nat} {w : World} {G n cap b : Nat} {L : List ND} {t : TypeId} {cs : Array Value} (h : NOwn B w (.slice (some ⟨G, 0, none⟩) n cap) L) (hb : w.heap[b]? = some (.cells cs t (0, 0))) (ht : 31 ≠ t) : G ≠ b := by
  rintro rfl
  obtain ⟨_, h2⟩ := h
  rcases h2 with ⟨h2, _⟩ | ⟨g', cap', cur, h2, _, hg, _⟩
  · cases h2
  · injection h2 with h2
    injection h2 with h2
    injection h2 with h2
    subst h2
    rw [hb] at hg
    injection hg with hg
    injection hg with _ ht'
    exact ht ht'.symm
theorem BlkT.set0 {w : World} {b : Nat} {nx : Int} {v : Value} (h : BlkT w b nx v) (m : Int) : BlkT (w.setCell ⟨b, 0, none⟩ (.int .i64 m)) b m v := heap_setCell_same w b 0 _ _ _ h
theorem BlkT.set1 {w : World} {b : Nat} {nx : Int} {v : Value} (h : BlkT w b nx v) (u : Value) : BlkT (w.setCell ⟨b, 1, none⟩ u) b nx u := heap_setCell_same w b 1 _ _ _ h
theorem BlkT.far {w : World} {b : Nat} {nx : Int} {v : Value} (h : BlkT w b nx v) {a : Addr} (ha : b ≠ a.block) (u : Value) : BlkT (w.setCell a u) b nx v := (heap_setCell_other w a b u ha).trans h
theorem BlkT.frozen {w : World} {b : Nat} {nx : Int} {v : Value} (h : BlkT w b nx v) (i : Nat) : w.frozen? ⟨b, i, none⟩ = false := by
  unfold BlkT at h
  simp [World.frozen?, h]
theorem CSt.setCell {w W : World} {nx : Int} {v : Value} (h : CSt w nx v W) {g i : Nat} (hg : w.heap.size + 2 ≤ g) (u : Value) : CSt w nx v (W.setCell ⟨g, i, none⟩ u) :=
  ⟨h.bel.setCell (p := ⟨g, i, none⟩) (by show _ ≤ g; omega) _, h.inn.far (by show _ ≠ g; omega) _, h.out.far (by show _ ≠ g; omega) _⟩
theorem own_setCell {w : World} {B : Nat} {v : Value} {acc : List ND} (h : NOwn B w v acc) {a : Addr} (hk : v.ownBlock ≠ some a.block) (u : Value) : NOwn B (w.setCell a u) v acc :=
  World.ownsRow.kept (row := some a.block) h ⟨rfl, rfl, rfl, by simp [World.setCell], fun i _ hi => Below.heap_setCell w a u i (fun e => hi (by rw [e]))⟩ (.inr hk)
theorem CSt.grown {w W W' : World} {nx : Int} {v : Value} {G : Nat} (h : CSt w nx v W) (hG : w.heap.size + 2 ≤ G) (hg : W.grownBy W' (some G)) : CSt w nx v W' :=
  ⟨h.bel.grown hg h.bel.size (fun k hk => by injection hk with hk; omega), h.inn.grown hg (by omega), h.out.grown hg (by omega)⟩
theorem wp_build_one {o : Oper} {a : Act} {w : World} {K : Act → World → Prop} {Q : Exit → Act → World → Prop} (x : Operand) (ho : o.op = .buildSlice 24 1 #[(0, x)]) (n : ND) (hx : a.eval x = .agg (cellsA n))
    (h : K (a.put o.dst (.slice (some ⟨w.heap.size, 0, none⟩) 1 1)) (w.alloc (.cells (cellsA n) 31))) : o.wp Try.prog a w K Q := by
  obtain ⟨i0, hi, hz0, hz1, hz2⟩ := info_parts info_node
  refine wp_buildSlice _ _ 1 _ ho (cellsA n) i0 (.agg (cellsA noN)) Try.underlying24 hi hz0 (by rw [hz1]; decide) (by rw [hz1]; decide) ?_ h
  simp only [List.map_toArray, List.map_cons, List.map_nil, hx]
  exact fill_one n i0 hz1
/-- Behind the append: what is stored. -/
theorem DSt.app {w W W7 : World} {nx : Int} {v v' : Value} {M N : List ND} {g G cap : Nat} {f : ND} (h : DSt w nx v M W g G cap) (hN : M ++ [f] = N) (hown : W7.ownsRow w.heap.size 31 11 v' (M.length + 1) (flatN M ++ cellsN f))
    (hg : (W.alloc (.cells (cellsA f) 31)).grownBy W7 (some G)) : ∃ G' cap', v' = .slice (some ⟨G', 0, none⟩) N.length cap' ∧ CSt w nx v W7 ∧ W7.cell? ⟨g, 1, none⟩ = some (.slice (some ⟨G, 0, none⟩) M.length cap) ∧ W7.frozen? ⟨g, 1, none⟩ = false ∧
      DSt w nx v N (W7.setCell ⟨g, 1, none⟩ (.slice (some ⟨G', 0, none⟩) N.length cap')) g G' cap' := by
  have hO : NOwn w.heap.size W7 v' N := by rw [← hN]; exact NOwn.more hown
  obtain ⟨G', cap', rfl, hG1, hG2, _, _⟩ := hO.form (by rw [← hN]; simp)
  have hal := (Below.refl W.heap.size W).alloc (Nat.le_refl _) (.cells (cellsA f) 31)
  have hC : CSt w nx v W7 := (h.cst.go hal).grown h.hG hg
  have hT : BlkT W7 g nx _ := (h.tre.alloc _).grown hg (Ne.symm h.ne_)
  have n1 := hO.ne_ hC.inn (by decide)
  have n2 := hO.ne_ hC.out (by decide)
  have n3 := hO.ne_ hT (by decide)
  refine ⟨G', cap', rfl, hC, hT.c1, hT.frozen 1, hC.setCell h.hg _, hT.set1 _, own_setCell hO (by simp [Value.ownBlock]; exact n3) _, h.hg, by omega, n3⟩
/-- The next Id turned; what is known then. -/
theorem DSt.plus {w W : World} {nx : Int} {v : Value} {M : List ND} {g G cap : Nat} (h : DSt w nx v M W g G cap) (m : Int) : CSt w nx v (W.setCell ⟨g, 0, none⟩ (.int .i64 m)) ∧ BlkT (W.setCell ⟨g, 0, none⟩ (.int .i64 m)) g m (.slice (some ⟨G, 0, none⟩) M.length cap) ∧
    NOwn w.heap.size (W.setCell ⟨g, 0, none⟩ (.int .i64 m)) (.slice (some ⟨G, 0, none⟩) M.length cap) M ∧ (w.heap.size + 2 ≤ g ∧ w.heap.size + 2 ≤ G) :=
  ⟨h.cst.setCell h.hg _, h.tre.set0 m, own_setCell h.own (by simp [Value.ownBlock]; exact h.ne_) _, h.hg, h.hG⟩
theorem and_drew {w W : World} {nx m : Int} {v : Value} {M : List ND} {g G cap : Nat} (h : CSt w nx v W ∧ BlkT W g m (.slice (some ⟨G, 0, none⟩) M.length cap) ∧ NOwn w.heap.size W (.slice (some ⟨G, 0, none⟩) M.length cap) M ∧ (w.heap.size + 2 ≤ g ∧ w.heap.size + 2 ≤ G)) :
    CSt w nx v W.drew ∧ BlkT W.drew g m (.slice (some ⟨G, 0, none⟩) M.length cap) ∧ NOwn w.heap.size W.drew (.slice (some ⟨G, 0, none⟩) M.length cap) M ∧ (w.heap.size + 2 ≤ g ∧ w.heap.size + 2 ≤ G) := ⟨h.1.drew, h.2⟩
theorem DSt.drew {w W : World} {nx : Int} {v : Value} {M : List ND} {g G cap : Nat} (h : DSt w nx v M W g G cap) : DSt w nx v M W.drew g G cap := ⟨h.cst.drew, h.tre, h.own, h.hg, h.hG, h.ne_⟩

set_option maxRecDepth 100000 in
set_option maxHeartbeats 12800000 in
theorem Create_any (nx : Int) (v : Value) (L : List ND) (d : Int) (x : List UInt8) (mode : Int) (uid gid : List UInt8) (now : Int) (w : World) (h : NRow w v L) (hV : Vld nx L) (hx : x.length ≤ 100000) (hmo : inI mode) :
    Calls Try.prog 33 #[treeV nx v, .int .i64 d, .string (mk x), .int .i64 mode, .string (mk uid), .string (mk gid), .int .i64 now] w fun e w' => Gives3 (createT (nx, L) d x mode uid gid now).1 (createT (nx, L) d x mode uid gid now).2.1 (createT (nx, L) d x mode uid gid now).2.2 w e w' := by
  obtain ⟨W, hW, hB0, hs0, hT0, hU0⟩ := start_tt w nx v
  obtain ⟨i0, hi, hz0, hz1, hz2⟩ := info_parts info_node
  have hl : L.length ≤ 1000000 := by have := hV.len; omega
  have hK := Lib.hid (checkCreate_any nx v L d x mode W (h.below hB0) hV hx hmo)
  have hCp := Lib.hid (fun W' (hB : Below w.heap.size w W') => copied_any nx v L W' (h.below hB) hV.ne hl)
  have hEd := Lib.hid (fun g lb eg W' (hB : Below w.heap.size w W') hE => edit_any g lb (touchN uid now) eg nx v L d W' (h.below hB) hV.rise hV.ne hl hV.vers hE)
  have hCh := Lib.hid (fun W => changeBy_any uid now W)
  have hN1 := Lib.hid (fun W => nameOf_any uid W)
  have hN2 := Lib.hid (fun W => nameOf_any gid W)
  have hTm := Lib.hid (fun W => timeOf_any now W)
  have hres := create_chk (nx := nx) (L := L) (d := d) (x := x) (mode := mode) (uid := uid) (gid := gid) (now := now) rfl
  generalize createT (nx, L) d x mode uid gid now = res at hres ⊢
  have HL := Lib.hid (edT_len L d (touchN uid now))
  generalize edT L d (touchN uid now) = M at *
  generalize chkT L nx d x mode = e at *
  replace hW := Lib.hid hW
  have H0 := Lib.hid (CSt.mk hB0 hT0 hU0)
  have h0 := hV.ne
  have hnx := hV.nxt
  have hnx1 : 1 < nx := by obtain ⟨r, hr, e, _⟩ := hV.root_mem; have := hV.ids r hr; omega
  obtain ⟨q, cap, rfl, hc, hm, _⟩ := h
  unfold treeV at hK hCp hEd ⊢
  clear hB0 hs0 hT0 hU0 hV hc hm hmo hx
  by_cases he : e ≠ 0
  · rw [if_pos he] at hres
    have he2 : (e != 0) = true := by simpa using he
    replace hres := Lib.hid hres
    clear he
    go_enter Try.func33, Try.ntmps33
    go_wp2_with ((first | simp only [hW.out] | skip); refine wpList_load_row rfl 26 _ rfl w.heap.size rfl 26 #[.int .i64 nx, .slice q L.length cap] (0, 0) _ H0.out.inn Try.underlying26 rfl (by kernel_rfl) ?_)
    refine hK.out.mono ?_
    rintro e w2 ⟨rfl, hB⟩
    have H2 := Lib.hid (H0.out.go hB)
    clear hB
    go_wp2_with (refine wpList_load_row rfl 26 _ rfl w.heap.size rfl 26 #[.int .i64 nx, .slice q L.length cap] (0, 0) _ H2.out.inn Try.underlying26 rfl (by kernel_rfl) ?_)
    refine (hCp.out _ H2.out.bel).mono ?_
    rintro e w3 ⟨v', rfl, hO3, hB3⟩
    have H3 := Lib.hid (H2.out.go hB3)
    obtain ⟨G, cap', rfl, hG1, _⟩ := hO3.form h0
    have hsz := H2.out.size
    have HO3 := Lib.hid hO3
    unfold treeV
    clear hB3 hO3
    go_wp2_with (refine wpList_store_row rfl 26 _ _ rfl (w.heap.size + 1) #[.int .i64 nx, .slice (some ⟨G, 0, none⟩) L.length cap'] rfl rfl 26 #[.int .i64 0, .slice none 0 0] H3.out.out (by kernel_rfl) rfl (treeA_one _ _ _ _) ?_)
    refine bodyPost_ret (results_tree3 (b := w.heap.size + 1) (nx := nx) (v := .slice (some ⟨G, 0, none⟩) L.length cap') rfl rfl (setRow_heap _ _ _ _ _ _ H3.out.out)) rfl ?_
    rw [hres.out]
    exact ⟨.slice (some ⟨G, 0, none⟩) L.length cap', rfl, (own_setRow (k := w.heap.size + 1) HO3.out (by simp [Value.ownBlock]; omega) _).row, below_setRow (g := w.heap.size + 1) H3.out.bel (by omega) _⟩
  · obtain rfl : e = 0 := by simpa using he
    rw [if_neg he] at hres
    obtain ⟨N, hN⟩ : ∃ N, M ++ [freshN nx d x mode uid gid now] = N := ⟨_, rfl⟩
    rw [hN] at hres
    replace hN := Lib.hid hN
    replace hres := Lib.hid hres
    clear he
    go_enter Try.func33, Try.ntmps33
    go_wp2_with ((first | simp only [hW.out] | skip); refine wpList_load_row rfl 26 _ rfl w.heap.size rfl 26 #[.int .i64 nx, .slice q L.length cap] (0, 0) _ H0.out.inn Try.underlying26 rfl (by kernel_rfl) ?_)
    refine hK.out.mono ?_
    rintro e w2 ⟨rfl, hB⟩
    have H2 := Lib.hid (H0.out.go hB)
    clear hB hK H0 hW
    go_wp2_with (first
      | (go_at_call 34; refine (hN1.out _).mono ?_; rintro e w' ⟨rfl, rfl⟩)
      | (go_at_call 35; refine (hTm.out _).mono ?_; rintro e w' ⟨rfl, rfl⟩))
    --B
    have H2d := Lib.hid H2.out.drew
    clear H2
    go_cut [20] from 35 to 40 (fun v20 wx => ∃ g G cap5, v20 = .pointer (some ⟨g, 0, none⟩) ∧ Hid (DSt w nx (.slice q L.length cap) M wx g G cap5))
    case first =>
      refine wp_region_held_drew (S := CSt w nx (.slice q L.length cap)) (by kernel_rfl) (H2d.out) (fun hHeld => ?_)
      refine takeD (i := 0) (oi := _) (d := some 35) (v := .agg #[.int .i64 nx, .slice q L.length cap]) rfl rfl (by kernel_rfl) (by kernel_rfl) (by kernel_rfl) (fun _ _ _ h => h) (yieldsIf_load_row (by rfl) 26 _ rfl w.heap.size rfl #[.int .i64 nx, .slice q L.length cap] (fun W' (hS : CSt w nx (.slice q L.length cap) W') => load_tree hS.inn)) (by assumption) ?_
      try simp only [Act.put, List.setIfInBounds_toArray, List.set_cons_zero, List.set_cons_succ]
      refine takeD (i := 1) (oi := _) (d := some 36) (v := .int .i64 d) rfl rfl (by kernel_rfl) (by kernel_rfl) (by kernel_rfl) (fun _ _ _ h => h) (Or.inl ⟨by rfl, fun W' hSw => by go_simp⟩) (by assumption) ?_
      try simp only [Act.put, List.setIfInBounds_toArray, List.set_cons_zero, List.set_cons_succ]
      refine takeD (i := 2) (oi := _) (d := some 37) (v := .string (mk uid)) rfl rfl (by kernel_rfl) (by kernel_rfl) (by kernel_rfl) (fun _ _ _ h => h) (Or.inl ⟨by rfl, fun W' hSw => by go_simp⟩) (by assumption) ?_
      try simp only [Act.put, List.setIfInBounds_toArray, List.set_cons_zero, List.set_cons_succ]
      refine takeD (i := 3) (oi := _) (d := some 38) (v := .int .i64 now) rfl rfl (by kernel_rfl) (by kernel_rfl) (by kernel_rfl) (fun _ _ _ h => h) (Or.inl ⟨by rfl, fun W' hSw => by go_simp⟩) (by assumption) ?_
      try simp only [Act.put, List.setIfInBounds_toArray, List.set_cons_zero, List.set_cons_succ]
      refine wpAnyH_ready (rs := [4, 6]) (by kernel_rfl) (by simp) ?_
      refine AllReadyH.cons (o := _) rfl (fun K hK => ?_) (AllReadyH.cons (o := _) rfl (fun K hK => ?_) AllReadyH.nil)
      · go_simp
        refine (hCh.out _).mono ?_
        rintro e W4 ⟨g4, lb4, rfl, eg4, hE4, hB4⟩
        have H4 := Lib.hid (CSt.go hHeld hB4)
        refine hK.out _ _ (H4.out) (fun hHeld => ?_)
        clear hK K
        try simp only [Act.put, List.setIfInBounds_toArray, List.set_cons_zero, List.set_cons_succ]
        have hE4' := hE4
        refine wpAnyH_ready (rs := [5, 6]) (by kernel_rfl) (by simp) ?_
        refine AllReadyH.cons (o := _) rfl (fun K hK => ?_) (AllReadyH.cons (o := _) rfl (fun K hK => ?_) AllReadyH.nil)
        · go_simp
          refine (hEd.out g4 lb4 eg4 _ H4.out.bel hE4).mono ?_
          rintro e W5 ⟨v5, rfl, hO5, hB5⟩
          have H5 := Lib.hid (CSt.go H4.out hB5)
          obtain ⟨G, cap5, rfl, hG1, hG2, _, _⟩ := hO5.form (by rw [HL.out]; exact h0)
          have hs4 := H4.out.size
          have HO5 := Lib.hid (NOwn.mono hO5 H4.out.bel.size)
          clear hO5
          refine hK.out _ _ (H5.out) (fun hHeld => ?_)
          clear hK K
          try simp only [Act.put, List.setIfInBounds_toArray, List.set_cons_zero, List.set_cons_succ]
          refine wpAnyH_ready (rs := [6]) (by kernel_rfl) (by simp) ?_
          refine AllReadyH.cons (o := _) rfl (fun K hK => ?_) AllReadyH.nil
          go_simp
          have h6 := (Below.refl W5.heap.size W5).alloc (Nat.le_refl _) (.cells #[.int .i64 0, .slice none 0 0] 26)
          have H6 := Lib.hid (H5.out.go h6)
          have HO6 := Lib.hid (HO5.out.below h6)
          have hX6 := Lib.hid (BlkT.new W5 0 (.slice none 0 0))
          have hs5 := H5.out.size
          clear h6
          refine hK.out _ _ (H6.out) (fun hHeld => ?_)
          clear hK K
          try simp only [Act.put, List.setIfInBounds_toArray, List.set_cons_zero, List.set_cons_succ]
          refine wpAnyH_ready (rs := [7]) (by kernel_rfl) (by simp) ?_
          refine AllReadyH.cons (o := _) rfl (fun K hK => ?_) AllReadyH.nil
          rw [if_pos (by rfl)]
          refine wp_store_row 26 _ _ rfl W5.heap.size #[.int .i64 nx, .slice (some ⟨G, 0, none⟩) M.length cap5] rfl rfl 26 #[.int .i64 0, .slice none 0 0] hX6.out (by kernel_rfl) rfl (treeA_one _ _ _ _) ?_
          have HD := Lib.hid (DSt.mk' H6.out HO6.out hX6.out (by omega) (by omega) (by omega) trivial)
          refine hK.out _ _ (HD.out.cst) (fun hHeld => ?_)
          clear hK K
          try simp only [Act.put, List.setIfInBounds_toArray, List.set_cons_zero, List.set_cons_succ]
          refine wpAnyH_done (by kernel_rfl) ?_ _
          go_wp2_with fail
          go_meet
          exact ⟨_, _, _, rfl, HD.out⟩
        · go_simp
          have h6 := (Below.refl W4.heap.size W4).alloc (Nat.le_refl _) (.cells #[.int .i64 0, .slice none 0 0] 26)
          have H6 := Lib.hid (H4.out.go h6)
          have hX6 := Lib.hid (BlkT.new W4 0 (.slice none 0 0))
          have hs4 := H4.out.size
          have hE6 := hE4.later h6
          have hl6 := h6.size
          clear h6
          refine hK.out _ _ (H6.out) (fun hHeld => ?_)
          clear hK K
          try simp only [Act.put, List.setIfInBounds_toArray, List.set_cons_zero, List.set_cons_succ]
          refine wpAnyH_ready (rs := [5]) (by kernel_rfl) (by simp) ?_
          refine AllReadyH.cons (o := _) rfl (fun K hK => ?_) AllReadyH.nil
          go_simp
          refine (hEd.out g4 lb4 eg4 _ H6.out.bel hE6).mono ?_
          rintro e W5 ⟨v5, rfl, hO5, hB5⟩
          have H5 := Lib.hid (CSt.go H6.out hB5)
          obtain ⟨G, cap5, rfl, hG1, hG2, _, _⟩ := hO5.form (by rw [HL.out]; exact h0)
          have HO5 := Lib.hid (NOwn.mono hO5 H6.out.bel.size)
          have hX5 := Lib.hid (hX6.out.below hB5 hX6.out.lt)
          have hlt6 := hX6.out.lt
          clear hO5
          refine hK.out _ _ (H5.out) (fun hHeld => ?_)
          clear hK K
          try simp only [Act.put, List.setIfInBounds_toArray, List.set_cons_zero, List.set_cons_succ]
          refine wpAnyH_ready (rs := [7]) (by kernel_rfl) (by simp) ?_
          refine AllReadyH.cons (o := _) rfl (fun K hK => ?_) AllReadyH.nil
          rw [if_pos (by rfl)]
          refine wp_store_row 26 _ _ rfl W4.heap.size #[.int .i64 nx, .slice (some ⟨G, 0, none⟩) M.length cap5] rfl rfl 26 #[.int .i64 0, .slice none 0 0] hX5.out (by kernel_rfl) rfl (treeA_one _ _ _ _) ?_
          have HD := Lib.hid (DSt.mk' H5.out HO5.out hX5.out (by omega) (by omega) (by omega) trivial)
          refine hK.out _ _ (HD.out.cst) (fun hHeld => ?_)
          clear hK K
          try simp only [Act.put, List.setIfInBounds_toArray, List.set_cons_zero, List.set_cons_succ]
          refine wpAnyH_done (by kernel_rfl) ?_ _
          go_wp2_with fail
          go_meet
          exact ⟨_, _, _, rfl, HD.out⟩
      · go_simp
        have h6 := (Below.refl w2.drew.heap.size w2.drew).alloc (Nat.le_refl _) (.cells #[.int .i64 0, .slice none 0 0] 26)
        have H6 := Lib.hid (H2d.out.go h6)
        have hX6 := Lib.hid (BlkT.new w2.drew 0 (.slice none 0 0))
        have hs4 := H2d.out.size
        clear h6
        refine hK.out _ _ (H6.out) (fun hHeld => ?_)
        clear hK K
        try simp only [Act.put, List.setIfInBounds_toArray, List.set_cons_zero, List.set_cons_succ]
        refine wpAnyH_ready (rs := [4]) (by kernel_rfl) (by simp) ?_
        refine AllReadyH.cons (o := _) rfl (fun K hK => ?_) AllReadyH.nil
        go_simp
        refine (hCh.out _).mono ?_
        rintro e W4 ⟨g4, lb4, rfl, eg4, hE4, hB4⟩
        have H4 := Lib.hid (CSt.go H6.out hB4)
        have hX4 := Lib.hid (hX6.out.below hB4 hX6.out.lt)
        refine hK.out _ _ (H4.out) (fun hHeld => ?_)
        clear hK K
        try simp only [Act.put, List.setIfInBounds_toArray, List.set_cons_zero, List.set_cons_succ]
        refine wpAnyH_ready (rs := [5]) (by kernel_rfl) (by simp) ?_
        refine AllReadyH.cons (o := _) rfl (fun K hK => ?_) AllReadyH.nil
        go_simp
        refine (hEd.out g4 lb4 eg4 _ H4.out.bel hE4).mono ?_
        rintro e W5 ⟨v5, rfl, hO5, hB5⟩
        have H5 := Lib.hid (CSt.go H4.out hB5)
        obtain ⟨G, cap5, rfl, hG1, hG2, _, _⟩ := hO5.form (by rw [HL.out]; exact h0)
        have HO5 := Lib.hid (NOwn.mono hO5 H4.out.bel.size)
        have hX5 := Lib.hid (hX4.out.below hB5 hX4.out.lt)
        have hlt6 := hX4.out.lt
        clear hO5
        refine hK.out _ _ (H5.out) (fun hHeld => ?_)
        clear hK K
        try simp only [Act.put, List.setIfInBounds_toArray, List.set_cons_zero, List.set_cons_succ]
        refine wpAnyH_ready (rs := [7]) (by kernel_rfl) (by simp) ?_
        refine AllReadyH.cons (o := _) rfl (fun K hK => ?_) AllReadyH.nil
        rw [if_pos (by rfl)]
        refine wp_store_row 26 _ _ rfl w2.drew.heap.size #[.int .i64 nx, .slice (some ⟨G, 0, none⟩) M.length cap5] rfl rfl 26 #[.int .i64 0, .slice none 0 0] hX5.out (by kernel_rfl) rfl (treeA_one _ _ _ _) ?_
        have HD := Lib.hid (DSt.mk' H5.out HO5.out hX5.out (by omega) (by omega) (by omega) trivial)
        refine hK.out _ _ (HD.out.cst) (fun hHeld => ?_)
        clear hK K
        try simp only [Act.put, List.setIfInBounds_toArray, List.set_cons_zero, List.set_cons_succ]
        refine wpAnyH_done (by kernel_rfl) ?_ _
        go_wp2_with fail
        go_meet
        exact ⟨_, _, _, rfl, HD.out⟩
    case rest =>
      obtain ⟨g, G, cap5, rfl, HD⟩ := hcut
      clear hCh hEd hCp hN1 hTm H2d
      go_wp2_with fail
      have HDd := Lib.hid HD.out.drew
      clear HD
      go_cut [] from 41 to 57 (fun wx => ∃ G7 cap7, Hid (DSt w nx (.slice q L.length cap) N wx g G7 cap7))
      case first =>
        refine wp_region_held_drew (S := CSt w nx (.slice q L.length cap)) (by kernel_rfl) (HDd.out.cst) (fun hHeld => ?_)
        have c1 := HDd.out.tre.c1
        generalize wc.drew = wd at *
        refine takeD (i := 0) (oi := _) (d := some 41) (v := .pointer (some ⟨g, 1, none⟩)) rfl rfl (by kernel_rfl) (by kernel_rfl) (by kernel_rfl) (fun _ _ _ h => h) (Or.inl ⟨by rfl, fun W' hSw => by go_simp⟩) (by assumption) ?_
        try simp only [Act.put, List.setIfInBounds_toArray, List.set_cons_zero, List.set_cons_succ]
        refine takeD (i := 2) (oi := _) (d := some 43) (v := .pointer (some ⟨w.heap.size, 0, none⟩)) rfl rfl (by kernel_rfl) (by kernel_rfl) (by kernel_rfl) (fun _ _ _ h => h) (Or.inl ⟨by rfl, fun W' hSw => by go_simp⟩) (by assumption) ?_
        try simp only [Act.put, List.setIfInBounds_toArray, List.set_cons_zero, List.set_cons_succ]
        refine takeD (i := 3) (oi := _) (d := some 44) (v := .int .i64 nx) rfl rfl (by kernel_rfl) (by kernel_rfl) (by kernel_rfl) (fun _ _ _ h => h) (Or.inl ⟨by rfl, fun W' hSw => by have x0 := hSw.inn.c0; go_simp⟩) (by assumption) ?_
        try simp only [Act.put, List.setIfInBounds_toArray, List.set_cons_zero, List.set_cons_succ]
        refine takeD (i := 4) (oi := _) (d := some 45) (v := .int .i64 d) rfl rfl (by kernel_rfl) (by kernel_rfl) (by kernel_rfl) (fun _ _ _ h => h) (Or.inl ⟨by rfl, fun W' hSw => by go_simp⟩) (by assumption) ?_
        try simp only [Act.put, List.setIfInBounds_toArray, List.set_cons_zero, List.set_cons_succ]
        refine takeD (i := 5) (oi := _) (d := some 46) (v := .string (mk x)) rfl rfl (by kernel_rfl) (by kernel_rfl) (by kernel_rfl) (fun _ _ _ h => h) (Or.inl ⟨by rfl, fun W' hSw => by go_simp⟩) (by assumption) ?_
        try simp only [Act.put, List.setIfInBounds_toArray, List.set_cons_zero, List.set_cons_succ]
        refine takeD (i := 6) (oi := _) (d := some 47) (v := .int .i64 mode) rfl rfl (by kernel_rfl) (by kernel_rfl) (by kernel_rfl) (fun _ _ _ h => h) (Or.inl ⟨by rfl, fun W' hSw => by go_simp⟩) (by assumption) ?_
        try simp only [Act.put, List.setIfInBounds_toArray, List.set_cons_zero, List.set_cons_succ]
        refine takeD (i := 7) (oi := _) (d := some 48) (v := .string (mk (shortL uid))) rfl rfl (by kernel_rfl) (by kernel_rfl) (by kernel_rfl) (fun _ _ _ h => h) (Or.inl ⟨by rfl, fun W' hSw => by go_simp⟩) (by assumption) ?_
        try simp only [Act.put, List.setIfInBounds_toArray, List.set_cons_zero, List.set_cons_succ]
        refine takeD (i := 8) (oi := _) (d := some 49) (v := .string (mk gid)) rfl rfl (by kernel_rfl) (by kernel_rfl) (by kernel_rfl) (fun _ _ _ h => h) (Or.inl ⟨by rfl, fun W' hSw => by go_simp⟩) (by assumption) ?_
        try simp only [Act.put, List.setIfInBounds_toArray, List.set_cons_zero, List.set_cons_succ]
        refine takeD (i := 10) (oi := _) (d := some 51) (v := .string (mk (shortL uid))) rfl rfl (by kernel_rfl) (by kernel_rfl) (by kernel_rfl) (fun _ _ _ h => h) (Or.inl ⟨by rfl, fun W' hSw => by go_simp⟩) (by assumption) ?_
        try simp only [Act.put, List.setIfInBounds_toArray, List.set_cons_zero, List.set_cons_succ]
        refine takeD (i := 11) (oi := _) (d := some 52) (v := .int .i64 (timeI now)) rfl rfl (by kernel_rfl) (by kernel_rfl) (by kernel_rfl) (fun _ _ _ h => h) (Or.inl ⟨by rfl, fun W' hSw => by go_simp⟩) (by assumption) ?_
        try simp only [Act.put, List.setIfInBounds_toArray, List.set_cons_zero, List.set_cons_succ]
        refine takeD (i := 12) (oi := _) (d := some 53) (v := .int .i64 (timeI now)) rfl rfl (by kernel_rfl) (by kernel_rfl) (by kernel_rfl) (fun _ _ _ h => h) (Or.inl ⟨by rfl, fun W' hSw => by go_simp⟩) (by assumption) ?_
        try simp only [Act.put, List.setIfInBounds_toArray, List.set_cons_zero, List.set_cons_succ]
        refine wpAnyH_ready (rs := [1, 9]) (by kernel_rfl) (by simp) ?_
        refine AllReadyH.cons (o := _) rfl (fun K hK => ?_) (AllReadyH.cons (o := _) rfl (fun K hK => ?_) AllReadyH.nil)
        · go_simp
          refine hK.out _ _ (HDd.out.cst) (fun hHeld => ?_)
          clear hK K
          try simp only [Act.put, List.setIfInBounds_toArray, List.set_cons_zero, List.set_cons_succ]
          refine wpAnyH_ready (rs := [9]) (by kernel_rfl) (by simp) ?_
          refine AllReadyH.cons (o := _) rfl (fun K hK => ?_) AllReadyH.nil
          go_simp
          refine (hN2.out _).mono ?_
          rintro e W9 ⟨rfl, rfl⟩
          refine hK.out _ _ (HDd.out.cst) (fun hHeld => ?_)
          clear hK K
          try simp only [Act.put, List.setIfInBounds_toArray, List.set_cons_zero, List.set_cons_succ]
          refine takeD (i := 13) (oi := _) (d := some 54) (v := .agg #[.int .i64 nx, .int .i64 d, .int .i64 0, .string (mk x), .int .i64 mode, .string (mk (shortL uid)), .string (mk (shortL gid)), .string (mk (shortL uid)), .int .i64 (timeI now), .int .i64 (timeI now), .string ⟨#[]⟩]) rfl rfl (by kernel_rfl) (by kernel_rfl) (by kernel_rfl) (fun _ _ _ h => h) (Or.inl ⟨by rfl, fun W' hSw => by go_simp⟩) (by assumption) ?_
          try simp only [Act.put, List.setIfInBounds_toArray, List.set_cons_zero, List.set_cons_succ]
          refine wpAnyH_ready (rs := [14]) (by kernel_rfl) (by simp) ?_
          refine AllReadyH.cons (o := _) rfl (fun K hK => ?_) AllReadyH.nil
          rw [if_pos (by rfl)]
          refine wp_build_one (.tmp 54) rfl (freshN nx d x mode uid gid now) rfl ?_
          have h6 := (Below.refl wd.heap.size wd).alloc (Nat.le_refl _) (.cells (cellsA (freshN nx d x mode uid gid now)) 31)
          have HD6 := Lib.hid (HDd.out.cst.go h6)
          have HO6 := Lib.hid (HDd.out.own.below h6)
          have HF6 := Lib.hid (BlkN.new wd (freshN nx d x mode uid gid now))
          have c1b := (HDd.out.tre.alloc (.cells (cellsA (freshN nx d x mode uid gid now)) 31)).c1
          clear h6
          refine hK.out _ _ (HD6.out) (fun hHeld => ?_)
          clear hK K
          try simp only [Act.put, List.setIfInBounds_toArray, List.set_cons_zero, List.set_cons_succ]
          refine wpAnyH_ready (rs := [15]) (by kernel_rfl) (by simp) ?_
          refine AllReadyH.cons (o := _) rfl (fun K hK => ?_) AllReadyH.nil
          rw [if_pos (by rfl)]
          refine wp_append_own _ (.tmp 42) (.tmp 55) 24 rfl w.heap.size 31 i0 (.agg (cellsA noN)) 11 128 Try.underlying24 hi hz0 hz1 hz2 rfl (by decide) _ _ _ rfl HO6.out ⟨wd.heap.size, 0, none⟩ 1 1 (cellsN (freshN nx d x mode uid gid now)) rfl rfl (cells_nodeAt HF6.out) (cellsN_one _) (by unfold maxLen; rw [HL.out]; omega) (by rw [HL.out]; omega) HD6.out.bel.size ?_
          intro v7 w7 hown7 hgr7 _
          obtain ⟨G7, cap7, rfl, hC7, k1, k2, hD7⟩ := HDd.out.app hN.out hown7 hgr7
          replace hC7 := Lib.hid hC7
          replace hD7 := Lib.hid hD7
          clear hown7 hgr7
          refine hK.out _ _ (hC7.out) (fun hHeld => ?_)
          clear hK K
          try simp only [Act.put, List.setIfInBounds_toArray, List.set_cons_zero, List.set_cons_succ]
          refine takeD (i := 16) (oi := _) (d := some 57) (v := .pointer (some ⟨g, 1, none⟩)) rfl rfl (by kernel_rfl) (by kernel_rfl) (by kernel_rfl) (fun _ _ _ h => h) (Or.inl ⟨by rfl, fun W' hSw => by go_simp⟩) (by assumption) ?_
          try simp only [Act.put, List.setIfInBounds_toArray, List.set_cons_zero, List.set_cons_succ]
          refine wpAnyH_ready (rs := [17]) (by kernel_rfl) (by simp) ?_
          refine AllReadyH.cons (o := _) rfl (fun K hK => ?_) AllReadyH.nil
          go_simp
          refine hK.out _ _ (hD7.out.cst) (fun hHeld => ?_)
          clear hK K
          try simp only [Act.put, List.setIfInBounds_toArray, List.set_cons_zero, List.set_cons_succ]
          refine wpAnyH_done (by kernel_rfl) ?_ _
          clear k1 k2 c1
          go_wp2_with fail
          go_meet
          exact ⟨_, _, hD7.out⟩
        · go_simp
          refine (hN2.out _).mono ?_
          rintro e W9 ⟨rfl, rfl⟩
          refine hK.out _ _ (HDd.out.cst) (fun hHeld => ?_)
          clear hK K
          try simp only [Act.put, List.setIfInBounds_toArray, List.set_cons_zero, List.set_cons_succ]
          refine takeD (i := 13) (oi := _) (d := some 54) (v := .agg #[.int .i64 nx, .int .i64 d, .int .i64 0, .string (mk x), .int .i64 mode, .string (mk (shortL uid)), .string (mk (shortL gid)), .string (mk (shortL uid)), .int .i64 (timeI now), .int .i64 (timeI now), .string ⟨#[]⟩]) rfl rfl (by kernel_rfl) (by kernel_rfl) (by kernel_rfl) (fun _ _ _ h => h) (Or.inl ⟨by rfl, fun W' hSw => by go_simp⟩) (by assumption) ?_
          try simp only [Act.put, List.setIfInBounds_toArray, List.set_cons_zero, List.set_cons_succ]
          refine wpAnyH_ready (rs := [1, 14]) (by kernel_rfl) (by simp) ?_
          refine AllReadyH.cons (o := _) rfl (fun K hK => ?_) (AllReadyH.cons (o := _) rfl (fun K hK => ?_) AllReadyH.nil)
          · go_simp
            refine hK.out _ _ (HDd.out.cst) (fun hHeld => ?_)
            clear hK K
            try simp only [Act.put, List.setIfInBounds_toArray, List.set_cons_zero, List.set_cons_succ]
            refine wpAnyH_ready (rs := [14]) (by kernel_rfl) (by simp) ?_
            refine AllReadyH.cons (o := _) rfl (fun K hK => ?_) AllReadyH.nil
            rw [if_pos (by rfl)]
            refine wp_build_one (.tmp 54) rfl (freshN nx d x mode uid gid now) rfl ?_
            have h6 := (Below.refl wd.heap.size wd).alloc (Nat.le_refl _) (.cells (cellsA (freshN nx d x mode uid gid now)) 31)
            have HD6 := Lib.hid (HDd.out.cst.go h6)
            have HO6 := Lib.hid (HDd.out.own.below h6)
            have HF6 := Lib.hid (BlkN.new wd (freshN nx d x mode uid gid now))
            have c1b := (HDd.out.tre.alloc (.cells (cellsA (freshN nx d x mode uid gid now)) 31)).c1
            clear h6
            refine hK.out _ _ (HD6.out) (fun hHeld => ?_)
            clear hK K
            try simp only [Act.put, List.setIfInBounds_toArray, List.set_cons_zero, List.set_cons_succ]
            refine wpAnyH_ready (rs := [15]) (by kernel_rfl) (by simp) ?_
            refine AllReadyH.cons (o := _) rfl (fun K hK => ?_) AllReadyH.nil
            rw [if_pos (by rfl)]
            refine wp_append_own _ (.tmp 42) (.tmp 55) 24 rfl w.heap.size 31 i0 (.agg (cellsA noN)) 11 128 Try.underlying24 hi hz0 hz1 hz2 rfl (by decide) _ _ _ rfl HO6.out ⟨wd.heap.size, 0, none⟩ 1 1 (cellsN (freshN nx d x mode uid gid now)) rfl rfl (cells_nodeAt HF6.out) (cellsN_one _) (by unfold maxLen; rw [HL.out]; omega) (by rw [HL.out]; omega) HD6.out.bel.size ?_
            intro v7 w7 hown7 hgr7 _
            obtain ⟨G7, cap7, rfl, hC7, k1, k2, hD7⟩ := HDd.out.app hN.out hown7 hgr7
            replace hC7 := Lib.hid hC7
            replace hD7 := Lib.hid hD7
            clear hown7 hgr7
            refine hK.out _ _ (hC7.out) (fun hHeld => ?_)
            clear hK K
            try simp only [Act.put, List.setIfInBounds_toArray, List.set_cons_zero, List.set_cons_succ]
            refine takeD (i := 16) (oi := _) (d := some 57) (v := .pointer (some ⟨g, 1, none⟩)) rfl rfl (by kernel_rfl) (by kernel_rfl) (by kernel_rfl) (fun _ _ _ h => h) (Or.inl ⟨by rfl, fun W' hSw => by go_simp⟩) (by assumption) ?_
            try simp only [Act.put, List.setIfInBounds_toArray, List.set_cons_zero, List.set_cons_succ]
            refine wpAnyH_ready (rs := [17]) (by kernel_rfl) (by simp) ?_
            refine AllReadyH.cons (o := _) rfl (fun K hK => ?_) AllReadyH.nil
            go_simp
            refine hK.out _ _ (hD7.out.cst) (fun hHeld => ?_)
            clear hK K
            try simp only [Act.put, List.setIfInBounds_toArray, List.set_cons_zero, List.set_cons_succ]
            refine wpAnyH_done (by kernel_rfl) ?_ _
            clear k1 k2 c1
            go_wp2_with fail
            go_meet
            exact ⟨_, _, hD7.out⟩
          · rw [if_pos (by rfl)]
            refine wp_build_one (.tmp 54) rfl (freshN nx d x mode uid gid now) rfl ?_
            have h6 := (Below.refl wd.heap.size wd).alloc (Nat.le_refl _) (.cells (cellsA (freshN nx d x mode uid gid now)) 31)
            have HD6 := Lib.hid (HDd.out.cst.go h6)
            have HO6 := Lib.hid (HDd.out.own.below h6)
            have HF6 := Lib.hid (BlkN.new wd (freshN nx d x mode uid gid now))
            have c1b := (HDd.out.tre.alloc (.cells (cellsA (freshN nx d x mode uid gid now)) 31)).c1
            clear h6
            refine hK.out _ _ (HD6.out) (fun hHeld => ?_)
            clear hK K
            try simp only [Act.put, List.setIfInBounds_toArray, List.set_cons_zero, List.set_cons_succ]
            refine wpAnyH_ready (rs := [1]) (by kernel_rfl) (by simp) ?_
            refine AllReadyH.cons (o := _) rfl (fun K hK => ?_) AllReadyH.nil
            go_simp
            refine hK.out _ _ (HD6.out) (fun hHeld => ?_)
            clear hK K
            try simp only [Act.put, List.setIfInBounds_toArray, List.set_cons_zero, List.set_cons_succ]
            refine wpAnyH_ready (rs := [15]) (by kernel_rfl) (by simp) ?_
            refine AllReadyH.cons (o := _) rfl (fun K hK => ?_) AllReadyH.nil
            rw [if_pos (by rfl)]
            refine wp_append_own _ (.tmp 42) (.tmp 55) 24 rfl w.heap.size 31 i0 (.agg (cellsA noN)) 11 128 Try.underlying24 hi hz0 hz1 hz2 rfl (by decide) _ _ _ rfl HO6.out ⟨wd.heap.size, 0, none⟩ 1 1 (cellsN (freshN nx d x mode uid gid now)) rfl rfl (cells_nodeAt HF6.out) (cellsN_one _) (by unfold maxLen; rw [HL.out]; omega) (by rw [HL.out]; omega) HD6.out.bel.size ?_
            intro v7 w7 hown7 hgr7 _
            obtain ⟨G7, cap7, rfl, hC7, k1, k2, hD7⟩ := HDd.out.app hN.out hown7 hgr7
            replace hC7 := Lib.hid hC7
            replace hD7 := Lib.hid hD7
            clear hown7 hgr7
            refine hK.out _ _ (hC7.out) (fun hHeld => ?_)
            clear hK K
            try simp only [Act.put, List.setIfInBounds_toArray, List.set_cons_zero, List.set_cons_succ]
            refine takeD (i := 16) (oi := _) (d := some 57) (v := .pointer (some ⟨g, 1, none⟩)) rfl rfl (by kernel_rfl) (by kernel_rfl) (by kernel_rfl) (fun _ _ _ h => h) (Or.inl ⟨by rfl, fun W' hSw => by go_simp⟩) (by assumption) ?_
            try simp only [Act.put, List.setIfInBounds_toArray, List.set_cons_zero, List.set_cons_succ]
            refine wpAnyH_ready (rs := [17]) (by kernel_rfl) (by simp) ?_
            refine AllReadyH.cons (o := _) rfl (fun K hK => ?_) AllReadyH.nil
            go_simp
            refine hK.out _ _ (hD7.out.cst) (fun hHeld => ?_)
            clear hK K
            try simp only [Act.put, List.setIfInBounds_toArray, List.set_cons_zero, List.set_cons_succ]
            refine wpAnyH_done (by kernel_rfl) ?_ _
            clear k1 k2 c1
            go_wp2_with fail
            go_meet
            exact ⟨_, _, hD7.out⟩
      case rest =>
        obtain ⟨G7, cap7, HD⟩ := hcut
        clear HDd hN2
        have c0 := HD.out.tre.c0
        have f0 := HD.out.tre.frozen 0
        have HE := Lib.hid (HD.out.plus (nx + 1))
        clear HD
        go_wp2_with fail
        have HEd := Lib.hid (and_drew HE.out)
        clear HE c0 f0
        refine wp_region_held_drew (S := fun W' => BlkT W' w.heap.size nx (.slice q L.length cap) ∧ BlkT W' g (nx + 1) (.slice (some ⟨G7, 0, none⟩) N.length cap7)) (by kernel_rfl) (⟨HEd.out.1.inn, HEd.out.2.1⟩) (fun hHeld => ?_)
        have HC := Lib.hid HEd.out.1.out
        refine takeD (i := 0) (oi := _) (d := some 62) (v := .agg #[.int .i64 (nx + 1), .slice (some ⟨G7, 0, none⟩) N.length cap7]) rfl rfl (by kernel_rfl) (by kernel_rfl) (by kernel_rfl) (fun _ _ _ h => h) (yieldsIf_load_row (by rfl) 26 _ rfl g rfl #[.int .i64 (nx + 1), .slice (some ⟨G7, 0, none⟩) N.length cap7] (fun W' (hS : BlkT W' w.heap.size nx (.slice q L.length cap) ∧ BlkT W' g (nx + 1) (.slice (some ⟨G7, 0, none⟩) N.length cap7)) => load_tree hS.2)) (by assumption) ?_
        try simp only [Act.put, List.setIfInBounds_toArray, List.set_cons_zero, List.set_cons_succ]
        refine takeD (i := 1) (oi := _) (d := some 63) (v := .pointer (some ⟨w.heap.size, 0, none⟩)) rfl rfl (by kernel_rfl) (by kernel_rfl) (by kernel_rfl) (fun _ _ _ h => h) (Or.inl ⟨by rfl, fun W' hSw => by go_simp⟩) (by assumption) ?_
        try simp only [Act.put, List.setIfInBounds_toArray, List.set_cons_zero, List.set_cons_succ]
        refine takeD (i := 2) (oi := _) (d := some 64) (v := .int .i64 nx) rfl rfl (by kernel_rfl) (by kernel_rfl) (by kernel_rfl) (fun _ _ _ h => h) (Or.inl ⟨by rfl, fun W' hSw => by have x0 := BlkT.c0 (And.left hSw); go_simp⟩) (by assumption) ?_
        try simp only [Act.put, List.setIfInBounds_toArray, List.set_cons_zero, List.set_cons_succ]
        refine wpAnyH_ready (rs := [3]) (by kernel_rfl) (by simp) ?_
        refine AllReadyH.cons (o := _) rfl (fun K hK => ?_) AllReadyH.nil
        rw [if_pos (by rfl)]
        refine wp_store_row 26 _ _ rfl (w.heap.size + 1) #[.int .i64 (nx + 1), .slice (some ⟨G7, 0, none⟩) N.length cap7] rfl rfl 26 #[.int .i64 0, .slice none 0 0] HC.out (by kernel_rfl) rfl (treeA_one _ _ _ _) ?_
        refine hK.out _ _ (⟨HEd.out.1.inn.setRow (by omega) _, HEd.out.2.1.setRow (by have := HEd.out.2.2.2; omega) _⟩) (fun hHeld => ?_)
        clear hK K
        try simp only [Act.put, List.setIfInBounds_toArray, List.set_cons_zero, List.set_cons_succ]
        refine takeD (i := 4) (oi := _) (d := some 15) (v := .int .i64 nx) rfl rfl (by kernel_rfl) (by kernel_rfl) (by kernel_rfl) (fun _ _ _ h => h) (Or.inl ⟨by rfl, fun W' hSw => by go_simp⟩) (by assumption) ?_
        try simp only [Act.put, List.setIfInBounds_toArray, List.set_cons_zero, List.set_cons_succ]
        refine takeD (i := 5) (oi := _) (d := some 16) (v := .int .i64 0) rfl rfl (by kernel_rfl) (by kernel_rfl) (by kernel_rfl) (fun _ _ _ h => h) (Or.inl ⟨by rfl, fun W' hSw => by go_simp⟩) (by assumption) ?_
        try simp only [Act.put, List.setIfInBounds_toArray, List.set_cons_zero, List.set_cons_succ]
        refine wpAnyH_done (by kernel_rfl) ?_ _
        go_wp2_with fail
        refine bodyPost_ret (results_tree3 (b := w.heap.size + 1) (nx := nx + 1) (v := .slice (some ⟨G7, 0, none⟩) N.length cap7) rfl rfl (setRow_heap _ _ _ _ _ _ HC.out)) rfl ?_
        rw [hres.out]
        exact ⟨.slice (some ⟨G7, 0, none⟩) N.length cap7, rfl, (own_setRow (k := w.heap.size + 1) HEd.out.2.2.1 (by have := HEd.out.2.2.2; simp [Value.ownBlock]; omega) _).row, below_setRow (g := w.heap.size + 1) HEd.out.1.bel (by omega) _⟩
end Go.Proofs.Ytalhkoolpnmcdaa
