/-
  Lists of messages in memory.
-/
import Derived.Test.YtlfdmbfbfadifaaGreatDoorZp
import Derived.Maps.AppendAt
import Derived.Great.BuildSlice
namespace Go.Proofs.YtlfdmbfbfadifaaGreatDoor
open Go.RowKit

def atM (L : List MM) (k : Nat) : MM := L.getD k noM
def flatM (L : List MM) : List Value := L.flatMap cellsM
theorem cellsM_len (m : MM) : (cellsM m).length = 39 := rfl
theorem flatM_get (L : List MM) : ∀ (k j : Nat), k < L.length → j < 39 → (flatM L)[k * 39 + j]? = (cellsM (atM L k))[j]? := by
  induction L with
  | nil => intro k j hk; simp at hk
  | cons d L ih =>
    intro k j hk hj
    rw [flatM, List.flatMap_cons]
    cases k with
    | zero =>
      rw [List.getElem?_append_left (by rw [cellsM_len]; omega)]
      simp [atM]
    | succ k =>
      rw [List.getElem?_append_right (by rw [cellsM_len]; omega), cellsM_len, show (k + 1) * 39 + j - 39 = k * 39 + j by omega]
      have := ih k j (by simpa using hk) hj
      rw [flatM] at this
      rw [this]
      simp [atM]
theorem flatM_snoc (L : List MM) (d : MM) : flatM (L ++ [d]) = flatM L ++ cellsM d := by simp [flatM]
/-- A message whose lists outlive what happens to the block o. -/
def RowB (o : Option Nat) (w : World) (m : MM) : Prop := ∀ w' : World, w.heap.size ≤ w'.heap.size → (∀ j, some j ≠ o → j < w.heap.size → w'.heap[j]? = w.heap[j]?) → RowM w' m
theorem RowA.toB {B : Nat} {w : World} {m : MM} {o : Option Nat} (h : RowA B w m) (ho : ∀ k, o = some k → k < B) : RowB o w m := fun w' hs hb =>
  (h.to hs (fun j hj hl => hb j (fun e => by have := ho j e.symm; omega) hl)).row
theorem RowB.row {o : Option Nat} {w : World} {m : MM} (h : RowB o w m) : RowM w m := h w (Nat.le_refl _) (fun _ _ _ => rfl)
theorem RowB.below {o : Option Nat} {w w' : World} {m : MM} (h : RowB o w m) (hB : Below w.heap.size w w') : RowB o w' m := fun w2 hs hb =>
  h w2 (Nat.le_trans hB.size hs) (fun j hj hl => (hb j hj (Nat.lt_of_lt_of_le hl hB.size)).trans (hB.block j hl))
theorem RowB.grown {o o' : Option Nat} {w w' : World} {m : MM} (h : RowB o w m) (hg : w.grownBy w' o) (ho : o' = o ∨ o' = some w.heap.size) : RowB o' w' m := fun w2 hs hb =>
  h w2 (Nat.le_trans hg.size hs) (fun j hj hl => (hb j (by
    rcases ho with rfl | rfl
    · exact hj
    · intro e; injection e with e; omega) (Nat.lt_of_lt_of_le hl hg.size)).trans (hg.block j hl hj))
/-- The slice v holds the messages L. -/
def MSRow (w : World) (v : Value) (L : List MM) : Prop :=
  (∃ p cap, v = .slice p L.length cap ∧ L.length ≤ cap ∧ cap ≤ maxLen ∧ (L ≠ [] → ∃ b o, p = some ⟨b, o, none⟩ ∧ b < w.heap.size ∧ ∀ k, k < L.length → ∀ j u, (cellsM (atM L k))[j]? = some u → w.cell? ⟨b, o + k * 39 + j, none⟩ = some u)) ∧ ∀ m ∈ L, RowM w m
theorem MSRow.below {w w' : World} {v : Value} {L : List MM} (h : MSRow w v L) (hB : Below w.heap.size w w') : MSRow w' v L := by
  obtain ⟨⟨p, cap, rfl, hc, hm, h⟩, hr⟩ := h
  refine ⟨⟨p, cap, rfl, hc, hm, fun hL => ?_⟩, fun m hm => (hr m hm).below hB⟩
  obtain ⟨b, o, rfl, hb, hcell⟩ := h hL
  exact ⟨b, o, rfl, Nat.lt_of_lt_of_le hb hB.size, fun k hk j u hu => (hB.cell (p := ⟨b, o + k * 39 + j, none⟩) hb).trans (hcell k hk j u hu)⟩
theorem MSRow.nil_ (w : World) : MSRow w (.slice none 0 0) [] := ⟨⟨none, 0, rfl, Nat.le_refl _, Nat.zero_le _, fun h => absurd rfl h⟩, fun _ h => absurd h List.not_mem_nil⟩
/-- A slice of the call's own that holds the messages L. -/
def MSOwn (B : Nat) (w : World) (v : Value) (L : List MM) : Prop := w.ownsRow B 30 39 v L.length (flatM L) ∧ ∀ m ∈ L, RowB v.ownBlock w m
theorem MSOwn.nil_ (B : Nat) (w : World) : MSOwn B w (.slice none 0 0) [] := ⟨World.ownsRow_nil _ _ _ _, fun _ h => absurd h List.not_mem_nil⟩
theorem MSOwn.row {B : Nat} {w : World} {v : Value} {acc : List MM} (h : MSOwn B w v acc) : MSRow w v acc := by
  obtain ⟨hown, hr⟩ := h
  refine ⟨?_, fun m hm => (hr m hm).row⟩
  obtain ⟨h1, h2⟩ := id hown
  rcases h2 with ⟨rfl, hx⟩ | ⟨g, cap, cur, rfl, hb, hg, hnc, hcm, rest⟩
  · have : acc = [] := List.eq_nil_of_length_eq_zero hx
    subst this
    exact (MSRow.nil_ w).1
  · refine ⟨some ⟨g, 0, none⟩, cap, rfl, hnc, hcm, fun _ => ⟨g, 0, rfl, (Array.getElem?_eq_some_iff.1 hg).1, fun k hkl j u hu => ?_⟩⟩
    have hj : j < 39 := by
      have := (List.getElem?_eq_some_iff.1 hu).1
      rwa [cellsM_len] at this
    have := World.ownsRow.cells (w := w) hown rfl (k * 39 + j) u ((flatM_get acc k j hkl hj).trans hu)
    rw [add_at] at this
    rw [show 0 + k * 39 + j = 0 + (k * 39 + j) by omega]
    exact this
theorem MSOwn.below {B : Nat} {w w' : World} {v : Value} {acc : List MM} (h : MSOwn B w v acc) (hB : Below w.heap.size w w') : MSOwn B w' v acc :=
  ⟨World.ownsRow.kept (row := none) h.1 ⟨hB.os, hB.tape, hB.output, hB.size, fun k hk _ => hB.block k hk⟩ (by cases v.ownBlock <;> simp), fun m hm => (h.2 m hm).below hB⟩
theorem MSOwn.more {B : Nat} {w w' : World} {v v' : Value} {acc : List MM} {d : MM} (h : MSOwn B w v acc) (hd : RowB v.ownBlock w d) (hg : w.grownBy w' v.ownBlock) (ho : v'.ownBlock = v.ownBlock ∨ v'.ownBlock = some w.heap.size)
    (h2 : w'.ownsRow B 30 39 v' (acc.length + 1) (flatM acc ++ cellsM d)) : MSOwn B w' v' (acc ++ [d]) := by
  refine ⟨?_, fun m hm => ?_⟩
  · rw [List.length_append, flatM_snoc]; exact h2
  · rcases List.mem_append.1 hm with hm | hm
    · exact (h.2 m hm).grown hg ho
    · rw [List.mem_singleton] at hm
      subst hm
      exact hd.grown hg ho
theorem MSOwn.lt {B : Nat} {w : World} {v : Value} {acc : List MM} (h : MSOwn B w v acc) : ∀ k, v.ownBlock = some k → k < w.heap.size := fun k hk => (h.1.lt k hk).2
theorem below_grown {B : Nat} {w w1 : World} {e : TypeId} {sz : Nat} {v : Value} {n : Nat} {xs : List Value} (hB : B ≤ w.heap.size) (hown : w.ownsRow B e sz v n xs) (hg : w.grownBy w1 v.ownBlock) : Below B w w1 :=
  (Below.refl B w).grown hg hB (fun k hk => (hown.lt k hk).1)
theorem info_msgZ : (Tryz.prog.info? 30).map (fun i => (i.zero, i.size, i.bytes)) = some (some (.agg (cellsB noM)), 39, 424) := by kernel_rfl
theorem fill_oneM (d : MM) (i0 : TypeInfo) (h : i0.size = 39) : Instr.fill (fun i => some (i * i0.size, i0.size)) ((Array.range (1 * i0.size)).map ((Value.agg (cellsB noM)).cells[· % (Value.agg (cellsB noM)).cells.size]!)) [(0, .agg (cellsB d))] = some (cellsB d) := by
  rw [h]
  show _ = _
  kernel_rfl
theorem wpList_build_oneM {ops : Array Oper} {rest : List Oper} {o : Oper} {a : Act} {w : World} {Q : Exit → Act → World → Prop} (hg : o.guard = none) (x : Operand) (ho : o.op = .buildSlice 40 1 #[(0, x)]) (d : MM) (hx : a.eval x = .agg (cellsB d))
    (h : wpList Tryz.prog ops Q rest (a.put o.dst (.slice (some ⟨w.heap.size, 0, none⟩) 1 1)) (w.alloc (.cells (cellsB d) 30))) : wpList Tryz.prog ops Q (o :: rest) a w := by
  obtain ⟨i0, hi, hz0, hz1, hz2⟩ := info_parts info_msgZ
  refine wpList_buildSlice hg _ _ 1 _ ho (cellsB d) i0 (.agg (cellsB noM)) Tryz.underlying40 hi hz0 (by rw [hz1]; decide) (by rw [hz1]; decide) ?_ h
  simp only [List.map_toArray, List.map_cons, List.map_nil, hx]
  exact fill_oneM d i0 hz1
theorem cells_msgAt {w : World} {b : Nat} {d : MM} (h : BlkM w b d) : ∀ j u, (cellsM d)[j]? = some u → w.cell? ((⟨b, 0, none⟩ : Addr).add j) = some u := fun j u hu => by
  rw [add_at, Nat.zero_add, h.cell j]; exact hu
theorem cellsM_one (d : MM) (h : (cellsB d).all (·.oneCell') = true) : ∀ u ∈ cellsM d, u.oneCell' = true := fun u hu => (Array.all_eq_true_iff_forall_mem.1 h) u (by simpa [cellsB] using hu)

/-! ### What Split comes to -/
def strip (m : MM) : MM := withV m nilS nilS
/-- From the offset a on, acc read already; at most n more. -/
def splR (l : List UInt8) (lim : Int) : Nat → List MM → Nat → List MM × List UInt8 × Int
  | 0, acc, a => (acc, l.drop a, 0)
  | n + 1, acc, a =>
    if l.length < a + 4 then (acc, l.drop a, 0) else if lim < (getR l (a : Int) 4).1 ∨ (getR l (a : Int) 4).1 < 7 then ([], [], 19)
    else if (l.length : Int) - (a : Int) < (getR l (a : Int) 4).1 then (acc, l.drop a, 0)
    else if (getW l (a : Int)).2.2 ≠ 0 then ([], [], (getW l (a : Int)).2.2) else splR l lim n (acc ++ [(getW l (a : Int)).1]) (getW l (a : Int)).2.1.toNat
def limR (ms : Int) : Int := if ms = 0 ∨ 8192 < ms then 8192 else ms
def splW (l : List UInt8) (ms : Int) : List MM × List UInt8 × Int := splR l (limR ms) (l.length + 1) [] 0
theorem splR_end {l : List UInt8} {lim : Int} {n a : Nat} {acc : List MM} (h : l.length < a + 4) : splR l lim n acc a = (acc, l.drop a, 0) := by
  cases n with
  | zero => rfl
  | succ n => rw [splR, if_pos h]
theorem splR_bad {l : List UInt8} {lim : Int} {n a : Nat} {acc : List MM} (hn : 0 < n) (h : ¬ l.length < a + 4) (h1 : lim < (getR l (a : Int) 4).1 ∨ (getR l (a : Int) 4).1 < 7) : splR l lim n acc a = ([], [], 19) := by
  obtain ⟨m, rfl⟩ : ∃ m, n = m + 1 := ⟨n - 1, by omega⟩
  rw [splR, if_neg h, if_pos h1]
theorem splR_part {l : List UInt8} {lim : Int} {n a : Nat} {acc : List MM} (hn : 0 < n) (h : ¬ l.length < a + 4) (h1 : ¬ (lim < (getR l (a : Int) 4).1 ∨ (getR l (a : Int) 4).1 < 7)) (h2 : (l.length : Int) - (a : Int) < (getR l (a : Int) 4).1) : splR l lim n acc a = (acc, l.drop a, 0) := by
  obtain ⟨m, rfl⟩ : ∃ m, n = m + 1 := ⟨n - 1, by omega⟩
  rw [splR, if_neg h, if_neg h1, if_pos h2]
theorem splR_err {l : List UInt8} {lim : Int} {n a : Nat} {acc : List MM} (hn : 0 < n) (h : ¬ l.length < a + 4) (h1 : ¬ (lim < (getR l (a : Int) 4).1 ∨ (getR l (a : Int) 4).1 < 7)) (h2 : ¬ (l.length : Int) - (a : Int) < (getR l (a : Int) 4).1) {m : MM} {x e : Int} (hg : getW l (a : Int) = (m, x, e)) (he : e ≠ 0) : splR l lim n acc a = ([], [], e) := by
  obtain ⟨k, rfl⟩ : ∃ m, n = m + 1 := ⟨n - 1, by omega⟩
  rw [splR, if_neg h, if_neg h1, if_neg h2, hg, if_pos he]
theorem splR_step {l : List UInt8} {lim : Int} {n a : Nat} {acc : List MM} (hn : 0 < n) (h : ¬ l.length < a + 4) (h1 : ¬ (lim < (getR l (a : Int) 4).1 ∨ (getR l (a : Int) 4).1 < 7)) (h2 : ¬ (l.length : Int) - (a : Int) < (getR l (a : Int) 4).1) {m : MM} {x : Int} (hg : getW l (a : Int) = (m, x, 0)) : splR l lim n acc a = splR l lim (n - 1) (acc ++ [m]) x.toNat := by
  obtain ⟨k, rfl⟩ : ∃ m, n = m + 1 := ⟨n - 1, by omega⟩
  rw [splR, if_neg h, if_neg h1, if_neg h2, hg, if_neg (by simp)]
  rfl
theorem rdF_nv (b : List UInt8) (m : MM) (s : RS) {f : Nat} (hf : f < 23) : (rdF b m s f).1.nv = m.nv ∧ (rdF b m s f).1.qv = m.qv := by
  rcases k23 hf with rfl | rfl | rfl | rfl | rfl | rfl | rfl | rfl | rfl | rfl | rfl | rfl | rfl | rfl | rfl | rfl | rfl | rfl | rfl | rfl | rfl | rfl | rfl <;> exact ⟨rfl, rfl⟩
theorem rdTo_nv (b : List UInt8) : ∀ j, (rdTo b j).1.nv = nilS ∧ (rdTo b j).1.qv = nilS
  | 0 => ⟨rfl, rfl⟩
  | j + 1 => ⟨(rdF_nv b _ _ (fld_lt _ _)).1.trans (rdTo_nv b j).1, (rdF_nv b _ _ (fld_lt _ _)).2.trans (rdTo_nv b j).2⟩
theorem getB_nv (b : List UInt8) : (getB b).1.nv = nilS ∧ (getB b).1.qv = nilS := by
  unfold getB
  split
  · exact ⟨rfl, rfl⟩
  · split
    · exact ⟨rfl, rfl⟩
    · exact rdTo_nv b _
theorem getW_nv (l : List UInt8) (a : Int) : (getW l a).1.nv = nilS ∧ (getW l a).1.qv = nilS := by
  unfold getW
  split
  · exact ⟨rfl, rfl⟩
  · split
    · exact ⟨rfl, rfl⟩
    · exact getB_nv _
theorem strip_with {m : MM} (h : m.nv = nilS ∧ m.qv = nilS) (v1 v2 : Value) : strip (withV m v1 v2) = m := by
  cases m
  obtain ⟨h1, h2⟩ := h
  dsimp only at h1 h2
  subst h1 h2
  rfl
theorem getW_next {l : List UInt8} {a : Nat} {m : MM} {x : Int} (hg : getW l (a : Int) = (m, x, 0)) : ∃ c : Nat, x = c ∧ a + 7 ≤ c ∧ c ≤ l.length := by
  have hb := sizeR_bnd (l := l) (a := (a : Int))
  unfold getW at hg
  split at hg
  · rename_i h; injection hg with _ hg; injection hg with _ hg; exact absurd hg h
  · rename_i h
    split at hg
    · rename_i h; injection hg with _ hg; injection hg with _ hg; exact absurd hg h
    · injection hg with _ hg
      injection hg with hg _
      obtain ⟨h1, h2, h3, h4⟩ := hb (by simpa using h)
      exact ⟨x.toNat, by omega, by omega, by omega⟩
theorem mk_tail (l : List UInt8) (a : Nat) (h : a ≤ l.length) : (mk l).extract a (mk l).size = mk (l.drop a) := by
  have := mk_slice l a (l.length - a)
  rw [show a + (l.length - a) = l.length by omega] at this
  rw [mk_size, this]
  unfold cut
  rw [List.take_of_length_le (by rw [List.length_drop]; omega)]
end Go.Proofs.YtlfdmbfbfadifaaGreatDoor
