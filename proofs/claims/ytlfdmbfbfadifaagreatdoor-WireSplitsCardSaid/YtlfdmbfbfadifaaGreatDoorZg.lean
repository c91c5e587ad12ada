/-
  The reader as a coder: its methods behind the interface; a qid; names.
  The reader: names.
-/
import Derived.Test.YtlfdmbfbfadifaaGreatDoorZd
import Derived.OwnWalk
import Derived.Deep.AppendLies
import Derived.Laws.OwnMore
import Derived.Maps.AppendAt
import Derived.Great.BuildSlice
import Derived.Lib.OthersKept
import Derived.Lib.OwnKind
import Derived.Deep.RegionLaw
namespace Go.Proofs.YtlfdmbfbfadifaaGreatDoor
open Go.RowKit

section
variable (k n : Nat) (W : World)
theorem nilR_number : (nilAhead (n + 1) 94 (.pointer (some ⟨k, 0, none⟩)) "filespace/wire.number").run Tryz.prog W = .ok (some false) W := by kernel_rfl
theorem metR_number : (method (n + 1) 94 (.pointer (some ⟨k, 0, none⟩)) "filespace/wire.number").run Tryz.prog W = .ok (138, .pointer (some ⟨k, 0, none⟩)) W := by kernel_rfl
theorem nilR_text : (nilAhead (n + 1) 94 (.pointer (some ⟨k, 0, none⟩)) "filespace/wire.text").run Tryz.prog W = .ok (some false) W := by kernel_rfl
theorem metR_text : (method (n + 1) 94 (.pointer (some ⟨k, 0, none⟩)) "filespace/wire.text").run Tryz.prog W = .ok (140, .pointer (some ⟨k, 0, none⟩)) W := by kernel_rfl
theorem nilR_data : (nilAhead (n + 1) 94 (.pointer (some ⟨k, 0, none⟩)) "filespace/wire.data").run Tryz.prog W = .ok (some false) W := by kernel_rfl
theorem metR_data : (method (n + 1) 94 (.pointer (some ⟨k, 0, none⟩)) "filespace/wire.data").run Tryz.prog W = .ok (134, .pointer (some ⟨k, 0, none⟩)) W := by kernel_rfl
theorem nilR_names : (nilAhead (n + 1) 94 (.pointer (some ⟨k, 0, none⟩)) "filespace/wire.names").run Tryz.prog W = .ok (some false) W := by kernel_rfl
theorem metR_names : (method (n + 1) 94 (.pointer (some ⟨k, 0, none⟩)) "filespace/wire.names").run Tryz.prog W = .ok (137, .pointer (some ⟨k, 0, none⟩)) W := by kernel_rfl
theorem nilR_qids : (nilAhead (n + 1) 94 (.pointer (some ⟨k, 0, none⟩)) "filespace/wire.qids").run Tryz.prog W = .ok (some false) W := by kernel_rfl
theorem metR_qids : (method (n + 1) 94 (.pointer (some ⟨k, 0, none⟩)) "filespace/wire.qids").run Tryz.prog W = .ok (139, .pointer (some ⟨k, 0, none⟩)) W := by kernel_rfl
theorem nilR_dir : (nilAhead (n + 1) 94 (.pointer (some ⟨k, 0, none⟩)) "filespace/wire.dir").run Tryz.prog W = .ok (some false) W := by kernel_rfl
theorem metR_dir : (method (n + 1) 94 (.pointer (some ⟨k, 0, none⟩)) "filespace/wire.dir").run Tryz.prog W = .ok (135, .pointer (some ⟨k, 0, none⟩)) W := by kernel_rfl
theorem nilR_errno : (nilAhead (n + 1) 94 (.pointer (some ⟨k, 0, none⟩)) "filespace/wire.errno").run Tryz.prog W = .ok (some false) W := by kernel_rfl
theorem metR_errno : (method (n + 1) 94 (.pointer (some ⟨k, 0, none⟩)) "filespace/wire.errno").run Tryz.prog W = .ok (136, .pointer (some ⟨k, 0, none⟩)) W := by kernel_rfl
variable (args : Array Value)
theorem cfR_number : (callFunc 138 args).run Tryz.prog W = .ok (.enter 138 args) W := by kernel_rfl
theorem cfR_text : (callFunc 140 args).run Tryz.prog W = .ok (.enter 140 args) W := by kernel_rfl
theorem cfR_data : (callFunc 134 args).run Tryz.prog W = .ok (.enter 134 args) W := by kernel_rfl
theorem cfR_names : (callFunc 137 args).run Tryz.prog W = .ok (.enter 137 args) W := by kernel_rfl
theorem cfR_qids : (callFunc 139 args).run Tryz.prog W = .ok (.enter 139 args) W := by kernel_rfl
theorem cfR_dir : (callFunc 135 args).run Tryz.prog W = .ok (.enter 135 args) W := by kernel_rfl
theorem cfR_errno : (callFunc 136 args).run Tryz.prog W = .ok (.enter 136 args) W := by kernel_rfl
end
/-- The reader, and the block g as it is now. -/
def QSt (k g : Nat) (b : List UInt8) (s : RS) (cs : Array Value) (t : TypeId) (w W : World) : Prop := RdAt k b s W ∧ W.heap[g]? = some (.cells cs t (0, 0)) ∧ Kp k g w W
theorem QSt.drew {k g : Nat} {b : List UInt8} {s : RS} {cs : Array Value} {t : TypeId} {w W : World} (h : QSt k g b s cs t w W) : QSt k g b s cs t w W.drew := ⟨h.1.drew, h.2.1, h.2.2.drew⟩
/-- A number is read into the block. -/
theorem qNumber {k g : Nat} {b : List UInt8} {s : RS} {cs : Array Value} {t : TypeId} {w W : World} (o wd : Nat) (wi : Int) (hwi : wi = wd) (hb : b.length ≤ 1000000) (hgk : g ≠ k) (ho : o < cs.size) (h : QSt k g b s cs t w W) :
    Calls Tryz.prog 138 #[.pointer (some ⟨k, 0, none⟩), .pointer (some ⟨g, o, none⟩), .int .i64 wi] W fun e W' => e = .returned (.tuple #[]) ∧ QSt k g b (rdN b s wd).2 (cs.setIfInBounds o (.int .i64 (rdN b s wd).1)) t w W' :=
  (rNumber k g o b s wd wi W hwi hb h.1 hgk ⟨cs, t, h.2.1, cs[o], Array.getElem?_eq_getElem ho⟩).mono fun _ _ ⟨e1, e2, e3, e4⟩ => ⟨e1, e2, e3 cs t h.2.1, h.2.2.trans e4⟩
theorem rPassQid (k g o : Nat) (b : List UInt8) (s : RS) (cs : Array Value) (t : TypeId) (w W : World) (hb : b.length ≤ 1000000) (hgk : g ≠ k) (ho : o + 2 < cs.size) (h : QSt k g b s cs t w W) :
    Calls Tryz.prog 66 #[.iface 94 (.pointer (some ⟨k, 0, none⟩)), .pointer (some ⟨g, o, none⟩)] W fun e W' => e = .returned (.tuple #[]) ∧
      QSt k g b (rdQ b s).2 (((cs.setIfInBounds o (.int .i64 (rdQ b s).1.t)).setIfInBounds (o + 1) (.int .i64 (rdQ b s).1.v)).setIfInBounds (o + 2) (.int .i64 (rdQ b s).1.p)) t w W' :=
  passQid_any (nilR_number k) (metR_number k) (fun args W => cfR_number W args) g o
    (fun W => QSt k g b s cs t w W) (fun W => QSt k g b (rdN b s 1).2 (cs.setIfInBounds o (.int .i64 (rdN b s 1).1)) t w W)
    (fun W => QSt k g b (rdN b (rdN b s 1).2 4).2 ((cs.setIfInBounds o (.int .i64 (rdN b s 1).1)).setIfInBounds (o + 1) (.int .i64 (rdN b (rdN b s 1).2 4).1)) t w W)
    (fun W => QSt k g b (rdQ b s).2 (((cs.setIfInBounds o (.int .i64 (rdQ b s).1.t)).setIfInBounds (o + 1) (.int .i64 (rdQ b s).1.v)).setIfInBounds (o + 2) (.int .i64 (rdQ b s).1.p)) t w W)
    (fun _ h => h.drew) (fun _ h => h.drew) (fun _ h => h.drew)
    (fun W h => qNumber o 1 1 rfl hb hgk (by omega) h)
    (fun W h => qNumber (o + 1) 4 4 rfl hb hgk (by rw [Array.size_setIfInBounds]; omega) h)
    (fun W h => qNumber (o + 2) 8 8 rfl hb hgk (by rw [Array.size_setIfInBounds, Array.size_setIfInBounds]; omega) h)
    W h
end Go.Proofs.YtlfdmbfbfadifaaGreatDoor

namespace Go.Proofs.YtlfdmbfbfadifaaGreatDoor
open Go.RowKit

theorem step_append_own {P : Program} {ops : Array Oper} {o : Oper} {a : Act} {w : World} {K : Act → World → Prop} {Q : Exit → Act → World → Prop} {E : Prop}
    (hg : o.guard = none) (s x : Operand) (t : TypeId) (hop : o.op = Op.call { callee := Callee.builtin Builtin.append, args := #[s, x], argTypes := #[t, t] })
    (base : Nat) (e : TypeId) (i : TypeInfo) (z : Value) (size bytes : Nat) (h1 : P.underlying t = some (.slice e)) (h2 : P.info? e = some i) (h3 : i.zero = some z) (h4 : i.size = size) (h5 : i.bytes = bytes) (h6 : z.cells.size = size) (h7 : 0 < size)
    (v : Value) (n : Nat) (xs : List Value) (hs : a.eval s = v) (hown : w.ownsRow base e size v n xs)
    (ad : Addr) (m c : Nat) (news : List Value) (hx : a.eval x = .slice (some ad) m c) (hn : news.length = m * size) (hc : ∀ j u, news[j]? = some u → w.cell? (ad.add j) = some u) (h1c : ∀ u ∈ news, u.oneCell' = true)
    (b1 : n + m ≤ maxLen) (b2 : (n + m) * bytes ≤ 140737488355328) (b3 : base ≤ w.heap.size)
    (hK : ∀ v' w', w'.ownsRow base e size v' (n + m) (xs ++ news) → w.grownBy w' v.ownBlock → K (a.put o.dst v') w') :
    if Region.wanted o (yielded ops a.tmps) = true then Oper.wp P o a w K Q else E := by
  have hw : Region.wanted o (yielded ops a.tmps) = true := by simp [Region.wanted, hg]
  rw [if_pos hw]
  exact wp_append_own w s x t hop base e i z size bytes h1 h2 h3 h4 h5 h6 h7 v n xs hs hown ad m c news hx hn hc h1c b1 b2 b3 fun v' w' h8 h9 _ => hK v' w' h8 h9

theorem info_strY : (Tryz.prog.info? 9).map (fun i => (i.zero, i.size, i.bytes)) = some (some (.string ⟨#[]⟩), 1, 16) := by kernel_rfl
theorem new_one (w : World) (x : Value) (e : TypeId) : ∀ j u, [x][j]? = some u → (w.alloc (.cells #[x] e)).cell? ((⟨w.heap.size, 0, none⟩ : Addr).add j) = some u := by
  intro j u h
  match j, h with
  | 0, h => simp at h; subst h; simp [Addr.add, World.cell?_alloc_new]
def strV (l : List UInt8) : Value := .string (mk l)
/-- The names that were read lie in a slice of the call's own. -/
def NOwn (B : Nat) (w : World) (v : Value) (acc : List (List UInt8)) : Prop := w.ownsRow B 9 1 v acc.length (acc.map strV)
theorem NOwn.keep {B : Nat} {w w' : World} {v : Value} {acc : List (List UInt8)} (h : NOwn B w v acc) (hb : ∀ j, B ≤ j → j < w.heap.size → w'.heap[j]? = w.heap[j]?) : NOwn B w' v acc := by
  refine ⟨h.1, ?_⟩
  rcases h.2 with hn | ⟨g, cap, cur, rfl, hB, hgg, rest⟩
  · exact .inl hn
  · exact .inr ⟨g, cap, cur, rfl, hB, by rw [hb g hB (Array.getElem?_eq_some_iff.1 hgg).1]; exact hgg, rest⟩
theorem NOwn.nil_ (B : Nat) (w : World) : NOwn B w (.slice none 0 0) [] := World.ownsRow_nil _ _ _ _
theorem NOwn.snoc {B : Nat} {w : World} {v : Value} {acc : List (List UInt8)} {x : List UInt8} (h : w.ownsRow B 9 1 v (acc.length + 1) (acc.map strV ++ [strV x])) : NOwn B w v (acc ++ [x]) := by
  unfold NOwn
  rw [List.length_append, List.map_append]
  exact h
theorem NOwn.row {B : Nat} {w : World} {v : Value} {acc : List (List UInt8)} (h : NOwn B w v acc) : SRow w v acc := by
  have hown := h
  obtain ⟨h1, h2⟩ := h
  rcases h2 with ⟨rfl, hx⟩ | ⟨g, cap, cur, rfl, hb, hg, hnc, hcm, rest⟩
  · have : acc = [] := List.eq_nil_of_length_eq_zero hx
    subst this
    exact SRow.nil_ w
  · refine ⟨some ⟨g, 0, none⟩, cap, rfl, hnc, hcm, fun _ => ⟨g, 0, rfl, (Array.getElem?_eq_some_iff.1 hg).1, fun j hj => ?_⟩⟩
    have := World.ownsRow.cells (w := w) hown rfl j (strV acc[j]) (by simp [hj])
    rw [add_at] at this
    exact this
theorem NOwn.rowA {B : Nat} {w : World} {v : Value} {acc : List (List UInt8)} (h : NOwn B w v acc) : SRowA B w v acc := fun _ _ hb => (h.keep hb).row
/-- The state of the loop. -/
def NSt (k g o c : Nat) (b : List UInt8) (cs : Array Value) (t : TypeId) (W : World) (acc : List (List UInt8)) (s : RS) (v : Value) (w : World) : Prop :=
  RdAt k b s w ∧ w.heap[g]? = some (.cells (cs.setIfInBounds o v) t (0, 0)) ∧ w.heap[W.heap.size]? = some (.cells #[.int .i64 (c : Int)] 3 (0, 0)) ∧ NOwn (W.heap.size + 1) w v acc ∧ Kp k g W w ∧ W.heap.size < w.heap.size
theorem cell_alloc_old (w : World) (ob : Obj) {b o : Nat} (h : b < w.heap.size) : (w.alloc ob).cell? ⟨b, o, none⟩ = w.cell? ⟨b, o, none⟩ := ((Below.refl w.heap.size w).alloc (Nat.le_refl _) ob).cell (p := ⟨b, o, none⟩) h
def lenAt (g o : Nat) (w : World) : Nat := match w.cell? ⟨g, o, none⟩ with | some (.slice _ n _) => n | _ => 0

theorem lenAt_of {g o n : Nat} {w : World} {cs : Array Value} {t : TypeId} {a : Option Addr} {cp : Nat} (h : w.heap[g]? = some (.cells cs t (0, 0))) (h2 : cs[o]? = some (.slice a n cp)) : lenAt g o w = n := by
  unfold lenAt; rw [Lib.cell_of_heap h o, h2]
set_option maxHeartbeats 4000000 in
set_option maxRecDepth 100000 in
theorem rNames (k g o : Nat) (b : List UInt8) (s : RS) (cs : Array Value) (t : TypeId) (W : World) (hb : b.length ≤ 1000000) (hk : RdAt k b s W) (hgk : g ≠ k) (hg : W.heap[g]? = some (.cells cs t (0, 0))) (hn : cs[o]? = some (.slice none 0 0)) :
    Calls Tryz.prog 137 #[.pointer (some ⟨k, 0, none⟩), .pointer (some ⟨g, o, none⟩)] W fun e W' => e = .returned (.tuple #[]) ∧ ∃ v, RdAt k b (rdNames b s).2 W' ∧ W'.heap[g]? = some (.cells (cs.setIfInBounds o v) t (0, 0)) ∧ SRowA (W.heap.size + 1) W' v (rdNames b s).1 ∧ Kp k g W W' := by
  have hkl := hk.lt
  have hgl := (Array.getElem?_eq_some_iff.1 hg).1
  obtain ⟨i0, hi, hz0, hz1, hz2⟩ := info_parts info_strY
  have HT0 := Lib.hid (rNumber k W.heap.size 0 b s 2 2 (W.alloc (.cells #[.int .i64 0] 3)) rfl (by omega) (hk.alloc _) (by omega) (Tgt.new W _ _))
  have hnn : 0 ≤ (rdN b s 2).1 := (getR_val b s.at' 2).1
  have hnm : (rdN b s 2).1 < 65536 := getR2_lt b s.at'
  have HE : Hid (rdNames b s = rdNs b (rdN b s 2).1 ((rdN b s 2).1.toNat + 1) [] (rdN b s 2).2) := rfl
  have HX := Lib.hid (fun W1 h => put1_new (W := W) (W1 := W1) (v := .int .i64 0) (u := .int .i64 (rdN b s 2).1) (t := 3) h)
  have HY := Lib.hid (fun W1 h => Kp.box (k := k) (W := W) (W1 := W1) (o := .cells #[.int .i64 0] 3) h)
  generalize rdNames b s = res at *
  generalize rdN b s 2 = tr at *
  obtain ⟨n, s1⟩ := tr
  dsimp only at HT0 HX HE hnn hnm
  obtain ⟨c, rfl⟩ := Int.eq_ofNat_of_zero_le hnn
  have HG := Lib.hid hg
  have HN := Lib.hid hn
  clear hk hg hn hnn
  go_enter Tryz.func137, Tryz.ntmps137
  go_wp2_with fail
  refine HT0.out.mono ?_
  rintro e W1 ⟨rfl, h1, h2, h3⟩
  have hI : Hid (NSt k g o c b cs t W [] s1 (.slice none 0 0) W1) := by
    have hgg : W1.heap[g]? = some (.cells cs t (0, 0)) := ((HY.out W1 h3).block g hgl hgk hgk).trans HG.out
    refine ⟨h1, ?_, HX.out W1 h2, NOwn.nil_ _ _, (HY.out W1 h3).self, ?_⟩
    · rw [hgg]
      have e : cs.setIfInBounds o (.slice none 0 0) = cs := by
        obtain ⟨hlt, he⟩ := Array.getElem?_eq_some_iff.1 HN.out
        rw [← he, Array.setIfInBounds_def]; simp [hlt]
      rw [e]
    · have := h3.size; simp at this; omega
  clear h1 h2 h3
  go_wp2
  have HTx := Lib.hid (fun acc s v w (h : NSt k g o c b cs t W acc s v w) => rText k w.heap.size 0 b s (w.alloc (.cells #[.string ⟨#[]⟩] 9)) hb (h.1.alloc _) (by have := h.1.lt; omega) (Tgt.new w _ _))
  go_loopw [5] (fun _ wr => ∃ (acc : List (List UInt8)) (n : Nat) (s : RS) (v : Value), acc.length ≤ c ∧ acc.length + n = c + 1 ∧ Hid (res = rdNs b (c : Int) n acc s) ∧ Hid (NSt k g o c b cs t W acc s v wr)) (fun _ wr => c - lenAt g o wr)
  case atStart => exact ⟨[], c + 1, s1, _, by simp, by simp, HE, hI⟩
  case round =>
    clear hI HT0 HX HY HE
    obtain ⟨acc, n, sr, v, hac, han, hr, hS⟩ := hrel
    obtain ⟨p, cap, rfl, hcap, hcm, -⟩ := hS.out.2.2.2.1.row
    have ho : o < cs.size := (Array.getElem?_eq_some_iff.1 HN.out).1
    have ho' : (cs.setIfInBounds o (Value.slice p acc.length cap))[o]? = some (Value.slice p acc.length cap) := by rw [Array.getElem?_setIfInBounds]; simp [ho]
    have x0 : _ = some (Value.slice p acc.length cap) := (Lib.cell_of_heap hS.out.2.1 o).trans ho'
    clear ho ho'
    have hmes : lenAt g o wr = acc.length := by unfold lenAt; rw [x0]
    replace hmes := Lib.hid hmes
    have x1 := (Lib.cell_of_heap hS.out.2.2.1 0).trans (show _ = some (.int .i64 (c : Int)) from rfl)
    have c2 := hS.out.1.c.2.2
    unfold maxLen at hcm
    by_cases hlt : acc.length < c
    · have hlt' : decide ((acc.length : Int) < (c : Int)) = true := by simp; omega
      have hlt2 : decide (acc.length < c) = true := by simp; omega
      cases hbad : sr.bad
      · rw [hbad] at c2
        have hR : Hid (res = rdNs b (c : Int) (n - 1) (acc ++ [(rdT b sr).1]) (rdT b sr).2) := by
          obtain ⟨n', rfl⟩ : ∃ n', n = n' + 1 := ⟨n - 1, by omega⟩
          rw [Hid, hr.out, rdNs, if_pos ⟨by omega, hbad⟩]
          rfl
        clear hr
        go_wp2
        go_quiet (fail)
        have hS2 : Hid (NSt k g o c b cs t W acc sr (.slice p acc.length cap) (wr.drewN nq)) := ⟨hS.out.1, hS.out.2.1, hS.out.2.2.1, hS.out.2.2.2.1, hS.out.2.2.2.2.1.drewN nq, hS.out.2.2.2.2.2⟩
        clear x0 x1 c2 hS
        generalize wr.drewN nq = w2 at *
        have hT := Lib.hid (HTx.out acc sr _ w2 hS2.out)
        have hNm := Lib.hid (fun W1 h => put1_new (W := w2) (W1 := W1) (v := .string ⟨#[]⟩) (u := .string (mk (rdT b sr).1)) (t := 9) h)
        have hKb := Lib.hid (fun W1 h => Kp.box (k := k) (W := w2) (W1 := W1) (o := .cells #[.string ⟨#[]⟩] 9) h)
        generalize rdT b sr = tr at *
        obtain ⟨tx, s2⟩ := tr
        dsimp only at hT hNm hR
        go_wp2_with fail
        refine hT.out.mono ?_
        rintro e w3 ⟨rfl, h1, h2, h3⟩
        have hS3 : Hid (NSt k g o c b cs t W acc s2 (.slice p acc.length cap) w3) := by
          have hK := hKb.out w3 h3
          have q := hS2.out
          have e1 := q.2.2.2.2.2
          refine ⟨h1, (hK.block g (Array.getElem?_eq_some_iff.1 q.2.1).1 hgk hgk).trans q.2.1, (hK.block _ e1 (by omega) (by omega)).trans q.2.2.1, q.2.2.2.1.keep (fun j h4 h5 => hK.block j h5 (by omega) (by omega)), q.2.2.2.2.1.trans hK.self, Nat.lt_of_lt_of_le e1 hK.size⟩
        have hn3 := Lib.hid (hNm.out w3 h2)
        have x0 := (Lib.cell_of_heap hS3.out.2.1 o).trans (show _ = some (Value.slice p acc.length cap) by rw [Array.getElem?_setIfInBounds]; simp [(Array.getElem?_eq_some_iff.1 HN.out).1])
        have x1 := (Lib.cell_of_heap hn3.out 0).trans (show _ = some (.string (mk tx)) from rfl)
        clear h1 h2 h3
        go_wp2
        have hO : Hid (w3.ownsRow (W.heap.size + 1) 9 1 (.slice p acc.length cap) acc.length (acc.map strV)) := hS3.out.2.2.2.1
        have hz3 := Lib.hid hS3.out.2.2.2.2.2
        have hGr : Hid (∀ w4, (w3.drew.alloc (.cells #[.string (mk tx)] 9)).grownBy w4 (Value.slice p acc.length cap).ownBlock → ∀ j, j ≤ W.heap.size → w4.heap[j]? = w3.heap[j]?) := fun w4 h j hj =>
          (h.block j (by have := hz3.out; simp; omega) (fun e => by have := (hO.out.lt j e.symm).1; omega)).trans (Below.heap_alloc _ _ _ (by have := hz3.out; show j < w3.heap.size; omega))
        have hZ : Hid (∀ w4, (w3.drew.alloc (.cells #[.string (mk tx)] 9)).grownBy w4 (Value.slice p acc.length cap).ownBlock → w4.frozen? ⟨g, o, none⟩ = false ∧ w4.cell? ⟨g, o, none⟩ = some (.slice p acc.length cap)) := fun w4 h =>
          ⟨Lib.frozen_of_heap ((hGr.out w4 h g (by omega)).trans hS3.out.2.1) o, (Lib.cell_of_heap ((hGr.out w4 h g (by omega)).trans hS3.out.2.1) o).trans (by rw [Array.getElem?_setIfInBounds]; simp [(Array.getElem?_eq_some_iff.1 HN.out).1])⟩
        have hFin : Hid (∀ w4 v', (w3.drew.alloc (.cells #[.string (mk tx)] 9)).grownBy w4 (Value.slice p acc.length cap).ownBlock → w4.ownsRow (W.heap.size + 1) 9 1 v' (acc.length + 1) (acc.map strV ++ [.string (mk tx)]) → NSt k g o c b cs t W (acc ++ [tx]) s2 v' (w4.setCell ⟨g, o, none⟩ v')) := fun w4 v' h h2 => by
          have q := hS3.out
          have e1 : w4.heap[g]? = _ := (hGr.out w4 h g (by omega)).trans q.2.1
          refine ⟨(heap_ne (by omega)).trans ((hGr.out w4 h k (by omega)).trans q.1), ?_, (heap_ne (by omega)).trans ((hGr.out w4 h _ (Nat.le_refl _)).trans q.2.2.1), NOwn.keep (NOwn.snoc h2) (fun j h3 _ => heap_ne (by omega)), ?_, ?_⟩
          · have e2 := set_heap (o := o) (v := v') e1
            rw [Array.setIfInBounds_setIfInBounds] at e2
            exact e2
          · have e3 : Kp k g W w4 := ⟨h.os.trans q.2.2.2.2.1.os, h.tape.trans q.2.2.2.2.1.tape, h.output.trans q.2.2.2.2.1.output, Nat.le_trans q.2.2.2.2.1.size (Nat.le_trans (by simp) h.size), fun j hj h1 h2 => (hGr.out w4 h j (by omega)).trans (q.2.2.2.2.1.block j hj h1 h2)⟩
            exact e3.set g o v' (.inr rfl)
          · have := h.size; have := q.2.2.2.2.2; simp [World.setCell] at *; omega
        have hZ2 : Hid (∀ w4, (w3.alloc (.cells #[.string (mk tx)] 9)).drew.grownBy w4 (Value.slice p acc.length cap).ownBlock → w4.frozen? ⟨g, o, none⟩ = false ∧ w4.cell? ⟨g, o, none⟩ = some (.slice p acc.length cap)) := fun w4 h => hZ.out w4 h
        have x0a : (w3.alloc (.cells #[.string (mk tx)] 9)).cell? ⟨g, o, none⟩ = some (.slice p acc.length cap) := by
          rw [← x0]; exact cell_alloc_old w3 _ (by have := hS3.out.2.1; exact (Array.getElem?_eq_some_iff.1 this).1)
        go_region_law (first | (refine step_append_own rfl (.tmp 26) (.tmp 28) 22 rfl (W.heap.size + 1) 9 i0 (.string ⟨#[]⟩) 1 16 Tryz.underlying22 hi hz0 hz1 hz2 rfl (by decide) _ _ _ rfl (hO.out.drew.alloc _) ⟨w3.heap.size, 0, none⟩ 1 1 [.string (mk tx)] rfl rfl (new_one _ _ _) (by simp [Value.oneCell']) (by unfold maxLen; omega) (by omega) (by have := hz3.out; simp; omega) ?_; intro v' w4 hown1 hgrow1; obtain ⟨g5, cap5, rfl, hb5, hl5⟩ := hown1.form (by omega); have z0 := (hZ.out w4 hgrow1).1; have z1 := (hZ.out w4 hgrow1).2) | (refine step_append_own rfl (.tmp 26) (.tmp 28) 22 rfl (W.heap.size + 1) 9 i0 (.string ⟨#[]⟩) 1 16 Tryz.underlying22 hi hz0 hz1 hz2 rfl (by decide) _ _ _ rfl (World.ownsRow.drew (hO.out.alloc _)) ⟨w3.heap.size, 0, none⟩ 1 1 [.string (mk tx)] rfl rfl (new_one _ _ _) (by simp [Value.oneCell']) (by unfold maxLen; omega) (by omega) (by have := hz3.out; simp; omega) ?_; intro v' w4 hown1 hgrow1; obtain ⟨g5, cap5, rfl, hb5, hl5⟩ := hown1.form (by omega); have z0 := (hZ2.out w4 hgrow1).1; have z1 := (hZ2.out w4 hgrow1).2))
        all_goals have hF := Lib.hid (hFin.out w4 _ hgrow1 hown1)
        all_goals clear z0 z1 hgrow1 hown1
        all_goals go_wp2
        all_goals exact ⟨⟨acc ++ [tx], n - 1, s2, _, by simp; omega, by simp; omega, hR, hF⟩, by rw [hmes.out, lenAt_of hF.out.2.1 (show (_ : Option Value) = some (Value.slice (some ⟨g5, 0, none⟩) (acc.length + 1) cap5) by rw [Array.getElem?_setIfInBounds]; simp [(Array.getElem?_eq_some_iff.1 HN.out).1])]; omega⟩
      · rw [hbad] at c2
        have hR : Hid (res = (acc, sr)) := by
          obtain ⟨n', rfl⟩ : ∃ n', n = n' + 1 := ⟨n - 1, by omega⟩
          rw [Hid, hr.out, rdNs, if_neg (by rw [hbad]; simp)]
        clear hr
        go_wp2
        go_quiet (fail)
        go_wp2
        go_end0
        rw [hR.out]
        exact ⟨rfl, _, hS.out.1, hS.out.2.1, hS.out.2.2.2.1.rowA, hS.out.2.2.2.2.1.drewN _⟩
    · have hlt' : decide ((acc.length : Int) < (c : Int)) = false := by simp; omega
      have hlt2 : decide (acc.length < c) = false := by simp; omega
      have hR : Hid (res = (acc, sr)) := by
        obtain ⟨n', rfl⟩ : ∃ n', n = n' + 1 := ⟨n - 1, by omega⟩
        rw [Hid, hr.out, rdNs, if_neg (by omega)]
      clear hr hlt
      go_wp2
      go_quiet (fail)
      go_wp2
      go_end0
      rw [hR.out]
      exact ⟨rfl, _, hS.out.1, hS.out.2.1, hS.out.2.2.2.1.rowA, hS.out.2.2.2.2.1.drewN _⟩
end Go.Proofs.YtlfdmbfbfadifaaGreatDoor
