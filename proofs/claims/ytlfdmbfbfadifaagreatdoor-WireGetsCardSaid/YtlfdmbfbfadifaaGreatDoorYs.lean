/-
  layout.Of, for any number.
  wire.pass with a writer; wire.Put, wire.Size.
  wire.Put, wire.Size.
-/
import Derived.Test.YtlfdmbfbfadifaaGreatDoorWg
import Derived.Test.YtlfdmbfbfadifaaGreatDoorYr
namespace Go.Proofs.YtlfdmbfbfadifaaGreatDoor
open Go.RowKit

/-- The slice v holds the fields L, in a block of its own. -/
def FBlk (w : World) (v : Value) (L : List Nat) : Prop :=
  ∃ p, v = .slice p L.length L.length ∧ L.length ≤ 4 ∧ (L ≠ [] → ∃ b, p = some ⟨b, 0, none⟩ ∧ w.heap[b]? = some (.cells (L.map intV).toArray 77 (0, 0)))
theorem FBlk.new (w : World) (L : List Nat) (hl : L.length ≤ 4) (n : Nat) (hn : n = L.length) : FBlk (w.alloc (.cells (L.map intV).toArray 77)) (.slice (some ⟨w.heap.size, 0, none⟩) n n) L := by
  subst hn
  exact ⟨_, rfl, hl, fun _ => ⟨_, rfl, heap_alloc_new w _⟩⟩
theorem FBlk.nil_ (w : World) : FBlk w (.slice none 0 0) [] := ⟨none, rfl, Nat.zero_le _, fun h => absurd rfl h⟩
theorem FBlk.at_ {w : World} {v : Value} {L : List Nat} (h : FBlk w v L) {k : Nat} (hk : k < L.length) :
    ∃ b, v = .slice (some ⟨b, 0, none⟩) L.length L.length ∧ w.heap[b]? = some (.cells (L.map intV).toArray 77 (0, 0)) ∧ w.cell? ⟨b, k, none⟩ = some (.int .i64 (L.getD k 0 : Int)) := by
  obtain ⟨p, rfl, hl, h⟩ := h
  obtain ⟨b, rfl, hb⟩ := h (by rintro rfl; simp at hk)
  refine ⟨b, rfl, hb, ?_⟩
  rw [Joins.cell_of_block hb k]
  simp [hk, intV, List.getD]
/-- The fields of a kind; nothing for a number that is no kind. -/
def layL (k : Int) : List Nat := if kindB k then fieldsL k else []
theorem layL_len (k : Int) : (layL k).length ≤ 4 := by
  unfold layL; split
  · exact (fieldsL_le (by assumption)).1
  · simp

set_option maxRecDepth 100000 in
set_option maxHeartbeats 12800000 in
theorem layout_kind (k : Int) (hk : kindB k = true) (w : World) :
    Calls Tryz.prog 35 #[.int .i64 k] w fun e w' => ∃ v, e = .returned v ∧ FBlk w' v (fieldsL k) ∧ Below w.heap.size w w' := by
  rcases kinds hk with rfl | rfl | rfl | rfl | rfl | rfl | rfl | rfl | rfl | rfl | rfl | rfl | rfl | rfl | rfl | rfl | rfl | rfl | rfl | rfl | rfl | rfl | rfl | rfl | rfl | rfl | rfl | rfl | rfl | rfl | rfl
  all_goals clear hk
  all_goals have hB := Lib.hid (fun o => (Below.refl _ w).alloc (Nat.le_refl _) o)
  all_goals have hF := Lib.hid (fun L hl n hn => FBlk.new w L hl n hn)
  all_goals
    go_enter Tryz.func35, Tryz.ntmps35
    go_wp2
    go_ret
    first
      | exact ⟨_, rfl, FBlk.nil_ _, Below.refl _ _⟩
      | exact ⟨_, rfl, hF.out (fieldsN _) (by decide) _ rfl, hB.out _⟩
set_option maxRecDepth 100000 in
set_option maxHeartbeats 12800000 in
theorem layout_none (k : Int) (hk : kindB k = false) (w : World) :
    Calls Tryz.prog 35 #[.int .i64 k] w fun e w' => ∃ v, e = .returned v ∧ FBlk w' v [] ∧ Below w.heap.size w w' := by
  have hne : ∀ c : Int, kindB c = true → (k == c) = false := fun c hc => by
    rw [beq_eq_false_iff_ne]; rintro rfl; rw [hk] at hc; cases hc
  have q100 := hne 100 (by decide)
  have q101 := hne 101 (by decide)
  have q102 := hne 102 (by decide)
  have q103 := hne 103 (by decide)
  have q104 := hne 104 (by decide)
  have q105 := hne 105 (by decide)
  have q107 := hne 107 (by decide)
  have q108 := hne 108 (by decide)
  have q110 := hne 110 (by decide)
  have q111 := hne 111 (by decide)
  have q112 := hne 112 (by decide)
  have q113 := hne 113 (by decide)
  have q114 := hne 114 (by decide)
  have q115 := hne 115 (by decide)
  have q116 := hne 116 (by decide)
  have q117 := hne 117 (by decide)
  have q118 := hne 118 (by decide)
  have q119 := hne 119 (by decide)
  have q120 := hne 120 (by decide)
  have q122 := hne 122 (by decide)
  have q124 := hne 124 (by decide)
  have q125 := hne 125 (by decide)
  have q126 := hne 126 (by decide)
  have q128 := hne 128 (by decide)
  have q129 := hne 129 (by decide)
  have q130 := hne 130 (by decide)
  clear hne hk
  go_enter Tryz.func35, Tryz.ntmps35
  go_wp2
  go_ret
  exact ⟨_, rfl, FBlk.nil_ _, Below.refl _ _⟩
theorem layout_any (k : Int) (w : World) :
    Calls Tryz.prog 35 #[.int .i64 k] w fun e w' => ∃ v, e = .returned v ∧ FBlk w' v (layL k) ∧ Below w.heap.size w w' := by
  unfold layL
  cases hk : kindB k with
  | true => exact layout_kind k hk w
  | false => exact layout_none k hk w
end Go.Proofs.YtlfdmbfbfadifaaGreatDoor

namespace Go.Proofs.YtlfdmbfbfadifaaGreatDoor
open Go.RowKit

theorem kept_fblk {k : Nat} {w w' : World} {v : Value} {L : List Nat} (hk : ∃ u, w.heap[k]? = some (.cells u 47 (0, 0))) (h : FBlk w v L) (hw : Lib.OthersKept 5 (some k) w w') : FBlk w' v L := by
  obtain ⟨p, rfl, hl, h⟩ := h
  refine ⟨p, rfl, hl, fun hL => ?_⟩
  obtain ⟨b, rfl, hb⟩ := h hL
  obtain ⟨u, hu⟩ := hk
  refine ⟨b, rfl, hw b _ hb (fun e => ?_) (fun c fz hc => (show (77 : TypeId) ≠ 5 by decide) (by injection hc))⟩
  injection e with e
  subst e
  rw [hb] at hu
  injection hu with hu
  injection hu with h1 h2
  exact absurd h2 (by decide)
theorem tag_in {k t : Int} (h : tagB k t = true) : 0 ≤ t ∧ t ≤ 65535 := tagB_le h
theorem kind_in {k : Int} (h : kindB k = true) : 100 ≤ k ∧ k ≤ 131 := by unfold kindB at h; simp only [decide_eq_true_eq] at h; omega

set_option maxHeartbeats 4000000 in
set_option maxRecDepth 100000 in
theorem wPass (w0 w1 : World) (g k : Nat) (m : MM) (W : World) (hm : inM m) (hr : RowM w0 m) (g0 : G w0) (hck : checkM m = 0) (h : WSt w0 w1 g k m [] W) :
    Calls Tryz.prog 19 #[.iface 49 (.pointer (some ⟨k, 0, none⟩)), .pointer (some ⟨g, 0, none⟩)] W fun e W' => e = .returned (.tuple #[]) ∧ Below w0.heap.size w0 W' ∧ WrAt w0.heap.size k (bodyW m) W' := by
  obtain ⟨hk, ht, -, -⟩ := check_used hck
  obtain ⟨k1, k2⟩ := kind_in hk
  obtain ⟨t1, t2⟩ := tag_in ht
  have hn := nilW_number k
  have hmt := metW_number k
  have hcf := fun args W => cfW_number W args
  have H1 := Lib.hid (fun W (h : WSt w0 w1 g k m [] W) => (wNumber w0.heap.size k [] g 0 m.kd 1 W (by omega) ⟨by omega, by omega⟩ ⟨by omega, by omega⟩ h.2.2.2.1 (by simp) h.1.size (h.2.1.cell 0)).mono fun _ _ ⟨e1, e2, e3⟩ => (⟨e1, h.next e2 e3⟩ : _ ∧ WSt w0 w1 g k m ([] ++ le 1 m.kd.toNat) _))
  have H2 := Lib.hid (fun W (h : WSt w0 w1 g k m ([] ++ le 1 m.kd.toNat) W) => (wNumber w0.heap.size k _ g 1 m.tg 2 W (by omega) ⟨by omega, by omega⟩ ⟨by omega, by omega⟩ h.2.2.2.1 (by rw [List.nil_append, le_len]; omega) h.1.size (h.2.1.cell 1)).mono fun _ _ ⟨e1, e2, e3⟩ => (⟨e1, h.next e2 e3⟩ : _ ∧ WSt w0 w1 g k m ([] ++ le 1 m.kd.toNat ++ le 2 m.tg.toNat) _))
  have HZ : Hid ([] ++ le 1 m.kd.toNat ++ le 2 m.tg.toNat = bodyTo m 0) := by rw [bodyTo_zero, List.nil_append]; exact rfl
  have HF := Lib.hid (fun j (hj : j < (fieldsL m.kd).length) w2 W (h : WSt w0 w2 g k m (bodyTo m j) W) => wField w0 w2 g k m (bodyTo m j) ((fieldsL m.kd).getD j 0) W hm hr g0 (fieldsL_lt hk hj) (fits hck hj) h (by have := bodyTo_le hck (Nat.le_of_lt hj); have := (fieldsL_le hk).1; omega))
  have HS := Lib.hid (fun j (hj : j < (fieldsL m.kd).length) => (bodyTo_succ hj).symm)
  have HL := Lib.hid (fun W => layout_kind m.kd hk W)
  have hc : Hid (∀ W, WSt w0 w1 g k m (bodyTo m 0) W → W.cell? ⟨g, 0, none⟩ = some (.int .i64 m.kd)) := fun W h => h.2.1.cell 0
  have HE : Hid (bodyTo m (fieldsL m.kd).length = bodyW m) := rfl
  have hw := Lib.hid h
  clear h hm hr g0 hck hk ht k1 k2 t1 t2
  go_enter Tryz.func19, Tryz.ntmps19
  go_wp2
  go_still_tail 7, (by kernel_rfl)
  change wpList _ _ _ _ _ W.drew
  have hw0 := Lib.hid hw.out.drew
  generalize W.drew = W1 at *
  go_wp2_with fail
  refine (H1.out _ hw0.out).mono ?_
  rintro e W2 ⟨rfl, hp⟩
  have hw2 := Lib.hid hp.drew
  clear hp
  go_wp2
  go_still_tail 7, (by kernel_rfl)
  change wpList _ _ _ _ _ W2.drew
  generalize W2.drew = W3 at *
  go_wp2_with fail
  refine (H2.out _ hw2.out).mono ?_
  rintro e W4 ⟨rfl, hp⟩
  rw [HZ.out] at hp
  have x0 := hc.out _ hp
  have hw4 := Lib.hid hp
  clear hp
  go_wp2_with fail
  refine (HL.out _).mono ?_
  rintro e W5 ⟨v, rfl, hv, hB5⟩
  have hw5 := Lib.hid (hw4.out.below hB5).base
  have HV := Lib.hid hv
  have hkk : Hid (∃ u, W5.heap[k]? = some (.cells u 47 (0, 0))) := ⟨_, hw5.out.2.2.2.1.2.choose_spec.1⟩
  obtain ⟨p, hvv, hl4, _⟩ := id hv
  subst hvv
  clear hv hB5 x0
  go_wp2
  go_loopw [28] (fun vj wr => ∃ j : Nat, vj = .int .i64 (j : Int) ∧ j ≤ (fieldsL m.kd).length ∧ Hid (WSt w0 W5 g k m (bodyTo m j) wr)) (fun vj _ => (fieldsL m.kd).length - (intOf vj).toNat)
  case atStart => exact ⟨0, rfl, by omega, hw5⟩
  case round =>
    obtain ⟨j, rfl, hj, hwj⟩ := hrel
    by_cases hlt : j < (fieldsL m.kd).length
    · obtain ⟨b, hp, hb, hcj⟩ := (kept_fblk hkk.out HV.out hwj.out.2.2.2.2).at_ hlt
      obtain rfl : p = some ⟨b, 0, none⟩ := by injection hp with h1 h2 h3
      clear hp
      have hb' := Lib.hid hb
      have hcall := HF.out j hlt W5 wr hwj.out
      rw [HS.out j hlt] at hcall
      replace hcall := Lib.hid hcall
      clear hb
      generalize (fieldsL m.kd).getD j 0 = f at *
      go_wp2_with fail
      refine hcall.out.mono ?_
      rintro e W6 ⟨rfl, hp⟩
      have hw6 := Lib.hid hp
      clear hp
      go_wp2
      exact ⟨⟨j + 1, by go_num, by omega, hw6⟩, by simp [intOf]; omega⟩
    · obtain rfl : j = (fieldsL m.kd).length := by omega
      have h4 := hwj.out
      rw [HE.out] at h4
      have H4 := Lib.hid h4
      clear h4
      go_wp2
      go_end0
      exact ⟨rfl, H4.out.1, H4.out.2.2.2.1⟩
end Go.Proofs.YtlfdmbfbfadifaaGreatDoor

namespace Go.Proofs.YtlfdmbfbfadifaaGreatDoor
open Go.RowKit

theorem putW_bad {m : MM} (h : checkM m ≠ 0) : putW m = ([], checkM m) := by unfold putW; rw [if_pos h]
theorem putW_long {m : MM} (h : checkM m = 0) (h2 : 8192 < 4 + (bodyW m).length) : putW m = ([], 4) := by unfold putW; rw [if_neg (by simp [h]), if_pos h2]
theorem putW_ok {m : MM} (h : checkM m = 0) (h2 : ¬ 8192 < 4 + (bodyW m).length) : putW m = (le 4 (4 + (bodyW m).length) ++ bodyW m, 0) := by unfold putW; rw [if_neg (by simp [h]), if_neg h2]
theorem bodyW_pos (m : MM) : 3 ≤ (bodyW m).length := by unfold bodyW bodyTo; simp only [List.length_append, le_len]; omega
theorem strCells_bv (l : List UInt8) : Lib.strCells (mk l) = St.bv l := by simp [Lib.strCells, mk, St.bv, St.byteV]
theorem bytes_own {w : World} {B n : Nat} {v : Value} {l : List UInt8} (hn : l.length = n) (h : w.ownsRow B 5 1 v n (Lib.strCells (mk l))) :
    (convert 45 9 v).run Tryz.prog w = .ok (.string (mk l)) w := by
  rw [strCells_bv] at h
  exact St.string_own hn h
theorem WrAt.new (B : Nat) (w : World) (hB : B ≤ w.heap.size) : WrAt B w.heap.size [] (w.alloc (.cells #[.slice none 0 0, .int .i64 0] 47)) :=
  ⟨hB, _, heap_alloc_new w _, World.ownsRow_nil _ _ _ _, by simp [Value.ownBlock]⟩

set_option maxHeartbeats 4000000 in
set_option maxRecDepth 100000 in
theorem Put_msg (m : MM) (hm : inM m) (w : World) (hr : RowM w m) (g : G w) :
    Calls Tryz.prog 8 #[msgV m] w fun e w' => e = .returned (.tuple #[.string (mk (putW m).1), .int .i64 (putW m).2]) ∧ Below w.heap.size w w' := by
  have hB0 : Below w.heap.size w (w.alloc (.cells (cellsB m) 30)) := (Below.refl _ w).alloc (Nat.le_refl _) _
  have HB0 := Lib.hid hB0
  have HK0 := Lib.hid (BlkM.new w m)
  have HC := Lib.hid (CheckM_any m hm (w.alloc (.cells (cellsB m) 30)) (hr.below hB0) (g.below hB0))
  have h1 := Lib.hid (fun h => putW_bad (m := m) h)
  have h2 := Lib.hid (fun h h' => putW_long (m := m) h h')
  have h3 := Lib.hid (fun h h' => putW_ok (m := m) h h')
  have HP := Lib.hid (fun k W hck h => wPass w w w.heap.size k m W hm hr g hck h)
  have hbl := Lib.hid (fun hck => bodyW_le (m := m) hck)
  have hbp := Lib.hid (bodyW_pos m)
  clear hB0 hr g hm
  unfold msgV at HC ⊢
  by_cases hck : checkM m = 0
  case neg =>
    have hr := Lib.hid (h1.out hck)
    have hne : (checkM m != 0) = true := by simpa using hck
    clear h1 h2 h3 hck HP hbl hbp
    generalize checkM m = er at *
    go_enter Tryz.func8, Tryz.ntmps8
    go_wp2_with (refine wpList_load_row rfl 30 _ rfl w.heap.size rfl 30 (cellsB m) (0, 0) _ HK0.out Tryz.underlying30 rfl (by kernel_rfl) ?_)
    refine HC.out.mono ?_
    rintro e w1 ⟨rfl, hB1⟩
    have HB1 := Lib.hid (HB0.out.trans (hB1.mono HB0.out.size))
    clear hB1
    go_wp2
    go_ret2
    rw [hr.out]
    exact ⟨rfl, HB1.out⟩
  have hl := hbl.out hck
  have hp := hbp.out
  have HPk := Lib.hid (fun k W h => HP.out k W hck h)
  replace h2 := Lib.hid (h2.out hck)
  replace h3 := Lib.hid (h3.out hck)
  rw [hck] at HC
  clear h1 hck HP hbl hbp
  generalize bodyW m = bd at *
  go_enter Tryz.func8, Tryz.ntmps8
  go_wp2_with (refine wpList_load_row rfl 30 _ rfl w.heap.size rfl 30 (cellsB m) (0, 0) _ HK0.out Tryz.underlying30 rfl (by kernel_rfl) ?_)
  refine HC.out.mono ?_
  rintro e w1 ⟨rfl, hB1⟩
  have HB1 := Lib.hid (HB0.out.trans (hB1.mono HB0.out.size))
  have hst : WSt w w w.heap.size w1.heap.size m [] (w1.alloc (.cells #[.slice none 0 0, .int .i64 0] 47)) := by
    have hK1 := HK0.out.below hB1 HK0.out.lt
    have hne := hK1.lt
    refine ⟨HB1.out.alloc HB1.out.size _, hK1.alloc _, by omega, WrAt.new _ _ HB1.out.size, ?_⟩
    exact Lib.OthersKept.alloc (fun j _ hj _ _ => (HB1.out.block j (Array.getElem?_eq_some_iff.1 hj).1).trans hj) _
  have HPw := Lib.hid (HPk.out _ _ hst)
  clear hB1 hst HPk
  go_wp2_with fail
  refine HPw.out.mono ?_
  rintro e w2 ⟨rfl, hB2, hWr⟩
  have HWr := Lib.hid hWr
  obtain ⟨hB, v, hbk, hown, hne⟩ := hWr
  have HB2 := Lib.hid hB2
  have x0 : w2.cell? ⟨w1.heap.size, 0, none⟩ = some v := by rw [Lib.cell_of_heap hbk]; rfl
  have x1 : w2.cell? ⟨w1.heap.size, 1, none⟩ = some (.int .i64 0) := by rw [Lib.cell_of_heap hbk]; rfl
  obtain ⟨gg, cap, rfl, -, -⟩ := hown.form (by omega)
  clear hB2 hbk hown hne hB
  by_cases h8 : 8192 < 4 + bd.length
  · have hr := Lib.hid (h2.out h8)
    have hd : decide ((8192 : Int) < 4 + (bd.length : Int)) = true := by simp; omega
    clear h2 h3
    go_wp2
    go_ret2
    rw [hr.out]
    exact ⟨rfl, HB2.out⟩
  · have hr := Lib.hid (h3.out h8)
    have hd : decide ((8192 : Int) < 4 + (bd.length : Int)) = false := by simp; omega
    have hP0 := oPut ((4 + bd.length : Nat) : Int) 4 ⟨by omega, by omega⟩ w2
    have ep := putR_fit (n := ((4 + bd.length : Nat) : Int)) (wd := 4) (by omega) (by omega) (by simp; omega)
    rw [show ((4 : Nat) : Int) = 4 from rfl] at ep
    rw [ep] at hP0
    dsimp only at hP0
    rw [Int.toNat_natCast, Int.natCast_add, show ((4 : Nat) : Int) = 4 from rfl] at hP0
    have HPu := Lib.hid hP0
    clear h2 h3 hP0 ep
    go_wp2_with fail
    refine HPu.out.mono ?_
    rintro e w3 ⟨rfl, hB3⟩
    have HB3 := Lib.hid (HB2.out.trans (hB3.mono HB2.out.size))
    obtain ⟨hB, v, hbk, hown, hne⟩ := HWr.out.below hB3
    have y0 : w3.cell? ⟨w1.heap.size, 0, none⟩ = some v := by rw [Lib.cell_of_heap hbk]; rfl
    have hcv := bytes_own rfl hown
    obtain ⟨gg', cap', rfl, -, -⟩ := hown.form (by omega)
    have happ := Lib.hid (mk_app (le 4 (4 + bd.length)) bd)
    have hs1 : (mk (le 4 (4 + bd.length))).size ≤ 4 := by rw [mk_len, le_len]; omega
    have hs2 : (mk bd).size ≤ 32803 := by rw [mk_len]; omega
    clear hB hbk hown hne hB3
    generalize le 4 (4 + bd.length) = L4 at *
    go_wp2
    go_ret2
    rw [hr.out, happ.out]
    exact ⟨rfl, HB3.out⟩

theorem sizeW (m : MM) : ((mk (putW m).1).size : Int) = ((putW m).1.length : Int) := by rw [mk_len]
set_option maxHeartbeats 4000000 in
set_option maxRecDepth 100000 in
theorem Size_msg (m : MM) (hm : inM m) (w : World) (hr : RowM w m) (g : G w) :
    Calls Tryz.prog 10 #[msgV m] w fun e w' => e = .returned (.int .i64 ((putW m).1.length : Int)) ∧ Below w.heap.size w w' := by
  have hB0 : Below w.heap.size w (w.alloc (.cells (cellsB m) 30)) := (Below.refl _ w).alloc (Nat.le_refl _) _
  have HB0 := Lib.hid hB0
  have HK0 := Lib.hid (BlkM.new w m)
  have HP := Lib.hid (Put_msg m hm (w.alloc (.cells (cellsB m) 30)) (hr.below hB0) (g.below hB0))
  have HZ := Lib.hid (sizeW m)
  clear hB0 hr g hm
  unfold msgV at HP ⊢
  generalize putW m = r at *
  go_enter Tryz.func10, Tryz.ntmps10
  go_wp2_with (refine wpList_load_row rfl 30 _ rfl w.heap.size rfl 30 (cellsB m) (0, 0) _ HK0.out Tryz.underlying30 rfl (by kernel_rfl) ?_)
  refine HP.out.mono ?_
  rintro e w1 ⟨rfl, hB1⟩
  have HB1 := Lib.hid (HB0.out.trans (hB1.mono HB0.out.size))
  clear hB1
  go_wp2
  go_ret
  rw [HZ.out]
  exact ⟨rfl, HB1.out⟩
end Go.Proofs.YtlfdmbfbfadifaaGreatDoor
