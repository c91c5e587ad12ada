/-
  The reader's pass; decode, bodyAt.
  wire.pass with a reader.
  What has been read is no longer than memory, its numbers in range.
  wire.decode.
  wire.bodyAt.
-/
import Derived.Test.YtlfdmbfbfadifaaGreatDoorZi
import Derived.Test.YtlfdmbfbfadifaaGreatDoorYs
namespace Go.Proofs.YtlfdmbfbfadifaaGreatDoor
open Go.RowKit

/-- The lists are the last fields. -/
theorem lists_key : ∀ (i : Fin 32) (j : Fin 4), j.1 < (fieldsN (100 + i.1)).length → ((fieldsN (100 + i.1)).getD j.1 0 = 8 ∨ (fieldsN (100 + i.1)).getD j.1 0 = 9) → j.1 + 1 = (fieldsN (100 + i.1)).length := by decide
theorem lists_last (k : Int) {j : Nat} (h : (fieldsL k).getD j 0 = 8 ∨ (fieldsL k).getD j 0 = 9) (hj : j < (fieldsL k).length) : j + 1 = (fieldsL k).length := by
  by_cases hk : kindB k = true
  · have hl := (fieldsL_le hk).1
    have hi : 100 ≤ k ∧ k ≤ 131 := by unfold kindB at hk; simp only [decide_eq_true_eq] at hk; omega
    have e : fieldsL k = fieldsN (100 + (k.toNat - 100)) := by unfold fieldsL; congr 1; omega
    rw [e] at h hj hl ⊢
    exact lists_key ⟨k.toNat - 100, by omega⟩ ⟨j, by omega⟩ hj h
  · have : fieldsL k = [] := by
      unfold fieldsL fieldsN
      split <;> first | rfl | (exfalso; apply hk; unfold kindB; simp; omega)
    rw [this] at hj; simp at hj
theorem layL_eq (k : Int) : layL k = fieldsL k := by
  unfold layL
  split
  · rfl
  · rename_i hk
    unfold fieldsL fieldsN
    split <;> first | rfl | (exfalso; apply hk; unfold kindB; simp; omega)
def withV (m : MM) (v1 v2 : Value) : MM := { m with nv := v1, qv := v2 }
theorem fresh_rdF {b : List UInt8} {m : MM} {s : RS} {f : Nat} (hf : f < 23) (h8 : f ≠ 8) (h9 : f ≠ 9) (h : Fresh m) : Fresh (rdF b m s f).1 := by
  obtain ⟨h1, h2, h3, h4⟩ := h
  rcases k23 hf with rfl | rfl | rfl | rfl | rfl | rfl | rfl | rfl | rfl | rfl | rfl | rfl | rfl | rfl | rfl | rfl | rfl | rfl | rfl | rfl | rfl | rfl | rfl <;> first | exact ⟨h1, h2, h3, h4⟩ | exact absurd rfl h8 | exact absurd rfl h9
theorem fresh_with {m : MM} (h : Fresh m) : withV m nilS nilS = m := by
  obtain ⟨h1, h2, -, -⟩ := h
  cases m
  simp only at h1 h2
  subst h1 h2
  rfl
theorem with_nv {m : MM} (v : Value) (h : m.qv = nilS) : { m with nv := v } = withV m v nilS := by
  cases m; simp only at h; subst h; rfl
theorem with_qv {m : MM} (v : Value) (h : m.nv = nilS) : { m with qv := v } = withV m nilS v := by
  cases m; simp only at h; subst h; rfl
/-- A field is read: the lists' values aside. -/
theorem rField (w0 w1 : World) (k g : Nat) (b : List UInt8) (m : MM) (s : RS) (W : World) (f : Nat) (hf : f < 23) (hb : b.length ≤ 1000000) (ha : s.at' ≤ b.length) (g0 : G w0) (hfr : Fresh m) (h : Rst w0 w1 k g b m s W) :
    Calls Tryz.prog 38 #[.iface 94 (.pointer (some ⟨k, 0, none⟩)), .pointer (some ⟨g, 0, none⟩), .int .i64 (f : Int)] W fun e W' => e = .returned (.tuple #[]) ∧
      ∃ v1 v2, Rst w0 w1 k g b (withV (rdF b m s f).1 v1 v2) (rdF b m s f).2 W' ∧ (f ≠ 8 ∧ f ≠ 9 → v1 = nilS ∧ v2 = nilS) := by
  have plain : ∀ {f : Nat}, f < 23 → f ≠ 8 → f ≠ 9 → (Calls Tryz.prog 38 #[.iface 94 (.pointer (some ⟨k, 0, none⟩)), .pointer (some ⟨g, 0, none⟩), .int .i64 (f : Int)] W fun e W' => e = .returned (.tuple #[]) ∧ Rst w0 w1 k g b (rdF b m s f).1 (rdF b m s f).2 W') →
      Calls Tryz.prog 38 #[.iface 94 (.pointer (some ⟨k, 0, none⟩)), .pointer (some ⟨g, 0, none⟩), .int .i64 (f : Int)] W fun e W' => e = .returned (.tuple #[]) ∧
      ∃ v1 v2, Rst w0 w1 k g b (withV (rdF b m s f).1 v1 v2) (rdF b m s f).2 W' ∧ (f ≠ 8 ∧ f ≠ 9 → v1 = nilS ∧ v2 = nilS) := fun hf h8 h9 hc =>
    hc.mono fun _ _ ⟨e1, e2⟩ => ⟨e1, nilS, nilS, by rw [fresh_with (fresh_rdF hf h8 h9 hfr)]; exact e2, fun _ => ⟨rfl, rfl⟩⟩
  rcases k23 hf with rfl | rfl | rfl | rfl | rfl | rfl | rfl | rfl | rfl | rfl | rfl | rfl | rfl | rfl | rfl | rfl | rfl | rfl | rfl | rfl | rfl | rfl | rfl
  · exact plain (by omega) (by omega) (by omega) (rF_0 w0 w1 k g b m s W hb hfr h)
  · exact plain (by omega) (by omega) (by omega) (rF_1 w0 w1 k g b m s W hb hfr h)
  · exact plain (by omega) (by omega) (by omega) (rF_2 w0 w1 k g b m s W hb hfr h)
  · exact plain (by omega) (by omega) (by omega) (rF_3 w0 w1 k g b m s W hb hfr h)
  · exact plain (by omega) (by omega) (by omega) (rF_4 w0 w1 k g b m s W hb hfr h)
  · exact plain (by omega) (by omega) (by omega) (rF_5 w0 w1 k g b m s W hb hfr h)
  · exact plain (by omega) (by omega) (by omega) (rF_6 w0 w1 k g b m s W hb hfr h)
  · exact plain (by omega) (by omega) (by omega) (rF_7 w0 w1 k g b m s W hb hfr h)
  · exact (rF_8 w0 w1 k g b m s W hb hfr h).mono fun _ _ ⟨e1, v, e2⟩ => ⟨e1, v, nilS, (with_nv v (show (rdF b m s 8).1.qv = nilS from hfr.2.1)) ▸ e2, fun h => absurd rfl h.1⟩
  · exact (rF_9 w0 w1 k g b m s W hb hfr h).mono fun _ _ ⟨e1, v, e2⟩ => ⟨e1, nilS, v, (with_qv v (show (rdF b m s 9).1.nv = nilS from hfr.1)) ▸ e2, fun h => absurd rfl h.2⟩
  · exact plain (by omega) (by omega) (by omega) (rF_10 w0 w1 k g b m s W hb hfr h)
  · exact plain (by omega) (by omega) (by omega) (rF_11 w0 w1 k g b m s W hb hfr h)
  · exact plain (by omega) (by omega) (by omega) (rF_12 w0 w1 k g b m s W hb hfr h)
  · exact plain (by omega) (by omega) (by omega) (rF_13 w0 w1 k g b m s W hb hfr h)
  · exact plain (by omega) (by omega) (by omega) (rF_14 w0 w1 k g b m s W hb hfr h)
  · exact plain (by omega) (by omega) (by omega) (rF_15 w0 w1 k g b m s W hb hfr h)
  · exact plain (by omega) (by omega) (by omega) (rF_16 w0 w1 k g b m s W hb hfr h)
  · exact plain (by omega) (by omega) (by omega) (rF_17 w0 w1 k g b m s W hb hfr h ha)
  · exact plain (by omega) (by omega) (by omega) (rF_18 w0 w1 k g b m s W hb hfr h ha g0)
  · exact plain (by omega) (by omega) (by omega) (rF_19 w0 w1 k g b m s W hb hfr h)
  · exact plain (by omega) (by omega) (by omega) (rF_20 w0 w1 k g b m s W hb hfr h)
  · exact plain (by omega) (by omega) (by omega) (rF_21 w0 w1 k g b m s W hb hfr h)
  · exact plain (by omega) (by omega) (by omega) (rF_22 w0 w1 k g b m s W hb hfr h)
end Go.Proofs.YtlfdmbfbfadifaaGreatDoor

namespace Go.Proofs.YtlfdmbfbfadifaaGreatDoor
open Go.RowKit

theorem setB_kd (m : MM) (v : Int) : (cellsB m).setIfInBounds 0 (.int .i64 v) = cellsB { m with kd := v } := by kernel_rfl
theorem setB_tg (m : MM) (v : Int) : (cellsB m).setIfInBounds 1 (.int .i64 v) = cellsB { m with tg := v } := by kernel_rfl
theorem kp_fblk {k g : Nat} {w w' : World} {v : Value} {L : List Nat} {s : RS} {b : List UInt8} {m : MM} (hk : RdAt k b s w) (hg : BlkM w g m) (h : FBlk w v L) (hw : Kp k g w w') : FBlk w' v L := by
  obtain ⟨p, rfl, hl, h⟩ := h
  refine ⟨p, rfl, hl, fun hL => ?_⟩
  obtain ⟨j, rfl, hj⟩ := h hL
  refine ⟨j, rfl, (hw.block j (Array.getElem?_eq_some_iff.1 hj).1 ?_ ?_).trans hj⟩
  · rintro rfl
    unfold RdAt at hk
    rw [hj] at hk
    injection hk with hk
    injection hk with h1 h2
    exact absurd h2 (by decide)
  · rintro rfl
    unfold BlkM at hg
    rw [hj] at hg
    injection hg with hg
    injection hg with h1 h2
    exact absurd h2 (by decide)
theorem noM_fresh : Fresh noM := ⟨rfl, rfl, rfl, rfl⟩
theorem headR_fresh (b : List UInt8) : Fresh (headR b).1 := ⟨rfl, rfl, rfl, rfl⟩
/-- What has been read, the lists' values aside; they are nil as long as there are fields to come. -/
def RdTo (b : List UInt8) (j : Nat) (m : MM) : Prop := (∃ v1 v2, m = withV (rdTo b j).1 v1 v2) ∧ (j < (fieldsL (headR b).1.kd).length → m = (rdTo b j).1 ∧ Fresh m)
theorem RdTo.zero (b : List UInt8) : RdTo b 0 (headR b).1 := ⟨⟨nilS, nilS, (fresh_with (headR_fresh b)).symm⟩, fun _ => ⟨rfl, headR_fresh b⟩⟩
theorem RdTo.succ {b : List UInt8} {j : Nat} {v1 v2 : Value} (hj : j < (fieldsL (headR b).1.kd).length) (hfr : Fresh (rdTo b j).1) (hv : (fieldsL (headR b).1.kd).getD j 0 ≠ 8 ∧ (fieldsL (headR b).1.kd).getD j 0 ≠ 9 → v1 = nilS ∧ v2 = nilS) : RdTo b (j + 1) (withV (rdTo b (j + 1)).1 v1 v2) := by
  refine ⟨⟨v1, v2, rfl⟩, fun h => ?_⟩
  have h8 : (fieldsL (headR b).1.kd).getD j 0 ≠ 8 ∧ (fieldsL (headR b).1.kd).getD j 0 ≠ 9 := by
    constructor
    · intro e; have := lists_last _ (.inl e) hj; omega
    · intro e; have := lists_last _ (.inr e) hj; omega
  obtain ⟨rfl, rfl⟩ := hv h8
  have hf : Fresh (rdTo b (j + 1)).1 := fresh_rdF (fld_lt _ _) h8.1 h8.2 hfr
  rw [fresh_with hf]
  exact ⟨rfl, hf⟩

set_option maxHeartbeats 4000000 in
set_option maxRecDepth 100000 in
theorem rPass (w0 w1 : World) (k g : Nat) (b : List UInt8) (W : World) (hb3 : 3 ≤ b.length) (hb : b.length ≤ 1000000) (g0 : G w0) (h : Rst w0 w1 k g b noM ⟨0, false⟩ W) :
    Calls Tryz.prog 19 #[.iface 94 (.pointer (some ⟨k, 0, none⟩)), .pointer (some ⟨g, 0, none⟩)] W fun e W' => e = .returned (.tuple #[]) ∧
      ∃ v1 v2, Below w0.heap.size w0 W' ∧ RdAt k b (rdAll b).2 W' ∧ BlkM W' g (withV (rdAll b).1 v1 v2) ∧ RowA w0.heap.size W' (withV (rdAll b).1 v1 v2) := by
  have hn := nilR_number k
  have hmt := metR_number k
  have hcf := fun args W => cfR_number W args
  have H1 : Hid (∀ W, Rst w0 w1 k g b noM ⟨0, false⟩ W → Calls Tryz.prog 138 #[.pointer (some ⟨k, 0, none⟩), .pointer (some ⟨g, 0, none⟩), .int .i64 1] W fun e W' => e = .returned (.tuple #[]) ∧ Rst w0 w1 k g b { noM with kd := (rdN b ⟨0, false⟩ 1).1 } (rdN b ⟨0, false⟩ 1).2 W') :=
    fun W h => (rNumber k g 0 b ⟨0, false⟩ 1 1 W rfl hb h.2.2.1 h.1.1 (tgt_msg h.2.2.2.1 (by omega))).mono fun _ W' ⟨e1, e2, e3, e4⟩ => ⟨e1, h.next e2 (show W'.heap[g]? = _ from setB_kd noM _ ▸ e3 _ _ h.2.2.2.1) e4 (fresh_row W' ⟨rfl, rfl, rfl, rfl⟩)⟩
  have H2 : Hid (∀ W, Rst w0 w1 k g b { noM with kd := (rdN b ⟨0, false⟩ 1).1 } (rdN b ⟨0, false⟩ 1).2 W → Calls Tryz.prog 138 #[.pointer (some ⟨k, 0, none⟩), .pointer (some ⟨g, 1, none⟩), .int .i64 2] W fun e W' => e = .returned (.tuple #[]) ∧ Rst w0 w1 k g b (headR b).1 (headR b).2 W') :=
    fun W h => (rNumber k g 1 b (rdN b ⟨0, false⟩ 1).2 2 2 W rfl hb h.2.2.1 h.1.1 (tgt_msg h.2.2.2.1 (by omega))).mono fun _ W' ⟨e1, e2, e3, e4⟩ => ⟨e1, h.next e2 (show W'.heap[g]? = _ from setB_tg { noM with kd := (rdN b ⟨0, false⟩ 1).1 } _ ▸ e3 _ _ h.2.2.2.1) e4 (fresh_row W' (headR_fresh b))⟩
  have HL : Hid (∀ W, Calls Tryz.prog 35 #[.int .i64 (headR b).1.kd] W fun e w' => ∃ v, e = .returned v ∧ FBlk w' v (fieldsL (headR b).1.kd) ∧ Below W.heap.size W w') := fun W => layL_eq (headR b).1.kd ▸ layout_any (headR b).1.kd W
  have hc : Hid (∀ W, Rst w0 w1 k g b (headR b).1 (headR b).2 W → W.cell? ⟨g, 0, none⟩ = some (.int .i64 (headR b).1.kd)) := fun W h => h.2.2.2.1.cell 0
  have HF := Lib.hid (fun j (hj : j < (fieldsL (headR b).1.kd).length) m (hm : RdTo b j m) w2 W (h : Rst w0 w2 k g b m (rdTo b j).2 W) => rField w0 w2 k g b m (rdTo b j).2 W ((fieldsL (headR b).1.kd).getD j 0) (fld_lt _ _) hb (rdTo_eqv hb3 j).1.1 g0 (hm.2 hj).2 h)
  have HS : Hid (∀ j m v1 v2, j < (fieldsL (headR b).1.kd).length → RdTo b j m → ((fieldsL (headR b).1.kd).getD j 0 ≠ 8 ∧ (fieldsL (headR b).1.kd).getD j 0 ≠ 9 → v1 = nilS ∧ v2 = nilS) → RdTo b (j + 1) (withV (rdF b m (rdTo b j).2 ((fieldsL (headR b).1.kd).getD j 0)).1 v1 v2) ∧ (rdF b m (rdTo b j).2 ((fieldsL (headR b).1.kd).getD j 0)).2 = (rdTo b (j + 1)).2) := by
    intro j m v1 v2 hj hm hv
    obtain ⟨e1, e2⟩ := hm.2 hj
    subst e1
    exact ⟨RdTo.succ hj e2 hv, rfl⟩
  have HE : Hid (rdTo b (fieldsL (headR b).1.kd).length = rdAll b) := rfl
  have HZ : Hid (RdTo b 0 (headR b).1 ∧ (rdTo b 0).2 = (headR b).2) := ⟨RdTo.zero b, rfl⟩
  have hl4 : (fieldsL (headR b).1.kd).length ≤ 4 := by have := layL_len (headR b).1.kd; rwa [layL_eq] at this
  have hw := Lib.hid h
  clear h g0 hb hb3
  go_enter Tryz.func19, Tryz.ntmps19
  go_wp2
  go_still_tail 7, (by kernel_rfl)
  change wpList _ _ _ _ _ W.drew
  have hw0 := Lib.hid hw.out.drew
  generalize W.drew = W1 at *
  go_wp2_with fail
  refine (H1.out _ hw0.out).mono ?_
  rintro e W2 ⟨rfl, hp⟩
  have hw2 := Lib.hid hp.drew
  clear hp
  go_wp2
  go_still_tail 7, (by kernel_rfl)
  change wpList _ _ _ _ _ W2.drew
  generalize W2.drew = W3 at *
  go_wp2_with fail
  refine (H2.out _ hw2.out).mono ?_
  rintro e W4 ⟨rfl, hp⟩
  have x0 := hc.out _ hp
  have hw4 := Lib.hid hp
  clear hp
  generalize (headR b).1.kd = kd at *
  go_wp2_with fail
  refine (HL.out _).mono ?_
  rintro e W5 ⟨v, rfl, hv, hB5⟩
  have hw5 := Lib.hid (hw4.out.go hB5).base
  have HV := Lib.hid hv
  obtain ⟨p, hvv, -, -⟩ := id hv
  subst hvv
  clear hv hB5 x0
  go_wp2
  go_loopw [28] (fun vj wr => ∃ (j : Nat) (m : MM), vj = .int .i64 (j : Int) ∧ j ≤ (fieldsL kd).length ∧ Hid (RdTo b j m) ∧ Hid (Rst w0 W5 k g b m (rdTo b j).2 wr)) (fun vj _ => (fieldsL kd).length - (intOf vj).toNat)
  case atStart => exact ⟨0, _, rfl, by omega, HZ.out.1, by rw [HZ.out.2]; exact hw5⟩
  case round =>
    obtain ⟨j, m, rfl, hj, hm, hwj⟩ := hrel
    by_cases hlt : j < (fieldsL kd).length
    · obtain ⟨jb, hp, hbb, hcj⟩ := (kp_fblk hw5.out.2.2.1 hw5.out.2.2.2.1 HV.out hwj.out.2.2.2.2.2).at_ hlt
      obtain rfl : p = some ⟨jb, 0, none⟩ := by injection hp with h1 h2 h3
      clear hp hbb
      have hcall := Lib.hid (HF.out j hlt m hm.out W5 wr hwj.out)
      have hnext := Lib.hid (fun v1 v2 h => HS.out j m v1 v2 hlt hm.out h)
      generalize (fieldsL kd).getD j 0 = f at *
      go_wp2_with fail
      refine hcall.out.mono ?_
      rintro e W6 ⟨rfl, v1, v2, hp, hvs⟩
      obtain ⟨n1, n2⟩ := hnext.out v1 v2 hvs
      have hm6 := Lib.hid n1
      rw [n2] at hp
      have hw6 := Lib.hid hp
      clear hp hvs n1 n2 hcall hnext
      go_wp2
      exact ⟨⟨j + 1, _, by go_num, by omega, hm6, hw6⟩, by simp [intOf]; omega⟩
    · obtain rfl : j = (fieldsL kd).length := by omega
      obtain ⟨⟨v1, v2, hmv⟩, -⟩ := hm.out
      subst hmv
      have h5 := hwj.out
      rw [HE.out] at h5
      have H5 := Lib.hid h5
      clear h5
      go_wp2
      go_end0
      exact ⟨rfl, v1, v2, H5.out.2.1, H5.out.2.2.1, H5.out.2.2.2.1, H5.out.2.2.2.2.1⟩
end Go.Proofs.YtlfdmbfbfadifaaGreatDoor

namespace Go.Proofs.YtlfdmbfbfadifaaGreatDoor
open Go.RowKit

theorem getR_in (l : List UInt8) (a w : Int) : inI (getR l a w).1 := by
  unfold getR inI
  split
  · exact ⟨by decide, by decide⟩
  · split
    · exact ⟨by decide, by decide⟩
    · split
      · exact ⟨by decide, by decide⟩
      · dsimp only; constructor <;> omega
theorem rdN_in (b : List UInt8) (s : RS) (w : Nat) : inI (rdN b s w).1 := getR_in _ _ _
theorem rdT_le (b : List UInt8) (s : RS) : (rdT b s).1.length ≤ b.length := St.getTextR_le _ _
theorem rdNs_le (b : List UInt8) (c : Int) : ∀ (n : Nat) (acc : List (List UInt8)) (s : RS), (∀ l ∈ acc, l.length ≤ b.length) → ∀ l ∈ (rdNs b c n acc s).1, l.length ≤ b.length
  | 0, _, _, h => h
  | n + 1, acc, s, h => by
    rw [rdNs]
    split
    · refine rdNs_le b c n _ _ (fun l hl => ?_)
      rcases List.mem_append.1 hl with hl | hl
      · exact h l hl
      · rw [List.mem_singleton] at hl
        subst hl
        exact rdT_le b s
    · exact h
theorem rdQs_in (b : List UInt8) (c : Int) : ∀ (n : Nat) (acc : List QQ) (s : RS), (∀ q ∈ acc, inI q.t) → ∀ q ∈ (rdQs b c n acc s).1, inI q.t
  | 0, _, _, h => h
  | n + 1, acc, s, h => by
    rw [rdQs]
    split
    · refine rdQs_in b c n _ _ (fun l hl => ?_)
      rcases List.mem_append.1 hl with hl | hl
      · exact h l hl
      · rw [List.mem_singleton] at hl
        subst hl
        exact rdN_in b s 1
    · exact h
theorem atQ_memR {l : List QQ} {k : Nat} (h : k < l.length) : atQ l k ∈ l := by
  unfold atQ
  rw [List.getD_eq_getElem?_getD, List.getElem?_eq_getElem h]
  exact List.getElem_mem h
theorem getS_in (l : List UInt8) (a : Int) (hl : l.length ≤ maxLen) : inD (getS numP l a).1 ∧ bigD (getS numP l a).1 := by
  have h0 : inD noD ∧ bigD noD := ⟨St.inD_noD, St.bigD_noD⟩
  have h1 := St.decX_in (getTextR l a).1 (Nat.le_trans (St.getTextR_le l a) hl)
  unfold getS
  split
  · exact h0
  · split
    · exact h0
    · split
      · exact h0
      · exact h1
theorem rdDa_le {b old : List UInt8} {s : RS} {n : Nat} (h : old.length ≤ n) (hb : b.length ≤ n) : (rdDa b old s).1.length ≤ n := by
  unfold rdDa daR cut
  split
  · exact h
  · simp only [List.length_take, List.length_drop]; omega
theorem rdF_in {b : List UInt8} {m : MM} {s : RS} {f : Nat} (hf : f < 23) (hb : b.length ≤ 1000000) (h : inM m) : inM (rdF b m s f).1 := by
  obtain ⟨h1, h2, h3, h4, h5, h6, h7, h8, h9, h10, h11⟩ := h
  have hl : b.length ≤ maxLen := by unfold maxLen; omega
  have ht : (rdT b s).1.length ≤ maxLen := Nat.le_trans (rdT_le b s) hl
  rcases k23 hf with rfl | rfl | rfl | rfl | rfl | rfl | rfl | rfl | rfl | rfl | rfl | rfl | rfl | rfl | rfl | rfl | rfl | rfl | rfl | rfl | rfl | rfl | rfl
  · exact ⟨h1, h2, h3, h4, h5, h6, h7, h8, h9, h10, h11⟩
  · exact ⟨h1, h2, h3, h4, h5, h6, h7, h8, h9, h10, h11⟩
  · exact ⟨h1, h2, h3, h4, h5, h6, h7, h8, h9, h10, h11⟩
  · exact ⟨h1, h2, h3, h4, h5, h6, h7, h8, h9, h10, h11⟩
  · exact ⟨h1, h2, h3, h4, h5, h6, h7, h8, h9, h10, h11⟩
  · exact ⟨h1, h2, h3, h4, h5, ht, h7, h8, h9, h10, h11⟩
  · exact ⟨h1, h2, h3, h4, h5, h6, ht, h8, h9, h10, h11⟩
  · exact ⟨h1, h2, h3, h4, h5, h6, h7, ht, h9, h10, h11⟩
  · exact ⟨h1, h2, h3, h4, fun l hm => Nat.le_trans (rdNs_le b _ _ _ _ (fun _ h => absurd h List.not_mem_nil) l hm) hl, h6, h7, h8, h9, h10, h11⟩
  · exact ⟨h1, h2, h3, fun k hk => rdQs_in b _ _ _ _ (fun _ h => absurd h List.not_mem_nil) _ (atQ_memR hk), h5, h6, h7, h8, h9, h10, h11⟩
  · exact ⟨rdN_in b s 1, h2, h3, h4, h5, h6, h7, h8, h9, h10, h11⟩
  · exact ⟨h1, h2, h3, h4, h5, h6, h7, h8, h9, h10, h11⟩
  · exact ⟨h1, h2, h3, h4, h5, h6, h7, h8, h9, h10, h11⟩
  · exact ⟨h1, h2, h3, h4, h5, h6, h7, h8, h9, h10, h11⟩
  · exact ⟨h1, h2, h3, h4, h5, h6, h7, h8, ht, h10, h11⟩
  · exact ⟨h1, h2, h3, h4, h5, h6, h7, h8, h9, h10, h11⟩
  · exact ⟨h1, h2, h3, h4, h5, h6, h7, h8, h9, h10, h11⟩
  · exact ⟨h1, h2, h3, h4, h5, h6, h7, h8, h9, rdDa_le h10 hl, h11⟩
  · exact ⟨h1, (getS_in b _ hl).1, (getS_in b _ hl).2, h4, h5, h6, h7, h8, h9, h10, h11⟩
  · exact ⟨h1, h2, h3, h4, h5, h6, h7, h8, h9, h10, h11⟩
  · exact ⟨h1, h2, h3, h4, h5, h6, h7, h8, h9, h10, h11⟩
  · exact ⟨h1, h2, h3, h4, h5, h6, h7, h8, h9, h10, h11⟩
  · exact ⟨h1, h2, h3, h4, h5, h6, h7, h8, h9, h10, ht⟩
theorem inM_no : inM noM := ⟨⟨by decide, by decide⟩, St.inD_noD, St.bigD_noD, fun _ h => absurd h (Nat.not_lt_zero _), fun _ h => absurd h List.not_mem_nil, Nat.zero_le _, Nat.zero_le _, Nat.zero_le _, Nat.zero_le _, Nat.zero_le _, Nat.zero_le _⟩
theorem rdTo_in {b : List UInt8} (hb : b.length ≤ 1000000) : ∀ j, inM (rdTo b j).1
  | 0 => inM_no
  | j + 1 => rdF_in (fld_lt _ _) hb (rdTo_in hb j)
theorem rdAll_in {b : List UInt8} (hb : b.length ≤ 1000000) : inM (rdAll b).1 := rdTo_in hb _
theorem rdF_kd (b : List UInt8) (m : MM) (s : RS) {f : Nat} (hf : f < 23) : (rdF b m s f).1.kd = m.kd := by
  rcases k23 hf with rfl | rfl | rfl | rfl | rfl | rfl | rfl | rfl | rfl | rfl | rfl | rfl | rfl | rfl | rfl | rfl | rfl | rfl | rfl | rfl | rfl | rfl | rfl <;> rfl
theorem rdTo_kd (b : List UInt8) : ∀ j, (rdTo b j).1.kd = (headR b).1.kd
  | 0 => rfl
  | j + 1 => (rdF_kd b _ _ (fld_lt _ _)).trans (rdTo_kd b j)
theorem rdAll_kd (b : List UInt8) : (rdAll b).1.kd = (headR b).1.kd := rdTo_kd b _
theorem withV_in {m : MM} (v1 v2 : Value) (h : inM m) : inM (withV m v1 v2) := h
theorem withV_check (m : MM) (v1 v2 : Value) : checkM (withV m v1 v2) = checkM m := rfl
end Go.Proofs.YtlfdmbfbfadifaaGreatDoor

namespace Go.Proofs.YtlfdmbfbfadifaaGreatDoor
open Go.RowKit

theorem zero_msgW : Hid (∀ W : World, W.alloc (.cells #[.int .i64 0, .int .i64 0, .int .i64 0, .int .i64 0, .int .i64 0, .int .i64 0, .int .i64 0, .string ⟨#[]⟩, .string ⟨#[]⟩, .string ⟨#[]⟩, .slice none 0 0, .slice none 0 0, .int .i64 0, .int .i64 0, .int .i64 0, .int .i64 0, .int .i64 0, .int .i64 0, .string ⟨#[]⟩, .int .i64 0, .int .i64 0, .string ⟨#[]⟩, .int .i64 0, .int .i64 0, .int .i64 0, .int .i64 0, .int .i64 0, .int .i64 0, .int .i64 0, .int .i64 0, .int .i64 0, .string ⟨#[]⟩, .string ⟨#[]⟩, .string ⟨#[]⟩, .string ⟨#[]⟩, .int .i64 0, .int .i64 0, .int .i64 0, .string ⟨#[]⟩] 30) = W.alloc (.cells (cellsB noM) 30)) := Lib.hid fun _ => rfl
theorem BlkM.setRow {w : World} {b : Nat} {d : MM} (h : BlkM w b d) (e : MM) : BlkM (w.setRow b (cellsB e)) b e := setRow_heap w b _ _ _ _ h
theorem below_setRow {B : Nat} {a w : World} (h : Below B a w) {g : Nat} (hg : B ≤ g) (cs : Array Value) : Below B a (w.setRow g cs) :=
  ⟨h.os, h.tape, h.output, by simp [World.setRow]; exact h.size, fun k hk => by
    have := h.block k hk
    rw [← this]
    simp only [World.setRow, Array.getElem?_modify]
    rw [if_neg (by omega)]⟩
theorem cellsB_one (m : MM) (h1 : m.nv.oneCell' = true) (h2 : m.qv.oneCell' = true) : (cellsB m).all (·.oneCell') = true := by
  have h : (cellsM m).all (·.oneCell') = true := by
    simp only [cellsM, List.all_cons, h1, h2]
    rfl
  unfold cellsB
  rw [← h]
  simp only [List.all_toArray]
/-- What decode returns. -/
def decM (ok : Bool) (m : MM) (v1 v2 : Value) : MM := if ok then withV m v1 v2 else noM
theorem name_eql (k : Int) : ((mk (nameK k)).toList == []) = !kindB k := by
  rw [mk_toList]
  cases hk : kindB k
  · rw [nameK_nil.2 hk]; rfl
  · rw [Bool.not_true, beq_eq_false_iff_ne]
    intro h
    rw [nameK_nil.1 h] at hk
    cases hk

theorem setRow_other (w : World) (g b : Nat) (cs : Array Value) (h : b ≠ g) : (w.setRow g cs).heap[b]? = w.heap[b]? := by
  simp only [World.setRow, Array.getElem?_modify]
  rw [if_neg (fun e => h e.symm)]
theorem setRow_size (w : World) (g : Nat) (cs : Array Value) : (w.setRow g cs).heap.size = w.heap.size := by simp [World.setRow]
theorem slice_one {v : Value} {p : Option Addr} {n c : Nat} (h : v = .slice p n c) : v.oneCell' = true := by rw [h]; rfl
theorem RowM.one {w : World} {m : MM} (h : RowM w m) : m.nv.oneCell' = true ∧ m.qv.oneCell' = true := by
  obtain ⟨⟨_, _, h1, _⟩, ⟨_, _, h2, _⟩⟩ := h
  exact ⟨slice_one h1, slice_one h2⟩
theorem load_msgA {w : World} {b : Nat} {m : MM} (h : BlkM w b m) : (loadVar 30 ⟨b, 0, none⟩).run Tryz.prog w = .ok (msgV m) w :=
  run_loadVar_row w b 30 30 (cellsB m) (0, 0) _ h Tryz.underlying30 rfl (by kernel_rfl)
theorem results_msg {fn : Func} {p u b : Nat} {m : MM} {w : World} {tmps : Array Value} (h : fn.results = #[.cell p 30, .tmp u]) (hp : tmps.getD p undef = .pointer (some ⟨b, 0, none⟩)) (hb : BlkM w b m) :
    (results fn tmps).run Tryz.prog w = .ok (.tuple #[msgV m, tmps.getD u undef]) w := by
  rw [results_cell_tmp h, hp]
  have ha : (asAddr (.pointer (some ⟨b, 0, none⟩))).run Tryz.prog w = .ok ⟨b, 0, none⟩ w := rfl
  simp only [ha, Result.andThen, load_msgA hb]
theorem results_msg3 {fn : Func} {p u v b : Nat} {m : MM} {w : World} {tmps : Array Value} (h : fn.results = #[.cell p 30, .tmp u, .tmp v]) (hp : tmps.getD p undef = .pointer (some ⟨b, 0, none⟩)) (hb : BlkM w b m) :
    (results fn tmps).run Tryz.prog w = .ok (.tuple #[msgV m, tmps.getD u undef, tmps.getD v undef]) w := by
  have ha : (asAddr (.pointer (some ⟨b, 0, none⟩))).run Tryz.prog w = .ok ⟨b, 0, none⟩ w := rfl
  have hp' : tmps[p]?.getD undef = .pointer (some ⟨b, 0, none⟩) := by simpa using hp
  simp only [results, h]
  simp [Sem.run_bind, Result.andThen, hp', ha, load_msgA hb]

set_option maxHeartbeats 6400000 in
set_option maxRecDepth 100000 in
theorem decode_msg (b : List UInt8) (hb3 : 3 ≤ b.length) (hb : b.length ≤ 1000000) (w : World) (g : G w) :
    Calls Tryz.prog 27 #[.string (mk b)] w fun e W => ∃ v1 v2, e = .returned (.tuple #[msgV (decM (okR b) (rdAll b).1 v1 v2), .bool (okR b)]) ∧ RowA (w.heap.size + 1) W (withV (rdAll b).1 v1 v2) ∧ Below w.heap.size w W := by
  have hz := zero_msgW
  obtain ⟨W0, hW0, hB0, hK0⟩ : ∃ W, w.alloc (.cells (cellsB noM) 30) = W ∧ Below w.heap.size w W ∧ BlkM W w.heap.size noM := ⟨_, rfl, (Below.refl _ w).alloc (Nat.le_refl _) _, BlkM.new w noM⟩
  have hs0 := hK0.lt
  have hsW : Hid (w.heap.size + 1 ≤ W0.heap.size) := Lib.hid (by rw [← hW0]; simp)
  replace hW0 := Lib.hid hW0
  replace hB0 := Lib.hid hB0
  replace hK0 := Lib.hid hK0
  have hst : Rst W0 ((W0.alloc (.cells #[.string (mk b), .int .i64 0, .bool false] 93)).alloc (.cells (cellsB noM) 30)) W0.heap.size (W0.heap.size + 1) b noM ⟨0, false⟩ ((W0.alloc (.cells #[.string (mk b), .int .i64 0, .bool false] 93)).alloc (.cells (cellsB noM) 30)) := by
    have hB1 := (Below.refl W0.heap.size W0).alloc (Nat.le_refl _) (.cells #[.string (mk b), .int .i64 0, .bool false] 93)
    have hK1 := BlkM.new (W0.alloc (.cells #[.string (mk b), .int .i64 0, .bool false] 93)) noM
    have hsz : (W0.alloc (.cells #[.string (mk b), .int .i64 0, .bool false] 93)).heap.size = W0.heap.size + 1 := by simp
    rw [hsz] at hK1
    have hR : RdAt W0.heap.size b ⟨0, false⟩ (W0.alloc (.cells #[.string (mk b), .int .i64 0, .bool false] 93)) := heap_alloc_new W0 _
    exact ⟨⟨by omega, Nat.le_refl _, Nat.le_succ _⟩, hB1.alloc hB1.size _, hR.alloc _, hK1, fresh_row _ noM_fresh, Kp.refl _ _ _⟩
  have HP := Lib.hid (rPass W0 _ _ _ b _ hb3 hb (g.below hB0.out) hst)
  have HN : Hid (∀ W, Below w.heap.size w W → Calls Tryz.prog 51 #[.int .i64 (headR b).1.kd] W fun e w' => e = .returned (.string (mk (nameK (headR b).1.kd))) ∧ W = w') := fun W hW => Name_any _ (rdN_in b _ 1) W (g.below hW)
  have hE : Hid (∀ k, ((mk (nameK k)).toList == []) = !kindB k) := name_eql
  have hk0 := rdAll_kd b
  have ho : okR b = (kindB (headR b).1.kd && (!(rdAll b).2.bad && decide ((rdAll b).2.at' = b.length))) := rfl
  clear hst hb3 hb g
  generalize okR b = ok at *
  generalize rdAll b = ra at *
  obtain ⟨m, ⟨at', bad⟩⟩ := ra
  generalize (headR b).1.kd = kd at *
  dsimp only at HP hk0 ho ⊢
  replace ho := Lib.hid ho
  replace hk0 := Lib.hid hk0
  go_enter Tryz.func27, Tryz.ntmps27
  go_wp2_with (simp only [hz.out, hW0.out])
  refine HP.out.mono ?_
  rintro e W1 ⟨rfl, v1, v2, hB1, hR1, hK1, hRow⟩
  have HB1 := Lib.hid hB1
  have HBw := Lib.hid (hB0.out.trans (hB1.mono hB0.out.size))
  have HR1 := Lib.hid hR1
  have HK1 := Lib.hid hK1
  have HX1 := Lib.hid (hK0.out.below hB1 hs0)
  have HRow := Lib.hid (hRow.mono hsW.out)
  have x0 : W1.cell? ⟨W0.heap.size + 1, 0, none⟩ = some (.int .i64 kd) := by rw [hK1.cell 0]; rw [← hk0.out]; rfl
  obtain ⟨-, x1, x2⟩ := hR1.c
  dsimp only at x1 x2
  have HNW := Lib.hid (HN.out W1 HBw.out)
  clear HP HN hB1 hR1 hK1 hRow
  cases hkb : kindB kd
  · have ht : ((mk (nameK kd)).toList == []) = true := by rw [hE.out, hkb]; rfl
    have hF : Hid (ok = false) := by rw [ho.out, hkb]; rfl
    go_wp2_with fail
    refine HNW.out.mono ?_
    rintro e W2 ⟨rfl, rfl⟩
    have HX := Lib.hid (HX1.out.setRow noM)
    go_wp2_with (refine wpList_store_row rfl 30 _ _ rfl w.heap.size (cellsB noM) rfl rfl 30 (cellsB noM) HX1.out (by kernel_rfl) rfl (cellsB_one noM rfl rfl) ?_)
    refine bodyPost_ret (results_msg rfl rfl HX.out) rfl ?_
    refine ⟨v1, v2, ?_, HRow.out.to (Nat.le_of_eq (setRow_size _ _ _).symm) (fun j hj _ => setRow_other _ _ _ _ (by omega)), below_setRow HBw.out (Nat.le_refl _) _⟩
    rw [hF.out]; rfl
  have ht : ((mk (nameK kd)).toList == []) = false := by rw [hE.out, hkb]; rfl
  cases bad
  case true =>
    have hF : Hid (ok = false) := by rw [ho.out, hkb]; rfl
    go_wp2_with fail
    refine HNW.out.mono ?_
    rintro e W2 ⟨rfl, rfl⟩
    have HX := Lib.hid (HX1.out.setRow noM)
    go_wp2_with (refine wpList_store_row rfl 30 _ _ rfl w.heap.size (cellsB noM) rfl rfl 30 (cellsB noM) HX1.out (by kernel_rfl) rfl (cellsB_one noM rfl rfl) ?_)
    refine bodyPost_ret (results_msg rfl rfl HX.out) rfl ?_
    refine ⟨v1, v2, ?_, HRow.out.to (Nat.le_of_eq (setRow_size _ _ _).symm) (fun j hj _ => setRow_other _ _ _ _ (by omega)), below_setRow HBw.out (Nat.le_refl _) _⟩
    rw [hF.out]; rfl
  case false =>
    have hlen : (mk b).size = b.length := mk_size b
    by_cases hat : at' = b.length
    case neg =>
      have hF : Hid (ok = false) := Lib.hid (by rw [ho.out, hkb]; simp [hat])
      have hd : ((at' : Int) != ((mk b).size : Int)) = true := by rw [hlen]; simp; omega
      replace hlen := Lib.hid hlen
      go_wp2_with fail
      refine HNW.out.mono ?_
      rintro e W2 ⟨rfl, rfl⟩
      have HX := Lib.hid (HX1.out.setRow noM)
      go_wp2_with (refine wpList_store_row rfl 30 _ _ rfl w.heap.size (cellsB noM) rfl rfl 30 (cellsB noM) HX1.out (by kernel_rfl) rfl (cellsB_one noM rfl rfl) ?_)
      refine bodyPost_ret (results_msg rfl rfl HX.out) rfl ?_
      refine ⟨v1, v2, ?_, HRow.out.to (Nat.le_of_eq (setRow_size _ _ _).symm) (fun j hj _ => setRow_other _ _ _ _ (by omega)), below_setRow HBw.out (Nat.le_refl _) _⟩
      rw [hF.out]; rfl
    case pos =>
      have hF : Hid (ok = true) := Lib.hid (by rw [ho.out, hkb]; simp [hat])
      have hd : ((at' : Int) != ((mk b).size : Int)) = false := by rw [hlen]; simp; omega
      replace hlen := Lib.hid hlen
      go_wp2_with fail
      refine HNW.out.mono ?_
      rintro e W2 ⟨rfl, rfl⟩
      obtain ⟨mm, hmm⟩ : ∃ mm, withV m v1 v2 = mm := ⟨_, rfl⟩
      rw [hmm] at HK1 HRow
      replace hmm := Lib.hid hmm
      have HX := Lib.hid (HX1.out.setRow mm)
      have H1 := Lib.hid (cellsB_one _ HRow.out.row.one.1 HRow.out.row.one.2)
      go_wp2_with (first | (refine wpList_load_row rfl 30 _ rfl (W0.heap.size + 1) rfl 30 (cellsB mm) (0, 0) _ HK1.out Tryz.underlying30 rfl (by kernel_rfl) ?_) | (refine wpList_store_row rfl 30 _ _ rfl w.heap.size (cellsB mm) rfl rfl 30 (cellsB noM) HX1.out (by kernel_rfl) rfl H1.out ?_))
      refine bodyPost_ret (results_msg rfl rfl HX.out) rfl ?_
      refine ⟨v1, v2, ?_, ?_, below_setRow HBw.out (Nat.le_refl _) _⟩
      · rw [hF.out, ← hmm.out]; rfl
      · rw [hmm.out]; exact HRow.out.to (Nat.le_of_eq (setRow_size _ _ _).symm) (fun j hj _ => setRow_other _ _ _ _ (by omega))
end Go.Proofs.YtlfdmbfbfadifaaGreatDoor

namespace Go.Proofs.YtlfdmbfbfadifaaGreatDoor
open Go.RowKit

/-- What bodyAt comes to. -/
def bodyR (l : List UInt8) (a : Int) : List UInt8 × Int × Int :=
  if (sizeR l a).2 ≠ 0 then ([], 0, (sizeR l a).2) else (cut l (a.toNat + 4) ((sizeR l a).1.toNat - 4), a + (sizeR l a).1, 0)
/-- What a number that was read says of the offset. -/
theorem getR_at {l : List UInt8} {a : Int} (h : (getR l a 4).2.2 = 0) : 0 ≤ a ∧ a + 4 ≤ (l.length : Int) ∧ (getR l a 4).2.1 = a + 4 ∧ 0 ≤ (getR l a 4).1 ∧ (getR l a 4).1 < 9223372036854775808 := by
  revert h
  unfold getR
  split
  · intro h; cases h
  · split
    · intro h; cases h
    · split
      · intro h; cases h
      · intro _; dsimp only; refine ⟨by omega, by omega, by omega, by omega, by omega⟩
theorem bodyR_err {l : List UInt8} {a : Int} (h : (getR l a 4).2.2 ≠ 0) : bodyR l a = ([], 0, (getR l a 4).2.2) := by
  have : sizeR l a = (0, (getR l a 4).2.2) := by unfold sizeR; rw [if_pos h]
  unfold bodyR; rw [this, if_pos h]
theorem bodyR_long {l : List UInt8} {a : Int} (h : (getR l a 4).2.2 = 0) (h1 : 8192 < (getR l a 4).1) : bodyR l a = ([], 0, 4) := by
  have : sizeR l a = (0, 4) := by unfold sizeR; rw [if_neg (by simp [h]), if_pos h1]
  unfold bodyR; rw [this]; rfl
theorem bodyR_form {l : List UInt8} {a : Int} (h : (getR l a 4).2.2 = 0) (h1 : ¬ 8192 < (getR l a 4).1) (h2 : (getR l a 4).1 < 7) : bodyR l a = ([], 0, 2) := by
  have : sizeR l a = (0, 2) := by unfold sizeR; rw [if_neg (by simp [h]), if_neg h1, if_pos h2]
  unfold bodyR; rw [this]; rfl
theorem bodyR_short {l : List UInt8} {a : Int} (h : (getR l a 4).2.2 = 0) (h1 : ¬ 8192 < (getR l a 4).1) (h2 : ¬ (getR l a 4).1 < 7) (h3 : (l.length : Int) - a < (getR l a 4).1) : bodyR l a = ([], 0, 3) := by
  have : sizeR l a = (0, 3) := by unfold sizeR; rw [if_neg (by simp [h]), if_neg h1, if_neg h2, if_pos h3]
  unfold bodyR; rw [this]; rfl
theorem bodyR_ok {l : List UInt8} {a : Int} (h : (getR l a 4).2.2 = 0) (h1 : ¬ 8192 < (getR l a 4).1) (h2 : ¬ (getR l a 4).1 < 7) (h3 : ¬ (l.length : Int) - a < (getR l a 4).1) : bodyR l a = (cut l (a.toNat + 4) ((getR l a 4).1.toNat - 4), a + (getR l a 4).1, 0) := by
  have : sizeR l a = ((getR l a 4).1, 0) := by unfold sizeR; rw [if_neg (by simp [h]), if_neg h1, if_neg h2, if_neg h3]
  unfold bodyR; rw [this]; rfl

set_option maxHeartbeats 3200000 in
set_option maxRecDepth 100000 in
theorem bodyAt_any (l : List UInt8) (a : Int) (hl : l.length ≤ 1000000) (w : World) :
    Calls Tryz.prog 26 #[.string (mk l), .int .i64 a] w fun e w' => e = .returned (.tuple #[.string (mk (bodyR l a).1), .int .i64 (bodyR l a).2.1, .int .i64 (bodyR l a).2.2]) ∧ w = w' := by
  have hG := Lib.hid (oGet l a 4 (by unfold maxLen; omega) w)
  have hat := fun h => getR_at (l := l) (a := a) h
  have H1 := Lib.hid (fun h => bodyR_err (l := l) (a := a) h)
  have H2 := Lib.hid (fun h h1 => bodyR_long (l := l) (a := a) h h1)
  have H3 := Lib.hid (fun h h1 h2 => bodyR_form (l := l) (a := a) h h1 h2)
  have H4 := Lib.hid (fun h h1 h2 h3 => bodyR_short (l := l) (a := a) h h1 h2 h3)
  have H5 := Lib.hid (fun h h1 h2 h3 => bodyR_ok (l := l) (a := a) h h1 h2 h3)
  have hsz := mk_size l
  have HM := Lib.hid (mk_slice l)
  generalize bodyR l a = res at *
  generalize getR l a 4 = gr at *
  obtain ⟨n, nx, er⟩ := gr
  dsimp only at hG hat H1 H2 H3 H4 H5
  by_cases he : er = 0
  case neg =>
    have hr := Lib.hid (H1.out he)
    have hne : (er != 0) = true := by simpa using he
    clear H1 H2 H3 H4 H5 hat hsz
    go_enter Tryz.func26, Tryz.ntmps26
    go_wp2_with fail
    refine hG.out.mono ?_
    rintro e w1 ⟨rfl, rfl⟩
    go_wp2
    go_ret3
    rw [hr.out]
    exact ⟨rfl, rfl⟩
  case pos =>
    obtain ⟨a0, a1, rfl, n0, n1⟩ := hat he
    subst he
    obtain ⟨ka, rfl⟩ := Int.eq_ofNat_of_zero_le a0
    obtain ⟨kn, rfl⟩ := Int.eq_ofNat_of_zero_le n0
    clear hat H1
    by_cases h1 : 8192 < (kn : Int)
    · have hr := Lib.hid (H2.out rfl h1)
      have hd : decide ((8192 : Int) < (kn : Int)) = true := by simpa using h1
      clear H2 H3 H4 H5 hsz
      go_enter Tryz.func26, Tryz.ntmps26
      go_wp2_with fail
      refine hG.out.mono ?_
      rintro e w1 ⟨rfl, rfl⟩
      go_wp2
      go_ret3
      rw [hr.out]
      exact ⟨rfl, rfl⟩
    have hd1 : decide ((8192 : Int) < (kn : Int)) = false := by simpa using h1
    by_cases h2 : (kn : Int) < 7
    · have hr := Lib.hid (H3.out rfl h1 h2)
      have hd2 : decide ((kn : Int) < 7) = true := by simpa using h2
      clear H2 H3 H4 H5 hsz
      go_enter Tryz.func26, Tryz.ntmps26
      go_wp2_with fail
      refine hG.out.mono ?_
      rintro e w1 ⟨rfl, rfl⟩
      go_wp2
      go_ret3
      rw [hr.out]
      exact ⟨rfl, rfl⟩
    have hd2 : decide ((kn : Int) < 7) = false := by simpa using h2
    by_cases h3 : (l.length : Int) - (ka : Int) < (kn : Int)
    · have hr := Lib.hid (H4.out rfl h1 h2 h3)
      have hd3 : decide (((mk l).size : Int) - (ka : Int) < (kn : Int)) = true := by rw [hsz]; simpa using h3
      have hb1 : (ka : Int) ≤ ((mk l).size : Int) := by omega
      have hb2 : (mk l).size ≤ 1000000 := by omega
      replace hsz := Lib.hid hsz
      clear H2 H3 H4 H5
      go_enter Tryz.func26, Tryz.ntmps26
      go_wp2_with fail
      refine hG.out.mono ?_
      rintro e w1 ⟨rfl, rfl⟩
      go_wp2
      go_ret3
      rw [hr.out]
      exact ⟨rfl, rfl⟩
    have hr : Hid (res = (cut l (ka + 4) (kn - 4), (ka : Int) + (kn : Int), 0)) := Lib.hid (H5.out rfl h1 h2 h3)
    have hd3 : decide (((mk l).size : Int) - (ka : Int) < (kn : Int)) = false := by rw [hsz]; simpa using h3
    have hb1 : (ka : Int) ≤ ((mk l).size : Int) := by omega
    have hb2 : (mk l).size ≤ 1000000 := by omega
    have hb3 : ka + kn ≤ (mk l).size := by omega
    have e3 : ((ka : Int) + (kn : Int)).toNat = ka + kn := by omega
    have e4 : ((ka : Int) + 4).toNat = ka + 4 := by omega
    have e6 := HM.out (ka + 4) (kn - 4)
    rw [show ka + 4 + (kn - 4) = ka + kn by omega] at e6
    have hk7 : 7 ≤ kn := by omega
    replace hsz := Lib.hid hsz
    clear H2 H3 H4 H5
    go_enter Tryz.func26, Tryz.ntmps26
    go_wp2_with fail
    refine hG.out.mono ?_
    rintro e w1 ⟨rfl, rfl⟩
    go_wp2
    go_ret3
    rw [hr.out]
    refine ⟨?_, rfl⟩
    show _ = Ending.returned (.tuple #[.string (mk (cut l (ka + 4) (kn - 4))), .int .i64 ((ka : Int) + (kn : Int)), .int .i64 0])
    rw [← e6]
    rfl
end Go.Proofs.YtlfdmbfbfadifaaGreatDoor
