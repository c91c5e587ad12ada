/-
  The reference's list: data, a description.
  The reference's list: names, qids.
-/
import Derived.Test.YtlfdmbfbfadifaaGreatDoorYx
namespace Go.Proofs.YtlfdmbfbfadifaaGreatDoor
open Go.RowKit

/-- What is collected, the message, and the cell for the result. -/
def LSt (w : World) (s : List UInt8) (m : MM) (W : World) : Prop :=
  Below w.heap.size w W ∧ W.heap[w.heap.size]? = some (.cells #[.string (mk s), .int .i64 0] 56 (0, 0)) ∧ BlkM W (w.heap.size + 1) m ∧ W.heap[w.heap.size + 1 + 1]? = some (.cells #[.string ⟨#[]⟩, .int .i64 0] 56 (0, 0))
theorem LSt.new (w : World) (s : List UInt8) (m : MM) : LSt w s m (((w.alloc (.cells #[.string (mk s), .int .i64 0] 56)).alloc (.cells (cellsB m) 30)).alloc (.cells #[.string ⟨#[]⟩, .int .i64 0] 56)) := by
  obtain ⟨W0, rfl, hz, hB0, hO, hM, hR⟩ := three_out w #[.string (mk s), .int .i64 0] (cellsB m) #[.string ⟨#[]⟩, .int .i64 0] 56 30 56
  exact ⟨hB0, hO, hM, hR⟩
theorem LSt.go {w W W' : World} {s : List UInt8} {m : MM} (h : LSt w s m W) (hB : Below W.heap.size W W') : LSt w s m W' :=
  ⟨h.1.trans (hB.mono h.1.size), (hB.block _ (Array.getElem?_eq_some_iff.1 h.2.1).1).trans h.2.1, h.2.2.1.below hB h.2.2.1.lt, (hB.block _ (Array.getElem?_eq_some_iff.1 h.2.2.2).1).trans h.2.2.2⟩
theorem LSt.drew {w W : World} {s : List UInt8} {m : MM} (h : LSt w s m W) : LSt w s m W.drew := ⟨below_drew h.1, h.2.1, h.2.2.1, h.2.2.2⟩
theorem LSt.set {w W : World} {s : List UInt8} {m : MM} (h : LSt w s m W) (t : List UInt8) : LSt w t m ((W.setCell ⟨w.heap.size, 0, none⟩ (.string (mk t))).setCell ⟨w.heap.size, 1, none⟩ (.int .i64 0)) :=
  ⟨(h.1.setCell (p := ⟨w.heap.size, 0, none⟩) (Nat.le_refl _) _).setCell (p := ⟨w.heap.size, 1, none⟩) (Nat.le_refl _) _, set2 h.2.1, setO (by omega) (setO (by omega) h.2.2.1), setO (by omega) (setO (by omega) h.2.2.2)⟩
theorem LSt.set0 {w W : World} {s : List UInt8} {m : MM} (h : LSt w s m W) (t : List UInt8) : LSt w t m (W.setCell ⟨w.heap.size, 0, none⟩ (.string (mk t))) :=
  ⟨h.1.setCell (p := ⟨w.heap.size, 0, none⟩) (Nat.le_refl _) _, by simp [World.setCell, Array.getElem?_modify, h.2.1], setO (by omega) h.2.2.1, setO (by omega) h.2.2.2⟩
theorem LSt.o {w W : World} {s : List UInt8} {m : MM} (h : LSt w s m W) : W.cell? ⟨w.heap.size, 0, none⟩ = some (.string (mk s)) ∧ W.cell? ⟨w.heap.size, 1, none⟩ = some (.int .i64 0) ∧ W.frozen? ⟨w.heap.size, 0, none⟩ = false ∧ W.frozen? ⟨w.heap.size, 1, none⟩ = false :=
  ⟨Lib.cell_of_heap h.2.1 0, Lib.cell_of_heap h.2.1 1, Lib.frozen_of_heap h.2.1 0, Lib.frozen_of_heap h.2.1 1⟩
theorem LSt.r {w W : World} {s : List UInt8} {m : MM} (h : LSt w s m W) : W.cell? ⟨w.heap.size + 1 + 1, 0, none⟩ = some (.string ⟨#[]⟩) ∧ W.cell? ⟨w.heap.size + 1 + 1, 1, none⟩ = some (.int .i64 0) ∧ W.frozen? ⟨w.heap.size + 1 + 1, 0, none⟩ = false ∧ W.frozen? ⟨w.heap.size + 1 + 1, 1, none⟩ = false :=
  ⟨Lib.cell_of_heap h.2.2.2 0, Lib.cell_of_heap h.2.2.2 1, Lib.frozen_of_heap h.2.2.2 0, Lib.frozen_of_heap h.2.2.2 1⟩
theorem LSt.ret {w W : World} {s : List UInt8} {m : MM} (h : LSt w s m W) (t : List UInt8) : Below w.heap.size w ((W.setCell ⟨w.heap.size + 1 + 1, 0, none⟩ (.string (mk t))).setCell ⟨w.heap.size + 1 + 1, 1, none⟩ (.int .i64 0)) :=
  (h.1.setCell (p := ⟨w.heap.size + 1 + 1, 0, none⟩) (by show _ ≤ _ + 1 + 1; omega) _).setCell (p := ⟨w.heap.size + 1 + 1, 1, none⟩) (by show _ ≤ _ + 1 + 1; omega) _

set_option maxHeartbeats 4000000 in
set_option maxRecDepth 100000 in
theorem Rl_17 (s : List UInt8) (m : MM) (w : World) (hf : (mk m.da).size ≤ 8168) (hs : (mk s).size ≤ 700000) :
    Calls Tryz.prog 49 #[outV s, msgV m, .int .i64 20] w fun e w' => e = .returned (outV (s ++ encF m 17)) ∧ Below w.heap.size w w' := by
  have L := Lib.hid (fun W => RnumI s ((mk m.da).size : Int) 4 4 W rfl (by omega) ⟨by omega, by omega⟩ ⟨by omega, by omega⟩ (by omega))
  have HE : Hid (mk (s ++ le 4 ((mk m.da).size : Int).toNat) ++ mk m.da = mk (s ++ encF m 17)) := by
    show _ = mk (s ++ (le 4 m.da.length ++ m.da))
    rw [Int.toNat_natCast, mk_len, mk_app, List.append_assoc]
  have hz1 : (mk (s ++ le 4 ((mk m.da).size : Int).toNat)).size ≤ 800000 := by have := mk_len s; rw [mk_len, List.length_append, le_len]; omega
  have H0 := Lib.hid (LSt.new w s m)
  have HM : Hid (∀ t W, LSt w t m W → W.cell? ⟨w.heap.size + 1, 21, none⟩ = some (.string (mk m.da))) := fun t W h => h.2.2.1.cell 21
  have x : (cellsB m)[21]? = some (.string (mk m.da)) := rfl
  generalize s ++ le 4 ((mk m.da).size : Int).toNat = s1 at *
  generalize s ++ encF m 17 = s2 at *
  generalize hda : mk m.da = da at *
  clear hda hs
  unfold outV msgV at *
  generalize hca : cellsB m = ca at *
  have HC := Lib.hid hca
  clear hca
  go_enter Tryz.func49, Tryz.ntmps49
  go_wp2_with fail
  refine (L.out _).mono ?_
  rintro e W1 ⟨rfl, hB⟩
  have H1 := Lib.hid (H0.out.go hB)
  have H2 := Lib.hid (H1.out.set s1)
  obtain ⟨o0, o1, o2, o3⟩ := H1.out.o
  obtain ⟨r0, r1, r2, r3⟩ := H1.out.r
  have mc := HM.out _ _ H1.out
  clear hB x
  go_wp2
  rw [HE.out]
  have H3 := H2.out.set0 s2
  exact bodyPost_ret (results_cell_row rfl _ _ (w.heap.size + 1 + 1) 56 #[.string (mk s2), .int .i64 0] (0, 0) _ rfl (set2 H3.2.2.2) Tryz.underlying56 rfl (by kernel_rfl)) rfl ⟨rfl, H3.ret s2⟩

set_option maxHeartbeats 4000000 in
set_option maxRecDepth 100000 in
theorem Rl_18 (s : List UInt8) (m : MM) (w : World) (hd : inD m.st) (hbd : bigD m.st) (hok : checkR m.st = 0) (hs : (mk s).size ≤ 700000) :
    Calls Tryz.prog 49 #[outV s, msgV m, .int .i64 21] w fun e w' => e = .returned (outV (s ++ encF m 18)) ∧ Below w.heap.size w w' := by
  obtain ⟨hl1, hl2⟩ := putS_len hok
  have hz := mk_len (putS m.st).1
  have hS0 := fun W => qsPut m.st hd hbd W
  rw [hl2] at hS0
  have HS := Lib.hid hS0
  have L := Lib.hid (fun W => RnumI s ((mk (putS m.st).1).size : Int) 2 2 W rfl (by omega) ⟨by omega, by omega⟩ ⟨by omega, by omega⟩ (by omega))
  have HE : Hid (mk (s ++ le 2 ((mk (putS m.st).1).size : Int).toNat) ++ mk (putS m.st).1 = mk (s ++ encF m 18)) := by
    show _ = mk (s ++ (le 2 (putS m.st).1.length ++ (putS m.st).1))
    rw [Int.toNat_natCast, mk_len, mk_app, List.append_assoc]
  have hz1 : (mk (s ++ le 2 ((mk (putS m.st).1).size : Int).toNat)).size ≤ 800000 := by have := mk_len s; rw [mk_len, List.length_append, le_len]; omega
  have hz2 : (mk (putS m.st).1).size ≤ 313 := by omega
  have H0 := Lib.hid (LSt.new w s m)
  have HMs : Hid (∀ t W, LSt w t m W → W.rangeAt (w.heap.size + 1) 22 (cellsD m.st)) := fun t W h => h.2.2.1.stat
  have HI : Hid ((Tryz.prog.info? 27).map (·.size) = some (cellsD m.st).length) := by show _ = some 13; kernel_rfl
  clear hS0 hok hd hbd hl1 hl2 hz hs
  generalize s ++ le 2 ((mk (putS m.st).1).size : Int).toNat = s1 at *
  generalize s ++ encF m 18 = s2 at *
  generalize hda : mk (putS m.st).1 = da at *
  clear hda
  unfold dirV cellsA at HS
  generalize cellsD m.st = cd at *
  unfold outV msgV at *
  generalize hca : cellsB m = ca at *
  have HC := Lib.hid hca
  clear hca
  go_enter Tryz.func49, Tryz.ntmps49
  go_wp2_with (refine wpList_load_mid rfl 27 _ rfl (w.heap.size + 1) 22 rfl cd _ (HMs.out _ _ H0.out) Tryz.underlying27 rfl HI.out ?_)
  refine (HS.out _).mono ?_
  rintro e W1 ⟨rfl, hB⟩
  have H1 := Lib.hid (H0.out.go hB)
  obtain ⟨o0, o1, o2, o3⟩ := H1.out.o
  clear hB
  go_wp2_with fail
  refine (L.out _).mono ?_
  rintro e W2 ⟨rfl, hB⟩
  have H2 := Lib.hid (H1.out.go hB)
  have H3 := Lib.hid (H2.out.set s1)
  clear hB o0 o1 o2 o3
  obtain ⟨o0, o1, o2, o3⟩ := H2.out.o
  obtain ⟨r0, r1, r2, r3⟩ := H2.out.r
  go_wp2
  rw [HE.out]
  have H4 := H3.out.set0 s2
  exact bodyPost_ret (results_cell_row rfl _ _ (w.heap.size + 1 + 1) 56 #[.string (mk s2), .int .i64 0] (0, 0) _ rfl (set2 H4.2.2.2) Tryz.underlying56 rfl (by kernel_rfl)) rfl ⟨rfl, H4.ret s2⟩
end Go.Proofs.YtlfdmbfbfadifaaGreatDoor

namespace Go.Proofs.YtlfdmbfbfadifaaGreatDoor
open Go.RowKit

set_option maxHeartbeats 4000000 in
set_option maxRecDepth 100000 in
theorem Rl_8 (s : List UInt8) (m : MM) (w : World) (hr : RowM w m) (hf : m.nl.length ≤ 16 ∧ ∀ l ∈ m.nl, l.length ≤ 64) (hs : (mk s).size ≤ 700000) :
    Calls Tryz.prog 49 #[outV s, msgV m, .int .i64 12] w fun e w' => e = .returned (outV (s ++ encF m 8)) ∧ Below w.heap.size w w' := by
  obtain ⟨p, cap, hv, hcap, hcm, -⟩ := id hr.1
  have hsl := mk_len s
  have L := Lib.hid (fun W => RnumI s (m.nl.length : Int) 2 2 W rfl (by omega) ⟨by omega, by omega⟩ ⟨by omega, by omega⟩ (by omega))
  have HT := Lib.hid (fun j (hj : j < m.nl.length) W => Rtext (s ++ namesTo m.nl j) m.nl[j] W (by have := hf.2 _ (List.getElem_mem hj); omega) (by have := namesTo_le hf j; rw [mk_len, List.length_append]; omega))
  have HS := Lib.hid (fun j (hj : j < m.nl.length) => (by rw [List.append_assoc, namesTo_succ hj] : s ++ namesTo m.nl j ++ counted m.nl[j] = s ++ namesTo m.nl (j + 1)))
  have HZ : Hid (s ++ le 2 (m.nl.length : Int).toNat = s ++ namesTo m.nl 0) := by rw [namesTo_zero, Int.toNat_natCast]; exact rfl
  have HX : Hid (s ++ namesTo m.nl m.nl.length = s ++ encF m 8) := by rw [namesTo_all]; exact rfl
  have H0 := Lib.hid (LSt.new w s m)
  have HM : Hid (∀ t W, LSt w t m W → W.cell? ⟨w.heap.size + 1, 10, none⟩ = some (.slice p m.nl.length cap)) := fun t W h => (h.2.2.1.cell 10).trans (congrArg some hv)
  have x : (cellsB m)[10]? = some (.slice p m.nl.length cap) := by have : (cellsB m)[10]? = some m.nv := rfl; rw [this, hv]
  have HR := hr.1
  rw [hv] at HR
  replace HR := Lib.hid HR
  have hl0 : (m.nl.length : Int) ≤ (cap : Int) := by omega
  unfold maxLen at hcm
  clear hr hf hs hsl hv
  unfold outV msgV at *
  generalize hca : cellsB m = ca at *
  have HC := Lib.hid hca
  clear hca
  go_enter Tryz.func49, Tryz.ntmps49
  go_wp2_with fail
  refine (L.out _).mono ?_
  rintro e W1 ⟨rfl, hB⟩
  have H1 := Lib.hid (H0.out.go hB)
  have h2 := H1.out.set (s ++ le 2 (m.nl.length : Int).toNat)
  obtain ⟨o0, o1, o2, o3⟩ := H1.out.o
  rw [HZ.out] at h2 ⊢
  have H2 := Lib.hid h2
  clear hB x h2
  go_wp2
  go_loopw [7] (fun vj wr => ∃ j : Nat, vj = .int .i64 (j : Int) ∧ j ≤ m.nl.length ∧ Hid (LSt w (s ++ namesTo m.nl j) m wr)) (fun vj _ => m.nl.length - (intOf vj).toNat)
  case atStart => exact ⟨0, rfl, by omega, H2⟩
  case round =>
    obtain ⟨j, rfl, hj, hw1⟩ := hrel
    have mc := HM.out _ _ hw1.out
    clear o0 o1 o2 o3
    obtain ⟨o0, o1, o2, o3⟩ := hw1.out.o
    by_cases hlt : j < m.nl.length
    · obtain ⟨b, o', cap', hv, hbb, hcl, x0⟩ := HR.out.at_ hw1.out.1 hlt
      obtain ⟨rfl, rfl⟩ : p = some ⟨b, o', none⟩ ∧ cap = cap' := by injection hv with a1 a2 a3; exact ⟨a1, a3⟩
      clear hv hbb
      have HTj := Lib.hid (HT.out j hlt)
      have HSj := Lib.hid (HS.out j hlt)
      have k0 : (0 : Int) ≤ (j : Int) := by omega
      have k1 : (j : Int) < (m.nl.length : Int) := by omega
      generalize m.nl[j] = sj at *
      go_wp2
      go_still_tail 6, (by kernel_rfl)
      change wpList _ _ _ _ _ wr.drew
      have hwd := Lib.hid hw1.out.drew
      clear o0 o1 o2 o3 mc x0
      generalize wr.drew = wd at *
      go_wp2_with fail
      refine (HTj.out _).mono ?_
      rintro e W3 ⟨rfl, hB⟩
      have H3 := hwd.out.go hB
      have H4 := H3.set (s ++ namesTo m.nl j ++ counted sj)
      obtain ⟨o0, o1, o2, o3⟩ := H3.o
      rw [HSj.out] at H4 ⊢
      replace H4 := Lib.hid H4
      clear hB H3
      go_wp2
      exact ⟨⟨j + 1, by go_num, by omega, H4⟩, by simp [intOf]; omega⟩
    · obtain rfl : j = m.nl.length := by omega
      obtain ⟨r0, r1, r2, r3⟩ := hw1.out.r
      have H5 := hw1
      rw [HX.out] at H5 o0
      clear hw1
      go_wp2
      exact bodyPost_ret (results_cell_row rfl _ _ (w.heap.size + 1 + 1) 56 #[.string (mk (s ++ encF m 8)), .int .i64 0] (0, 0) _ rfl (set2 H5.out.2.2.2) Tryz.underlying56 rfl (by kernel_rfl)) rfl ⟨rfl, H5.out.ret _⟩

set_option maxHeartbeats 4000000 in
set_option maxRecDepth 100000 in
theorem Rl_9 (s : List UInt8) (m : MM) (w : World) (hr : RowM w m) (hf : m.ql.length ≤ 16 ∧ ∀ q ∈ m.ql, qidB q = true) (hs : (mk s).size ≤ 700000) :
    Calls Tryz.prog 49 #[outV s, msgV m, .int .i64 13] w fun e w' => e = .returned (outV (s ++ encF m 9)) ∧ Below w.heap.size w w' := by
  obtain ⟨p, cap, hv, hcap, hcm, -⟩ := id hr.2
  have hsl := mk_len s
  have L := Lib.hid (fun W => RnumI s (m.ql.length : Int) 2 2 W rfl (by omega) ⟨by omega, by omega⟩ ⟨by omega, by omega⟩ (by omega))
  have HT := Lib.hid (fun j (hj : j < m.ql.length) W => Rqid (s ++ qidsTo m.ql j) (atQ m.ql j) W (hf.2 _ (atQ_mem hj)) (by have := qidsTo_le hf.1 j; rw [mk_len, List.length_append]; omega))
  have HS := Lib.hid (fun j (hj : j < m.ql.length) => (by rw [List.append_assoc, qidsTo_succ hj] : s ++ qidsTo m.ql j ++ encQ (atQ m.ql j) = s ++ qidsTo m.ql (j + 1)))
  have HZ : Hid (s ++ le 2 (m.ql.length : Int).toNat = s ++ qidsTo m.ql 0) := by rw [qidsTo_zero, Int.toNat_natCast]; exact rfl
  have HX : Hid (s ++ qidsTo m.ql m.ql.length = s ++ encF m 9) := by rw [qidsTo_all]; exact rfl
  have H0 := Lib.hid (LSt.new w s m)
  have HM : Hid (∀ t W, LSt w t m W → W.cell? ⟨w.heap.size + 1, 11, none⟩ = some (.slice p m.ql.length cap)) := fun t W h => (h.2.2.1.cell 11).trans (congrArg some hv)
  have x : (cellsB m)[11]? = some (.slice p m.ql.length cap) := by have : (cellsB m)[11]? = some m.qv := rfl; rw [this, hv]
  have HR := hr.2
  rw [hv] at HR
  replace HR := Lib.hid HR
  have hl0 : (m.ql.length : Int) ≤ (cap : Int) := by omega
  unfold maxLen at hcm
  clear hr hf hs hsl hv
  unfold outV msgV at *
  generalize hca : cellsB m = ca at *
  have HC := Lib.hid hca
  clear hca
  go_enter Tryz.func49, Tryz.ntmps49
  go_wp2_with fail
  refine (L.out _).mono ?_
  rintro e W1 ⟨rfl, hB⟩
  have H1 := Lib.hid (H0.out.go hB)
  have h2 := H1.out.set (s ++ le 2 (m.ql.length : Int).toNat)
  obtain ⟨o0, o1, o2, o3⟩ := H1.out.o
  rw [HZ.out] at h2 ⊢
  have H2 := Lib.hid h2
  clear hB x h2
  go_wp2
  go_loopw [8] (fun vj wr => ∃ j : Nat, vj = .int .i64 (j : Int) ∧ j ≤ m.ql.length ∧ Hid (LSt w (s ++ qidsTo m.ql j) m wr)) (fun vj _ => m.ql.length - (intOf vj).toNat)
  case atStart => exact ⟨0, rfl, by omega, H2⟩
  case round =>
    obtain ⟨j, rfl, hj, hw1⟩ := hrel
    have mc := HM.out _ _ hw1.out
    clear o0 o1 o2 o3
    obtain ⟨o0, o1, o2, o3⟩ := hw1.out.o
    by_cases hlt : j < m.ql.length
    · obtain ⟨b, o', cap', q, hqe, hv, hbb, hcl, x0, x1, x2⟩ := HR.out.at_ hw1.out.1 hlt
      obtain ⟨rfl, rfl⟩ : p = some ⟨b, o', none⟩ ∧ cap = cap' := by injection hv with a1 a2 a3; exact ⟨a1, a3⟩
      clear hv hbb
      have HTj := HT.out j hlt
      have HSj := HS.out j hlt
      rw [hqe] at HTj HSj
      replace HTj := Lib.hid HTj
      replace HSj := Lib.hid HSj
      clear hqe
      have k0 : (0 : Int) ≤ (j : Int) := by omega
      have k1 : (j : Int) < (m.ql.length : Int) := by omega
      go_wp2
      go_still_tail 6, (by kernel_rfl)
      change wpList _ _ _ _ _ wr.drew
      have hwd := Lib.hid hw1.out.drew
      clear o0 o1 o2 o3 mc x0 x1 x2
      generalize wr.drew = wd at *
      go_wp2_with fail
      refine (HTj.out _).mono ?_
      rintro e W3 ⟨rfl, hB⟩
      have H3 := hwd.out.go hB
      have H4 := H3.set (s ++ qidsTo m.ql j ++ encQ q)
      obtain ⟨o0, o1, o2, o3⟩ := H3.o
      rw [HSj.out] at H4 ⊢
      replace H4 := Lib.hid H4
      clear hB H3
      go_wp2
      exact ⟨⟨j + 1, by go_num, by omega, H4⟩, by simp [intOf]; omega⟩
    · obtain rfl : j = m.ql.length := by omega
      obtain ⟨r0, r1, r2, r3⟩ := hw1.out.r
      have H5 := hw1
      rw [HX.out] at H5 o0
      clear hw1
      go_wp2
      exact bodyPost_ret (results_cell_row rfl _ _ (w.heap.size + 1 + 1) 56 #[.string (mk (s ++ encF m 9)), .int .i64 0] (0, 0) _ rfl (set2 H5.out.2.2.2) Tryz.underlying56 rfl (by kernel_rfl)) rfl ⟨rfl, H5.out.ret _⟩
end Go.Proofs.YtlfdmbfbfadifaaGreatDoor
