/-
  The reference's Same: two messages of the same content.
-/
import Derived.Test.YtlfdmbfbfadifaaGreatDoorZq
import Derived.Test.YtlfdmbfbfadifaaGreatDoorWk
import Derived.Deep.MidRow
import Derived.Deep.CutRange
namespace Go.Proofs.YtlfdmbfbfadifaaGreatDoor
open Go.RowKit

/-- A whole struct out of the middle of a block, where the operation has a guard that says yes. -/
theorem wpList_gload_mid {P : Program} {ops : Array Oper} {rest : List Oper} {op : Oper} {a : Act} {w : World} {Q : Exit → Act → World → Prop} (hw : Region.wanted op (yielded ops a.tmps) = true) (ty : TypeId) (x : Operand) (ho : op.op = .load ty x)
    (b o : Nat) (hx : a.eval x = .pointer (some ⟨b, o, none⟩)) (cs : List Value) (d : TypeDesc) (hc : w.rangeAt b o cs) (hu : P.underlying ty = some d) (hd : d.isRow = true) (hi : (P.info? ty).map (·.size) = some cs.length)
    (h : wpList P ops Q rest (a.put op.dst (.agg cs.toArray)) w) : wpList P ops Q (op :: rest) a w :=
  wpList_step fun K hK => by
    rw [if_pos hw]
    exact wp_load_mid ty x ho b o hx cs d hc hu hd hi (hK _ _ h)
theorem BlkM.qid {w : World} {b : Nat} {m : MM} (h : BlkM w b m) : w.rangeAt b 12 [.int .i64 m.qd.t, .int .i64 m.qd.v, .int .i64 m.qd.p] := fun j v hv => by
  rw [h.cell (12 + j), ← hv]
  have hj : j < 3 := (List.getElem?_eq_some_iff.1 hv).1
  have hc : j = 0 ∨ j = 1 ∨ j = 2 := by omega
  rcases hc with rfl | rfl | rfl <;> rfl
theorem two_msgs (w : World) (q r : MM) : ∃ W, (w.alloc (.cells (cellsB q) 30)).alloc (.cells (cellsB r) 30) = W ∧ Below w.heap.size w W ∧ BlkM W w.heap.size q ∧ BlkM W (w.heap.size + 1) r := by
  have h1 : Below w.heap.size w (w.alloc (.cells (cellsB q) 30)) := (Below.refl _ w).alloc (Nat.le_refl _) _
  refine ⟨_, rfl, h1.alloc h1.size _, (BlkM.new w q).alloc _, ?_⟩
  have h := BlkM.new (w.alloc (.cells (cellsB q) 30)) r
  rwa [show (w.alloc (.cells (cellsB q) 30)).heap.size = w.heap.size + 1 by simp] at h
def StM (w : World) (a b : MM) (W : World) : Prop := Below w.heap.size w W ∧ BlkM W w.heap.size a ∧ BlkM W (w.heap.size + 1) b
theorem StM.drewN {w W : World} {a b : MM} (h : StM w a b W) (n : Nat) : StM w a b (W.drewN n) := ⟨below_drewN h.1 n, h.2.1, h.2.2⟩

set_option maxRecDepth 100000 in
set_option maxHeartbeats 12800000 in
theorem RSame_eq (m : MM) (n1 q1 n2 q2 : Value) (w : World) (ha : RowM w (withV m n1 q1)) (hb : RowM w (withV m n2 q2)) :
    Calls Tryz.prog 14 #[msgV (withV m n1 q1), msgV (withV m n2 q2)] w fun e w' => e = .returned (.bool true) ∧ Below w.heap.size w w' := by
  obtain ⟨W, hW, hB, hKa, hKb⟩ := two_msgs w (withV m n1 q1) (withV m n2 q2)
  subst hW
  have hSt : Hid (StM w (withV m n1 q1) (withV m n2 q2) ((w.alloc (.cells (cellsB (withV m n1 q1)) 30)).alloc (.cells (cellsB (withV m n2 q2)) 30))) := ⟨hB, hKa, hKb⟩
  clear hB hKa hKb
  have h1 : SRow w n1 m.nl := ha.1
  have h2 : SRow w n2 m.nl := hb.1
  have h3 : QRow w q1 m.ql := ha.2
  have h4 : QRow w q2 m.ql := hb.2
  have H1 := Lib.hid h1
  have H2 := Lib.hid h2
  have H3 := Lib.hid h3
  have H4 := Lib.hid h4
  obtain ⟨pa, ca, rfl, la, ma, -⟩ := h1
  obtain ⟨pb, cb, rfl, lb, mb, -⟩ := h2
  obtain ⟨qa, da, rfl, ka, na, -⟩ := h3
  obtain ⟨qb, db, rfl, kb, nb, -⟩ := h4
  unfold maxLen at ma mb na nb
  clear ha hb
  have xa10 : (cellsB (withV m (.slice pa m.nl.length ca) (.slice qa m.ql.length da)))[10]? = some (.slice pa m.nl.length ca) := rfl
  have xa11 : (cellsB (withV m (.slice pa m.nl.length ca) (.slice qa m.ql.length da)))[11]? = some (.slice qa m.ql.length da) := rfl
  have xb10 : (cellsB (withV m (.slice pb m.nl.length cb) (.slice qb m.ql.length db)))[10]? = some (.slice pb m.nl.length cb) := rfl
  have xb11 : (cellsB (withV m (.slice pb m.nl.length cb) (.slice qb m.ql.length db)))[11]? = some (.slice qb m.ql.length db) := rfl
  obtain ⟨aa, haa⟩ : ∃ aa, withV m (.slice pa m.nl.length ca) (.slice qa m.ql.length da) = aa := ⟨_, rfl⟩
  obtain ⟨bb, hbb⟩ : ∃ bb, withV m (.slice pb m.nl.length cb) (.slice qb m.ql.length db) = bb := ⟨_, rfl⟩
  have hca : Hid (∀ W, StM w aa bb W → (W.cell? ⟨w.heap.size, 10, none⟩ = some (.slice pa m.nl.length ca) ∧ W.cell? ⟨w.heap.size, 11, none⟩ = some (.slice qa m.ql.length da)) ∧ W.cell? ⟨w.heap.size + 1, 10, none⟩ = some (.slice pb m.nl.length cb) ∧ W.cell? ⟨w.heap.size + 1, 11, none⟩ = some (.slice qb m.ql.length db)) := by
    subst haa hbb
    exact fun W h => ⟨⟨h.2.1.cell 10, h.2.1.cell 11⟩, h.2.2.cell 10, h.2.2.cell 11⟩
  have HXA : Hid (∀ W, StM w aa bb W → W.cell? ⟨w.heap.size, 0, none⟩ = some (.int .i64 m.kd) ∧ W.cell? ⟨w.heap.size + 1, 0, none⟩ = some (.int .i64 m.kd) ∧ W.cell? ⟨w.heap.size, 1, none⟩ = some (.int .i64 m.tg) ∧ W.cell? ⟨w.heap.size + 1, 1, none⟩ = some (.int .i64 m.tg) ∧ W.cell? ⟨w.heap.size, 2, none⟩ = some (.int .i64 m.fi) ∧ W.cell? ⟨w.heap.size + 1, 2, none⟩ = some (.int .i64 m.fi) ∧ W.cell? ⟨w.heap.size, 3, none⟩ = some (.int .i64 m.nf) ∧ W.cell? ⟨w.heap.size + 1, 3, none⟩ = some (.int .i64 m.nf) ∧ W.cell? ⟨w.heap.size, 4, none⟩ = some (.int .i64 m.af) ∧ W.cell? ⟨w.heap.size + 1, 4, none⟩ = some (.int .i64 m.af) ∧ W.cell? ⟨w.heap.size, 5, none⟩ = some (.int .i64 m.ot) ∧ W.cell? ⟨w.heap.size + 1, 5, none⟩ = some (.int .i64 m.ot) ∧ W.cell? ⟨w.heap.size, 6, none⟩ = some (.int .i64 m.ms) ∧ W.cell? ⟨w.heap.size + 1, 6, none⟩ = some (.int .i64 m.ms) ∧ W.cell? ⟨w.heap.size, 7, none⟩ = some (.string (mk m.ve)) ∧ W.cell? ⟨w.heap.size + 1, 7, none⟩ = some (.string (mk m.ve)) ∧ W.cell? ⟨w.heap.size, 8, none⟩ = some (.string (mk m.us)) ∧ W.cell? ⟨w.heap.size + 1, 8, none⟩ = some (.string (mk m.us)) ∧ W.cell? ⟨w.heap.size, 9, none⟩ = some (.string (mk m.ac)) ∧ W.cell? ⟨w.heap.size + 1, 9, none⟩ = some (.string (mk m.ac)) ∧ W.rangeAt (w.heap.size) 12 [.int .i64 m.qd.t, .int .i64 m.qd.v, .int .i64 m.qd.p] ∧ W.rangeAt (w.heap.size + 1) 12 [.int .i64 m.qd.t, .int .i64 m.qd.v, .int .i64 m.qd.p] ∧ W.cell? ⟨w.heap.size, 15, none⟩ = some (.int .i64 m.io) ∧ W.cell? ⟨w.heap.size + 1, 15, none⟩ = some (.int .i64 m.io) ∧ W.cell? ⟨w.heap.size, 16, none⟩ = some (.int .i64 m.mo) ∧ W.cell? ⟨w.heap.size + 1, 16, none⟩ = some (.int .i64 m.mo) ∧ W.cell? ⟨w.heap.size, 17, none⟩ = some (.int .i64 m.pe) ∧ W.cell? ⟨w.heap.size + 1, 17, none⟩ = some (.int .i64 m.pe) ∧ W.cell? ⟨w.heap.size, 18, none⟩ = some (.string (mk m.na)) ∧ W.cell? ⟨w.heap.size + 1, 18, none⟩ = some (.string (mk m.na)) ∧ W.cell? ⟨w.heap.size, 19, none⟩ = some (.int .i64 m.os) ∧ W.cell? ⟨w.heap.size + 1, 19, none⟩ = some (.int .i64 m.os) ∧ W.cell? ⟨w.heap.size, 20, none⟩ = some (.int .i64 m.co) ∧ W.cell? ⟨w.heap.size + 1, 20, none⟩ = some (.int .i64 m.co) ∧ W.cell? ⟨w.heap.size, 21, none⟩ = some (.string (mk m.da)) ∧ W.cell? ⟨w.heap.size + 1, 21, none⟩ = some (.string (mk m.da)) ∧ W.rangeAt (w.heap.size) 22 (cellsD m.st) ∧ W.rangeAt (w.heap.size + 1) 22 (cellsD m.st) ∧ W.cell? ⟨w.heap.size, 35, none⟩ = some (.int .i64 m.er) ∧ W.cell? ⟨w.heap.size + 1, 35, none⟩ = some (.int .i64 m.er) ∧ W.cell? ⟨w.heap.size, 36, none⟩ = some (.int .i64 m.lz) ∧ W.cell? ⟨w.heap.size + 1, 36, none⟩ = some (.int .i64 m.lz) ∧ W.cell? ⟨w.heap.size, 37, none⟩ = some (.int .i64 m.te) ∧ W.cell? ⟨w.heap.size + 1, 37, none⟩ = some (.int .i64 m.te) ∧ W.cell? ⟨w.heap.size, 38, none⟩ = some (.string (mk m.se)) ∧ W.cell? ⟨w.heap.size + 1, 38, none⟩ = some (.string (mk m.se))) := by
    subst haa hbb
    exact fun W h => ⟨h.2.1.cell 0, h.2.2.cell 0, h.2.1.cell 1, h.2.2.cell 1, h.2.1.cell 2, h.2.2.cell 2, h.2.1.cell 3, h.2.2.cell 3, h.2.1.cell 4, h.2.2.cell 4, h.2.1.cell 5, h.2.2.cell 5, h.2.1.cell 6, h.2.2.cell 6, h.2.1.cell 7, h.2.2.cell 7, h.2.1.cell 8, h.2.2.cell 8, h.2.1.cell 9, h.2.2.cell 9, h.2.1.qid, h.2.2.qid, h.2.1.cell 15, h.2.2.cell 15, h.2.1.cell 16, h.2.2.cell 16, h.2.1.cell 17, h.2.2.cell 17, h.2.1.cell 18, h.2.2.cell 18, h.2.1.cell 19, h.2.2.cell 19, h.2.1.cell 20, h.2.2.cell 20, h.2.1.cell 21, h.2.2.cell 21, h.2.1.stat, h.2.2.stat, h.2.1.cell 35, h.2.2.cell 35, h.2.1.cell 36, h.2.2.cell 36, h.2.1.cell 37, h.2.2.cell 37, h.2.1.cell 38, h.2.2.cell 38⟩
  rw [haa] at hSt xa10 xa11 ⊢
  rw [hbb] at hSt xb10 xb11 ⊢
  replace haa := Lib.hid haa
  replace hbb := Lib.hid hbb
  unfold msgV
  have hln : ((m.nl.length : Int) != (m.nl.length : Int)) = false := by simp
  have hmn : ((m.ql.length : Int) != (m.ql.length : Int)) = false := by simp
  have hcb : Hid (cellsB aa = cellsB aa) := Lib.hid rfl
  go_enter Tryz.func14, Tryz.ntmps14
  go_wp2
  go_loopw [28] (fun vk wr => ∃ k : Nat, vk = .int .i64 (k : Int) ∧ k ≤ m.nl.length ∧ Hid (StM w aa bb wr)) (fun vk _ => m.nl.length - (intOf vk).toNat)
  case atStart => exact ⟨0, rfl, by omega, hSt.out⟩
  case round =>
    clear xa10 xa11 xb10 xb11
    obtain ⟨k, rfl, hk, hSr⟩ := hrel
    obtain ⟨⟨xa10, xa11⟩, xb10, xb11⟩ := hca.out _ hSr.out
    by_cases hlt : k < m.nl.length
    · obtain ⟨b0, o, cap, hv, hb0, hcl, x0⟩ := H1.out.at_ hSr.out.1 hlt
      obtain ⟨b', o', cap', hv', hb', hcl', y0⟩ := H2.out.at_ hSr.out.1 hlt
      obtain ⟨rfl, rfl⟩ : pa = some ⟨b0, o, none⟩ ∧ ca = cap := by injection hv with a1 a2 a3; exact ⟨a1, a3⟩
      obtain ⟨rfl, rfl⟩ : pb = some ⟨b', o', none⟩ ∧ cb = cap' := by injection hv' with a1 a2 a3; exact ⟨a1, a3⟩
      clear hv hv' hb0 hb' xa11 xb11
      have k0 : (0 : Int) ≤ (k : Int) := by omega
      have k1 : (k : Int) < (m.nl.length : Int) := by omega
      have hqq : ((mk m.nl[k]).toList == (mk m.nl[k]).toList) = true := by simp
      generalize mk m.nl[k] = s at *
      go_wp2
      go_quiet (fail)
      go_wp2
      exact ⟨⟨k + 1, by go_num, by omega, hSr.out.drewN _⟩, by simp [intOf]; omega⟩
    · obtain rfl : k = m.nl.length := by omega
      go_wp2
      go_loopw [46] (fun vk wr => ∃ k : Nat, vk = .int .i64 (k : Int) ∧ k ≤ m.ql.length ∧ Hid (StM w aa bb wr)) (fun vk _ => m.ql.length - (intOf vk).toNat)
      case atStart => exact ⟨0, rfl, by omega, hSr.out⟩
      case round =>
        clear xa10 xa11 xb10 xb11 hSr
        rename_i wr0 _ _
        obtain ⟨k, rfl, hk, hSr⟩ := hrel
        obtain ⟨⟨xa10, xa11⟩, xb10, xb11⟩ := hca.out _ hSr.out
        by_cases hlt : k < m.ql.length
        · obtain ⟨b0, o, cap, qx, ha1, hv, hb0, hcl, x0, x1, x2⟩ := H3.out.at_ hSr.out.1 hlt
          obtain ⟨b', o', cap', qy, hb1, hv', hb', hcl', y0, y1, y2⟩ := H4.out.at_ hSr.out.1 hlt
          obtain ⟨rfl, rfl⟩ : qa = some ⟨b0, o, none⟩ ∧ da = cap := by injection hv with a1 a2 a3; exact ⟨a1, a3⟩
          obtain ⟨rfl, rfl⟩ : qb = some ⟨b', o', none⟩ ∧ db = cap' := by injection hv' with a1 a2 a3; exact ⟨a1, a3⟩
          clear hv hv' hb0 hb' xa10 xb10
          obtain rfl : qx = qy := ha1.symm.trans hb1
          have k0 : (0 : Int) ≤ (k : Int) := by omega
          have k1 : (k : Int) < (m.ql.length : Int) := by omega
          have hE : ∀ W, (binOp .neq 25 (.agg #[.int .i64 qx.t, .int .i64 qx.v, .int .i64 qx.p]) (.agg #[.int .i64 qx.t, .int .i64 qx.v, .int .i64 qx.p])).run Tryz.prog W = .ok (.bool false) W := fun W => by
            have := neq_qid qx qx W
            rw [eqQ_self] at this
            exact this
          have hG : ∀ x y W, (eqGuard .neq 25 x y (.agg #[.int .i64 qx.t, .int .i64 qx.v, .int .i64 qx.p]) (.agg #[.int .i64 qx.t, .int .i64 qx.v, .int .i64 qx.p])).run Tryz.prog W = .ok () W := fun x y => guard_qid .neq x y qx qx
          clear ha1 hb1
          go_wp2
          go_quiet (fail)
          go_wp2
          exact ⟨⟨k + 1, by go_num, by omega, hSr.out.drewN _⟩, by simp [intOf]; omega⟩
        · obtain rfl : k = m.ql.length := by omega
          have HB := Lib.hid hSr.out.1
          have hA := HXA.out _ hSr.out
          clear H1 H2 H3 H4 xa10 xa11 xb10 xb11 hca hcb hSt HXA
          go_upto_region 15 with fail
          obtain ⟨xa0, xb0, xa1, xb1, xa2, xb2, xa3, xb3, xa4, xb4, xa5, xb5, xa6, xb6, xa7, xb7, xa8, xb8, xa9, xb9, xa12, xb12, xa15, xb15, xa16, xb16, xa17, xb17, xa18, xb18, xa19, xb19, xa20, xb20, xa21, xb21, xa22, xb22, xa35, xb35, xa36, xb36, xa37, xb37, xa38, xb38⟩ := hA
          have c12 := xa12 0 _ rfl
          have c13 := xa12 1 _ rfl
          have c14 := xa12 2 _ rfl
          have d12 := xb12 0 _ rfl
          have d13 := xb12 1 _ rfl
          have d14 := xb12 2 _ rfl
          have hE : ∀ W, (binOp .eql 25 (.agg #[.int .i64 m.qd.t, .int .i64 m.qd.v, .int .i64 m.qd.p]) (.agg #[.int .i64 m.qd.t, .int .i64 m.qd.v, .int .i64 m.qd.p])).run Tryz.prog W = .ok (.bool true) W := fun W => by
            have := eql_qid m.qd m.qd W
            rw [eqQ_self] at this
            exact this
          have hG : ∀ x y W, (eqGuard .eql 25 x y (.agg #[.int .i64 m.qd.t, .int .i64 m.qd.v, .int .i64 m.qd.p]) (.agg #[.int .i64 m.qd.t, .int .i64 m.qd.v, .int .i64 m.qd.p])).run Tryz.prog W = .ok () W := fun x y => guard_qid .eql x y m.qd m.qd
          have hEd : ∀ W, (binOp .eql 27 (.agg (cellsD m.st).toArray) (.agg (cellsD m.st).toArray)).run Tryz.prog W = .ok (.bool true) W := fun W => by
            have := eql_dir m.st m.st W
            rw [eqDD_self] at this
            exact this
          have hGd : ∀ x y W, (eqGuard .eql 27 x y (.agg (cellsD m.st).toArray) (.agg (cellsD m.st).toArray)).run Tryz.prog W = .ok () W := fun x y => guard_dir .eql x y m.st m.st
          have hI : Hid ((Tryz.prog.info? 27).map (·.size) = some (cellsD m.st).length) := Lib.hid (by kernel_rfl)
          have Xa := Lib.hid xa22
          have Xb := Lib.hid xb22
          clear xa12 xb12 xa22 xb22
          generalize cellsD m.st = cd at *
          go_upto_region 17 with fail
          go_wp2_with (first | (refine wpList_gload_mid (by rfl) 27 _ rfl w.heap.size 22 rfl cd _ Xa.out Tryz.underlying27 rfl hI.out ?_) | (refine wpList_gload_mid (by rfl) 27 _ rfl (w.heap.size + 1) 22 rfl cd _ Xb.out Tryz.underlying27 rfl hI.out ?_))
          go_ret
          exact ⟨rfl, HB.out⟩
end Go.Proofs.YtlfdmbfbfadifaaGreatDoor
