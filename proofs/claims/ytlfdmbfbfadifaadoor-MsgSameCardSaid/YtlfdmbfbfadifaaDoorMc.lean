/-
  The reference: Same.
-/
import Derived.Test.YtlfdmbfbfadifaaDoorMb
import Derived.Deep.MidRow
namespace Go.Proofs.YtlfdmbfbfadifaaDoor
open Go.RowKit

theorem fa_0 (g : Nat) (w : World) : (Instr.fieldAt 35 (.pointer (some ⟨g, 0, none⟩)) 0).run Tryd.prog w = .ok (.pointer (some ⟨g, 0, none⟩)) w := by go_simp
theorem fa_1 (g : Nat) (w : World) : (Instr.fieldAt 35 (.pointer (some ⟨g, 0, none⟩)) 1).run Tryd.prog w = .ok (.pointer (some ⟨g, 1, none⟩)) w := by go_simp
theorem fa_2 (g : Nat) (w : World) : (Instr.fieldAt 35 (.pointer (some ⟨g, 0, none⟩)) 2).run Tryd.prog w = .ok (.pointer (some ⟨g, 2, none⟩)) w := by go_simp
theorem fa_3 (g : Nat) (w : World) : (Instr.fieldAt 35 (.pointer (some ⟨g, 0, none⟩)) 3).run Tryd.prog w = .ok (.pointer (some ⟨g, 3, none⟩)) w := by go_simp
theorem fa_4 (g : Nat) (w : World) : (Instr.fieldAt 35 (.pointer (some ⟨g, 0, none⟩)) 4).run Tryd.prog w = .ok (.pointer (some ⟨g, 4, none⟩)) w := by go_simp
theorem fa_5 (g : Nat) (w : World) : (Instr.fieldAt 35 (.pointer (some ⟨g, 0, none⟩)) 5).run Tryd.prog w = .ok (.pointer (some ⟨g, 5, none⟩)) w := by go_simp
theorem fa_6 (g : Nat) (w : World) : (Instr.fieldAt 35 (.pointer (some ⟨g, 0, none⟩)) 6).run Tryd.prog w = .ok (.pointer (some ⟨g, 6, none⟩)) w := by go_simp
theorem fa_13 (g : Nat) (w : World) : (Instr.fieldAt 35 (.pointer (some ⟨g, 0, none⟩)) 13).run Tryd.prog w = .ok (.pointer (some ⟨g, 15, none⟩)) w := by go_simp
theorem fa_14 (g : Nat) (w : World) : (Instr.fieldAt 35 (.pointer (some ⟨g, 0, none⟩)) 14).run Tryd.prog w = .ok (.pointer (some ⟨g, 16, none⟩)) w := by go_simp
theorem fa_15 (g : Nat) (w : World) : (Instr.fieldAt 35 (.pointer (some ⟨g, 0, none⟩)) 15).run Tryd.prog w = .ok (.pointer (some ⟨g, 17, none⟩)) w := by go_simp
theorem fa_17 (g : Nat) (w : World) : (Instr.fieldAt 35 (.pointer (some ⟨g, 0, none⟩)) 17).run Tryd.prog w = .ok (.pointer (some ⟨g, 19, none⟩)) w := by go_simp
theorem fa_18 (g : Nat) (w : World) : (Instr.fieldAt 35 (.pointer (some ⟨g, 0, none⟩)) 18).run Tryd.prog w = .ok (.pointer (some ⟨g, 20, none⟩)) w := by go_simp
theorem fa_7 (g : Nat) (w : World) : (Instr.fieldAt 35 (.pointer (some ⟨g, 0, none⟩)) 7).run Tryd.prog w = .ok (.pointer (some ⟨g, 7, none⟩)) w := by go_simp
theorem fa_8 (g : Nat) (w : World) : (Instr.fieldAt 35 (.pointer (some ⟨g, 0, none⟩)) 8).run Tryd.prog w = .ok (.pointer (some ⟨g, 8, none⟩)) w := by go_simp
theorem fa_9 (g : Nat) (w : World) : (Instr.fieldAt 35 (.pointer (some ⟨g, 0, none⟩)) 9).run Tryd.prog w = .ok (.pointer (some ⟨g, 9, none⟩)) w := by go_simp
theorem fa_16 (g : Nat) (w : World) : (Instr.fieldAt 35 (.pointer (some ⟨g, 0, none⟩)) 16).run Tryd.prog w = .ok (.pointer (some ⟨g, 18, none⟩)) w := by go_simp
theorem fa_19 (g : Nat) (w : World) : (Instr.fieldAt 35 (.pointer (some ⟨g, 0, none⟩)) 19).run Tryd.prog w = .ok (.pointer (some ⟨g, 21, none⟩)) w := by go_simp
theorem fa_24 (g : Nat) (w : World) : (Instr.fieldAt 35 (.pointer (some ⟨g, 0, none⟩)) 24).run Tryd.prog w = .ok (.pointer (some ⟨g, 38, none⟩)) w := by go_simp
theorem fa_12 (g : Nat) (w : World) : (Instr.fieldAt 35 (.pointer (some ⟨g, 0, none⟩)) 12).run Tryd.prog w = .ok (.pointer (some ⟨g, 12, none⟩)) w := by go_simp
theorem fa_20 (g : Nat) (w : World) : (Instr.fieldAt 35 (.pointer (some ⟨g, 0, none⟩)) 20).run Tryd.prog w = .ok (.pointer (some ⟨g, 22, none⟩)) w := by go_simp
theorem fa_21 (g : Nat) (w : World) : (Instr.fieldAt 35 (.pointer (some ⟨g, 0, none⟩)) 21).run Tryd.prog w = .ok (.pointer (some ⟨g, 35, none⟩)) w := by go_simp
theorem fa_22 (g : Nat) (w : World) : (Instr.fieldAt 35 (.pointer (some ⟨g, 0, none⟩)) 22).run Tryd.prog w = .ok (.pointer (some ⟨g, 36, none⟩)) w := by go_simp
theorem fa_23 (g : Nat) (w : World) : (Instr.fieldAt 35 (.pointer (some ⟨g, 0, none⟩)) 23).run Tryd.prog w = .ok (.pointer (some ⟨g, 37, none⟩)) w := by go_simp
section
variable {w : World}
theorem ldI {n : Int} {a : Addr} (hc : w.cell? a = some (.int .i64 n)) : (Instr.loadAt 3 (.pointer (some a))).run Tryd.prog w = .ok (.int .i64 n) w := by go_simp
theorem ldE {n : Int} {a : Addr} (hc : w.cell? a = some (.int .i64 n)) : (Instr.loadAt 33 (.pointer (some a))).run Tryd.prog w = .ok (.int .i64 n) w := by go_simp
theorem ldS {s : ByteArray} {a : Addr} (hc : w.cell? a = some (.string s)) : (Instr.loadAt 9 (.pointer (some a))).run Tryd.prog w = .ok (.string s) w := by go_simp
theorem qid_at {b : Nat} {m : MM} (h : BlkM w b m) : w.rangeAt b 12 [.int .i64 m.qd.t, .int .i64 m.qd.v, .int .i64 m.qd.p] := fun j v hv => by
  rw [h.cell (12 + j), ← hv]
  have hj : j < 3 := (List.getElem?_eq_some_iff.1 hv).1
  have hc : j = 0 ∨ j = 1 ∨ j = 2 := by omega
  rcases hc with rfl | rfl | rfl <;> rfl
theorem ldQ {b : Nat} {m : MM} (h : BlkM w b m) : (Instr.loadAt 30 (.pointer (some ⟨b, 12, none⟩))).run Tryd.prog w = .ok (qidV m.qd) w := by
  simp only [Instr.loadAt, Instr.sureAddr, Sem.run_bind, Sem.run_pure, Result.andThen_ok, run_loadVar_mid w b 12 30 _ _ (qid_at h) Tryd.underlying30 rfl (by kernel_rfl)]
  rfl
theorem ldD {b : Nat} {m : MM} (h : BlkM w b m) : (Instr.loadAt 32 (.pointer (some ⟨b, 22, none⟩))).run Tryd.prog w = .ok (.agg (cellsA m.st)) w := by
  simp only [Instr.loadAt, Instr.sureAddr, Sem.run_bind, Sem.run_pure, Result.andThen_ok, run_loadVar_mid w b 22 32 _ _ h.stat Tryd.underlying32 rfl (by kernel_rfl)]
  rfl
theorem egI {a b : Int} (x y : Operand) : (eqGuard .eql 3 x y (.int .i64 a) (.int .i64 b)).run Tryd.prog w = .ok () w := by go_simp
theorem egE {a b : Int} (x y : Operand) : (eqGuard .eql 33 x y (.int .i64 a) (.int .i64 b)).run Tryd.prog w = .ok () w := by go_simp
theorem egS {a b : ByteArray} (x y : Operand) : (eqGuard .eql 9 x y (.string a) (.string b)).run Tryd.prog w = .ok () w := by go_simp
theorem eqI {a b : Int} : (binOp .eql 3 (.int .i64 a) (.int .i64 b)).run Tryd.prog w = .ok (.bool (a == b)) w := by go_simp
theorem eqE {a b : Int} : (binOp .eql 33 (.int .i64 a) (.int .i64 b)).run Tryd.prog w = .ok (.bool (a == b)) w := by go_simp
theorem eqS {a b : ByteArray} : (binOp .eql 9 (.string a) (.string b)).run Tryd.prog w = .ok (.bool (a.toList == b.toList)) w := by go_simp
end
def StM (w : World) (a b : MM) (W : World) : Prop := Below w.heap.size w W ∧ BlkM W w.heap.size a ∧ BlkM W (w.heap.size + 1) b
theorem StM.drewN {w W : World} {a b : MM} (h : StM w a b W) (n : Nat) : StM w a b (W.drewN n) := ⟨below_drewN h.1 n, h.2.1, h.2.2⟩
theorem sameM_nl {a b : MM} (h : decide (a.nl = b.nl) = false) : sameM a b = false := by unfold sameM; rw [h]; rfl
theorem sameM_ql {a b : MM} (h : eqQs a.ql b.ql = false) : sameM a b = false := by unfold sameM; rw [h]; simp
theorem sameM_rest {a b : MM} (h1 : decide (a.nl = b.nl) = true) (h2 : eqQs a.ql b.ql = true) : sameM a b = (numsB a b && (txtsB a b && (eqQ a.qd b.qd && (eqDD a.st b.st && tailB3 a b)))) := by unfold sameM; rw [h1, h2]; rfl

/-- Two lists agree up to k. -/
def sameUpto (A B : List (List UInt8)) (k : Nat) : Prop := ∀ j, j < k → A[j]? = B[j]?
theorem su_step {A B : List (List UInt8)} {k : Nat} (h : sameUpto A B k) (h1 : k < A.length) (h2 : k < B.length) (he : A[k] = B[k]) : sameUpto A B (k + 1) := fun j hj => by
  by_cases e : j = k
  · subst e; rw [List.getElem?_eq_getElem h1, List.getElem?_eq_getElem h2, he]
  · exact h j (by omega)
theorem su_end {A B : List (List UInt8)} (hl : A.length = B.length) (h : sameUpto A B A.length) : decide (A = B) = true := by
  rw [decide_eq_true_eq]
  refine List.ext_getElem? fun j => ?_
  by_cases hj : j < A.length
  · exact h j hj
  · rw [List.getElem?_eq_none (by omega), List.getElem?_eq_none (by omega)]
theorem su_no {A B : List (List UInt8)} {k : Nat} (h1 : k < A.length) (h2 : k < B.length) (he : A[k] ≠ B[k]) : decide (A = B) = false := by
  rw [decide_eq_false_iff_not]; rintro rfl; exact he rfl

set_option maxRecDepth 100000 in
set_option maxHeartbeats 12800000 in
theorem RSame_any (a b : MM) (w : World) (ha : RowM w a) (hb : RowM w b) :
    Calls Tryd.prog 28 #[msgV a, msgV b] w fun e w' => e = .returned (.bool (sameM a b)) ∧ Below w.heap.size w w' := by
  obtain ⟨W, hW, hB, hKa, hKb⟩ := two_msgs w a b
  subst hW
  have hSt : Hid (StM w a b ((w.alloc (.cells (cellsB a) 35)).alloc (.cells (cellsB b) 35))) := ⟨hB, hKa, hKb⟩
  clear hB hKa hKb
  obtain ⟨pa, ca, ea, la, ma, -⟩ := id ha.1
  obtain ⟨pb, cb, eb, lb, mb, -⟩ := id hb.1
  obtain ⟨qa, da, fa, ka, na, -⟩ := id ha.2
  obtain ⟨qb, db, fb, kb, nb, -⟩ := id hb.2
  unfold maxLen at ma mb na nb
  have xa10 : (cellsB a)[10]? = some a.nv := rfl
  have xa11 : (cellsB a)[11]? = some a.qv := rfl
  have xb10 : (cellsB b)[10]? = some b.nv := rfl
  have xb11 : (cellsB b)[11]? = some b.qv := rfl
  rw [ea] at xa10
  rw [eb] at xb10
  rw [fa] at xa11
  rw [fb] at xb11
  have hca : Hid (∀ W, StM w a b W → (W.cell? ⟨w.heap.size, 10, none⟩ = some (.slice pa a.nl.length ca) ∧ W.cell? ⟨w.heap.size, 11, none⟩ = some (.slice qa a.ql.length da)) ∧ W.cell? ⟨w.heap.size + 1, 10, none⟩ = some (.slice pb b.nl.length cb) ∧ W.cell? ⟨w.heap.size + 1, 11, none⟩ = some (.slice qb b.ql.length db)) :=
    fun W h => ⟨⟨(h.2.1.cell 10).trans (congrArg some ea), (h.2.1.cell 11).trans (congrArg some fa)⟩, (h.2.2.cell 10).trans (congrArg some eb), (h.2.2.cell 11).trans (congrArg some fb)⟩
  have h1 := ha.1
  have h2 := hb.1
  have h3 := ha.2
  have h4 := hb.2
  rw [ea] at h1
  rw [eb] at h2
  rw [fa] at h3
  rw [fb] at h4
  have H1 := Lib.hid h1
  have H2 := Lib.hid h2
  have H3 := Lib.hid h3
  have H4 := Lib.hid h4
  have R1 := Lib.hid (fun h => sameM_nl (a := a) (b := b) h)
  have R2 := Lib.hid (fun h => sameM_ql (a := a) (b := b) h)
  have R3 := Lib.hid (fun h h' => sameM_rest (a := a) (b := b) h h')
  clear h1 h2 h3 h4 ea eb fa fb ha hb
  unfold msgV
  generalize sameM a b = res at *
  by_cases hl : a.nl.length = b.nl.length
  case neg =>
    have HR := Lib.hid (R1.out (ltA_len hl))
    have hln : ((a.nl.length : Int) != (b.nl.length : Int)) = true := by simp; omega
    clear hl
    go_enter Tryd.func28, Tryd.ntmps28
    go_wp2
    go_ret
    rw [HR.out]
    exact ⟨rfl, hSt.out.1⟩
  have hln : ((a.nl.length : Int) != (b.nl.length : Int)) = false := by rw [hl]; simp
  by_cases hm : a.ql.length = b.ql.length
  case neg =>
    have HR := Lib.hid (R2.out (eqQs_len hm))
    have hmn : ((a.ql.length : Int) != (b.ql.length : Int)) = true := by simp; omega
    clear hl hm
    go_enter Tryd.func28, Tryd.ntmps28
    go_wp2
    go_ret
    rw [HR.out]
    exact ⟨rfl, hSt.out.1⟩
  have hmn : ((a.ql.length : Int) != (b.ql.length : Int)) = false := by rw [hm]; simp
  have HE := Lib.hid (fun h => su_end hl h)
  have HN := Lib.hid (fun k h1 h2 he => su_no (A := a.nl) (B := b.nl) (k := k) h1 h2 he)
  have HS := Lib.hid (fun k h h1 h2 he => su_step (A := a.nl) (B := b.nl) (k := k) h h1 h2 he)
  have QE := Lib.hid (fun h => eqQs_end hm h)
  have QN := Lib.hid (fun k hk he => eqQs_no (A := a.ql) (B := b.ql) (k := k) hk he)
  have QS := Lib.hid (fun k h he => eqQs_step (A := a.ql) (B := b.ql) (k := k) h he)
  replace hl := Lib.hid hl
  replace hm := Lib.hid hm
  go_enter Tryd.func28, Tryd.ntmps28
  go_wp2
  go_loopw [28] (fun vk wr => ∃ k : Nat, vk = .int .i64 (k : Int) ∧ k ≤ a.nl.length ∧ Hid (StM w a b wr) ∧ Hid (sameUpto a.nl b.nl k)) (fun vk _ => a.nl.length - (intOf vk).toNat)
  case atStart => exact ⟨0, rfl, by omega, hSt.out, fun j hj => by omega⟩
  case round =>
    clear xa10 xa11 xb10 xb11
    obtain ⟨k, rfl, hk, hSr, hq⟩ := hrel
    obtain ⟨⟨xa10, xa11⟩, xb10, xb11⟩ := hca.out _ hSr.out
    by_cases hlt : k < a.nl.length
    · have hlt2 : k < b.nl.length := by have := hl.out; omega
      obtain ⟨bb, o, cap, hv, hbb, hcl, x0⟩ := H1.out.at_ hSr.out.1 hlt
      obtain ⟨b', o', cap', hv', hb', hcl', y0⟩ := H2.out.at_ hSr.out.1 hlt2
      obtain ⟨rfl, rfl⟩ : pa = some ⟨bb, o, none⟩ ∧ ca = cap := by injection hv with a1 a2 a3; exact ⟨a1, a3⟩
      obtain ⟨rfl, rfl⟩ : pb = some ⟨b', o', none⟩ ∧ cb = cap' := by injection hv' with a1 a2 a3; exact ⟨a1, a3⟩
      clear hv hv' hbb hb' xa11 xb11
      have k0 : (0 : Int) ≤ (k : Int) := by omega
      have k1 : (k : Int) < (a.nl.length : Int) := by omega
      have k2 : (k : Int) < (b.nl.length : Int) := by omega
      by_cases he : a.nl[k] = b.nl[k]
      · have HA := Lib.hid (HS.out k hq.out hlt hlt2 he)
        have hqq : ((mk a.nl[k]).toList == (mk b.nl[k]).toList) = true := by rw [he]; simp
        clear he
        generalize mk a.nl[k] = s at *
        generalize mk b.nl[k] = t at *
        go_wp2
        go_quiet (fail)
        go_wp2
        exact ⟨⟨k + 1, by go_num, by omega, hSr.out.drewN _, HA⟩, by simp [intOf]; omega⟩
      · have HR := Lib.hid (R1.out (HN.out k hlt hlt2 he))
        have hqq : ((mk a.nl[k]).toList == (mk b.nl[k]).toList) = false := by rw [mk_toList, mk_toList]; simpa using he
        clear he
        generalize mk a.nl[k] = s at *
        generalize mk b.nl[k] = t at *
        go_wp2
        go_quiet (fail)
        go_wp2
        go_ret
        rw [HR.out]
        exact ⟨rfl, (hSr.out.drewN _).1⟩
    · obtain rfl : k = a.nl.length := by omega
      have D1 := Lib.hid (HE.out hq.out)
      clear hq HE HN HS
      go_wp2
      go_loopw [46] (fun vk wr => ∃ k : Nat, vk = .int .i64 (k : Int) ∧ k ≤ a.ql.length ∧ Hid (StM w a b wr) ∧ Hid (∀ j, j < k → eqQ (atQ a.ql j) (atQ b.ql j) = true)) (fun vk _ => a.ql.length - (intOf vk).toNat)
      case atStart => exact ⟨0, rfl, by omega, hSr.out, fun j hj => by omega⟩
      case round =>
        clear xa10 xa11 xb10 xb11 hSr
        rename_i wr0 _ _
        obtain ⟨k, rfl, hk, hSr, hq⟩ := hrel
        obtain ⟨⟨xa10, xa11⟩, xb10, xb11⟩ := hca.out _ hSr.out
        by_cases hlt : k < a.ql.length
        · have hlt2 : k < b.ql.length := by have := hm.out; omega
          obtain ⟨bb, o, cap, qx, ha1, hv, hbb, hcl, x0, x1, x2⟩ := H3.out.at_ hSr.out.1 hlt
          obtain ⟨b', o', cap', qy, hb1, hv', hb', hcl', y0, y1, y2⟩ := H4.out.at_ hSr.out.1 hlt2
          obtain ⟨rfl, rfl⟩ : qa = some ⟨bb, o, none⟩ ∧ da = cap := by injection hv with a1 a2 a3; exact ⟨a1, a3⟩
          obtain ⟨rfl, rfl⟩ : qb = some ⟨b', o', none⟩ ∧ db = cap' := by injection hv' with a1 a2 a3; exact ⟨a1, a3⟩
          clear hv hv' hbb hb' xa10 xb10
          have k0 : (0 : Int) ≤ (k : Int) := by omega
          have k1 : (k : Int) < (a.ql.length : Int) := by omega
          have k2 : (k : Int) < (b.ql.length : Int) := by omega
          have HA := Lib.hid (fun h => QS.out k hq.out h)
          have HR := Lib.hid (fun h => R2.out (QN.out k hlt h))
          rw [ha1, hb1] at HA HR
          have hE : ∀ W, (binOp .neq 30 (.agg #[.int .i64 qx.t, .int .i64 qx.v, .int .i64 qx.p]) (.agg #[.int .i64 qy.t, .int .i64 qy.v, .int .i64 qy.p])).run Tryd.prog W = .ok (.bool (!(eqQ qx qy))) W := neq_qid qx qy
          have hG : ∀ x y W, (eqGuard .neq 30 x y (.agg #[.int .i64 qx.t, .int .i64 qx.v, .int .i64 qx.p]) (.agg #[.int .i64 qy.t, .int .i64 qy.v, .int .i64 qy.p])).run Tryd.prog W = .ok () W := fun x y => guard_qid .neq x y qx qy
          generalize eqQ qx qy = z at *
          clear ha1 hb1
          cases z
          · replace HR := Lib.hid (HR.out rfl)
            clear HA
            go_wp2
            go_quiet (fail)
            go_wp2
            go_ret
            rw [HR.out]
            exact ⟨rfl, (hSr.out.drewN _).1⟩
          · replace HA := Lib.hid (HA.out rfl)
            clear HR
            go_wp2
            go_quiet (fail)
            go_wp2
            exact ⟨⟨k + 1, by go_num, by omega, hSr.out.drewN _, HA⟩, by simp [intOf]; omega⟩
        · obtain rfl : k = a.ql.length := by omega
          have D2 := Lib.hid (QE.out hq.out)
          have HR := Lib.hid (R3.out D1.out D2.out)
          clear hq QE QN QS R1 R2 R3 H1 H2 H3 H4 D1 D2 xa10 xa11 xb10 xb11
          go_upto_region 15 with fail
          rename_i hK15
          have hA := hSr.out.2.1
          have hB := hSr.out.2.2
          refine wp_region_lit ?_
          generalize hfr : (Act.mk _ _) = fr0
          have hn : fr0.tmps.size = 222 := by rw [← hfr]; rfl
          have q1 : fr0.tmps[2]? = some (.pointer (some ⟨w.heap.size, 0, none⟩)) := by rw [← hfr]; rfl
          have q2 : fr0.tmps[3]? = some (.pointer (some ⟨w.heap.size + 1, 0, none⟩)) := by rw [← hfr]; rfl
          have hdf : fr0.defers = [] := by rw [← hfr]
          clear hfr
          refine cmp_head (s := 61) (t1 := 2) (t2 := 3) (f := 0) (by rw [hn]; decide) (by decide) (by decide) q1 q2 rfl rfl rfl rfl rfl rfl rfl rfl rfl rfl rfl rfl rfl rfl rfl (.inl rfl) rfl rfl (fa_0 _ _) (ldI (hA.cell 0)) (fa_0 _ _) (ldI (hB.cell 0)) egI eqI ?_
          intro fr hK hv
          replace hn := hK.size.trans hn
          replace q1 := (hK.slot 2 (by decide) (by decide)).trans q1
          replace q2 := (hK.slot 3 (by decide) (by decide)).trans q2
          replace hdf := hK.defers.trans hdf
          clear hK
          refine cmp_more (s := 67) (t1 := 2) (t2 := 3) (f := 1) (g := 66) (j := 5) (d := 73) (by rw [hn]; decide) (by rw [hn]; decide) (by decide) (by decide) (by decide) q1 q2 rfl hv rfl rfl rfl rfl rfl rfl rfl rfl rfl rfl rfl rfl rfl rfl rfl rfl rfl rfl (.inl rfl) rfl rfl (fa_1 _ _) (ldI (hA.cell 1)) (fa_1 _ _) (ldI (hB.cell 1)) egI eqI ?_
          clear hv
          intro fr hK hv
          replace hn := hK.size.trans hn
          replace q1 := (hK.slot 2 (by decide) (by decide)).trans q1
          replace q2 := (hK.slot 3 (by decide) (by decide)).trans q2
          replace hdf := hK.defers.trans hdf
          clear hK
          refine cmp_more (s := 74) (t1 := 2) (t2 := 3) (f := 2) (g := 73) (j := 12) (d := 80) (by rw [hn]; decide) (by rw [hn]; decide) (by decide) (by decide) (by decide) q1 q2 rfl hv rfl rfl rfl rfl rfl rfl rfl rfl rfl rfl rfl rfl rfl rfl rfl rfl rfl rfl (.inl rfl) rfl rfl (fa_2 _ _) (ldI (hA.cell 2)) (fa_2 _ _) (ldI (hB.cell 2)) egI eqI ?_
          clear hv
          intro fr hK hv
          replace hn := hK.size.trans hn
          replace q1 := (hK.slot 2 (by decide) (by decide)).trans q1
          replace q2 := (hK.slot 3 (by decide) (by decide)).trans q2
          replace hdf := hK.defers.trans hdf
          clear hK
          refine cmp_more (s := 81) (t1 := 2) (t2 := 3) (f := 3) (g := 80) (j := 19) (d := 87) (by rw [hn]; decide) (by rw [hn]; decide) (by decide) (by decide) (by decide) q1 q2 rfl hv rfl rfl rfl rfl rfl rfl rfl rfl rfl rfl rfl rfl rfl rfl rfl rfl rfl rfl (.inl rfl) rfl rfl (fa_3 _ _) (ldI (hA.cell 3)) (fa_3 _ _) (ldI (hB.cell 3)) egI eqI ?_
          clear hv
          intro fr hK hv
          replace hn := hK.size.trans hn
          replace q1 := (hK.slot 2 (by decide) (by decide)).trans q1
          replace q2 := (hK.slot 3 (by decide) (by decide)).trans q2
          replace hdf := hK.defers.trans hdf
          clear hK
          refine cmp_more (s := 88) (t1 := 2) (t2 := 3) (f := 4) (g := 87) (j := 26) (d := 94) (by rw [hn]; decide) (by rw [hn]; decide) (by decide) (by decide) (by decide) q1 q2 rfl hv rfl rfl rfl rfl rfl rfl rfl rfl rfl rfl rfl rfl rfl rfl rfl rfl rfl rfl (.inl rfl) rfl rfl (fa_4 _ _) (ldI (hA.cell 4)) (fa_4 _ _) (ldI (hB.cell 4)) egI eqI ?_
          clear hv
          intro fr hK hv
          replace hn := hK.size.trans hn
          replace q1 := (hK.slot 2 (by decide) (by decide)).trans q1
          replace q2 := (hK.slot 3 (by decide) (by decide)).trans q2
          replace hdf := hK.defers.trans hdf
          clear hK
          refine cmp_more (s := 95) (t1 := 2) (t2 := 3) (f := 5) (g := 94) (j := 33) (d := 101) (by rw [hn]; decide) (by rw [hn]; decide) (by decide) (by decide) (by decide) q1 q2 rfl hv rfl rfl rfl rfl rfl rfl rfl rfl rfl rfl rfl rfl rfl rfl rfl rfl rfl rfl (.inl rfl) rfl rfl (fa_5 _ _) (ldI (hA.cell 5)) (fa_5 _ _) (ldI (hB.cell 5)) egI eqI ?_
          clear hv
          intro fr hK hv
          replace hn := hK.size.trans hn
          replace q1 := (hK.slot 2 (by decide) (by decide)).trans q1
          replace q2 := (hK.slot 3 (by decide) (by decide)).trans q2
          replace hdf := hK.defers.trans hdf
          clear hK
          refine cmp_more (s := 102) (t1 := 2) (t2 := 3) (f := 6) (g := 101) (j := 40) (d := 108) (by rw [hn]; decide) (by rw [hn]; decide) (by decide) (by decide) (by decide) q1 q2 rfl hv rfl rfl rfl rfl rfl rfl rfl rfl rfl rfl rfl rfl rfl rfl rfl rfl rfl rfl (.inl rfl) rfl rfl (fa_6 _ _) (ldI (hA.cell 6)) (fa_6 _ _) (ldI (hB.cell 6)) egI eqI ?_
          clear hv
          intro fr hK hv
          replace hn := hK.size.trans hn
          replace q1 := (hK.slot 2 (by decide) (by decide)).trans q1
          replace q2 := (hK.slot 3 (by decide) (by decide)).trans q2
          replace hdf := hK.defers.trans hdf
          clear hK
          refine cmp_more (s := 109) (t1 := 2) (t2 := 3) (f := 13) (g := 108) (j := 47) (d := 115) (by rw [hn]; decide) (by rw [hn]; decide) (by decide) (by decide) (by decide) q1 q2 rfl hv rfl rfl rfl rfl rfl rfl rfl rfl rfl rfl rfl rfl rfl rfl rfl rfl rfl rfl (.inl rfl) rfl rfl (fa_13 _ _) (ldI (hA.cell 15)) (fa_13 _ _) (ldI (hB.cell 15)) egI eqI ?_
          clear hv
          intro fr hK hv
          replace hn := hK.size.trans hn
          replace q1 := (hK.slot 2 (by decide) (by decide)).trans q1
          replace q2 := (hK.slot 3 (by decide) (by decide)).trans q2
          replace hdf := hK.defers.trans hdf
          clear hK
          refine cmp_more (s := 116) (t1 := 2) (t2 := 3) (f := 14) (g := 115) (j := 54) (d := 122) (by rw [hn]; decide) (by rw [hn]; decide) (by decide) (by decide) (by decide) q1 q2 rfl hv rfl rfl rfl rfl rfl rfl rfl rfl rfl rfl rfl rfl rfl rfl rfl rfl rfl rfl (.inl rfl) rfl rfl (fa_14 _ _) (ldI (hA.cell 16)) (fa_14 _ _) (ldI (hB.cell 16)) egI eqI ?_
          clear hv
          intro fr hK hv
          replace hn := hK.size.trans hn
          replace q1 := (hK.slot 2 (by decide) (by decide)).trans q1
          replace q2 := (hK.slot 3 (by decide) (by decide)).trans q2
          replace hdf := hK.defers.trans hdf
          clear hK
          refine cmp_more (s := 123) (t1 := 2) (t2 := 3) (f := 15) (g := 122) (j := 61) (d := 129) (by rw [hn]; decide) (by rw [hn]; decide) (by decide) (by decide) (by decide) q1 q2 rfl hv rfl rfl rfl rfl rfl rfl rfl rfl rfl rfl rfl rfl rfl rfl rfl rfl rfl rfl (.inl rfl) rfl rfl (fa_15 _ _) (ldI (hA.cell 17)) (fa_15 _ _) (ldI (hB.cell 17)) egI eqI ?_
          clear hv
          intro fr hK hv
          replace hn := hK.size.trans hn
          replace q1 := (hK.slot 2 (by decide) (by decide)).trans q1
          replace q2 := (hK.slot 3 (by decide) (by decide)).trans q2
          replace hdf := hK.defers.trans hdf
          clear hK
          refine cmp_more (s := 130) (t1 := 2) (t2 := 3) (f := 17) (g := 129) (j := 68) (d := 136) (by rw [hn]; decide) (by rw [hn]; decide) (by decide) (by decide) (by decide) q1 q2 rfl hv rfl rfl rfl rfl rfl rfl rfl rfl rfl rfl rfl rfl rfl rfl rfl rfl rfl rfl (.inl rfl) rfl rfl (fa_17 _ _) (ldI (hA.cell 19)) (fa_17 _ _) (ldI (hB.cell 19)) egI eqI ?_
          clear hv
          intro fr hK hv
          replace hn := hK.size.trans hn
          replace q1 := (hK.slot 2 (by decide) (by decide)).trans q1
          replace q2 := (hK.slot 3 (by decide) (by decide)).trans q2
          replace hdf := hK.defers.trans hdf
          clear hK
          refine cmp_more (s := 137) (t1 := 2) (t2 := 3) (f := 18) (g := 136) (j := 75) (d := 7) (by rw [hn]; decide) (by rw [hn]; decide) (by decide) (by decide) (by decide) q1 q2 rfl hv rfl rfl rfl rfl rfl rfl rfl rfl rfl rfl rfl rfl rfl rfl rfl rfl rfl rfl (.inr rfl) rfl rfl (fa_18 _ _) (ldI (hA.cell 20)) (fa_18 _ _) (ldI (hB.cell 20)) egI eqI ?_
          clear hv
          intro fr hK hv
          replace hn := hK.size.trans hn
          replace q1 := (hK.slot 2 (by decide) (by decide)).trans q1
          replace q2 := (hK.slot 3 (by decide) (by decide)).trans q2
          replace hdf := hK.defers.trans hdf
          clear hK
          have v7 := hv
          clear hv
          refine wpList_nil (hK15 _ _ ?_)
          refine wp_seq ?_
          refine wp_region_lit ?_
          refine cmp_head (s := 143) (t1 := 2) (t2 := 3) (f := 7) (by rw [hn]; decide) (by decide) (by decide) q1 q2 rfl rfl rfl rfl rfl rfl rfl rfl rfl rfl rfl rfl rfl rfl rfl (.inl rfl) rfl rfl (fa_7 _ _) (ldS (hA.cell 7)) (fa_7 _ _) (ldS (hB.cell 7)) egS eqS ?_
          intro fr hK hv
          replace hn := hK.size.trans hn
          replace q1 := (hK.slot 2 (by decide) (by decide)).trans q1
          replace q2 := (hK.slot 3 (by decide) (by decide)).trans q2
          replace hdf := hK.defers.trans hdf
          replace v7 := (hK.slot 7 (by decide) (by decide)).trans v7
          clear hK
          refine cmp_more (s := 149) (t1 := 2) (t2 := 3) (f := 8) (g := 148) (j := 5) (d := 155) (by rw [hn]; decide) (by rw [hn]; decide) (by decide) (by decide) (by decide) q1 q2 rfl hv rfl rfl rfl rfl rfl rfl rfl rfl rfl rfl rfl rfl rfl rfl rfl rfl rfl rfl (.inl rfl) rfl rfl (fa_8 _ _) (ldS (hA.cell 8)) (fa_8 _ _) (ldS (hB.cell 8)) egS eqS ?_
          clear hv
          intro fr hK hv
          replace hn := hK.size.trans hn
          replace q1 := (hK.slot 2 (by decide) (by decide)).trans q1
          replace q2 := (hK.slot 3 (by decide) (by decide)).trans q2
          replace hdf := hK.defers.trans hdf
          replace v7 := (hK.slot 7 (by decide) (by decide)).trans v7
          clear hK
          refine cmp_more (s := 156) (t1 := 2) (t2 := 3) (f := 9) (g := 155) (j := 12) (d := 162) (by rw [hn]; decide) (by rw [hn]; decide) (by decide) (by decide) (by decide) q1 q2 rfl hv rfl rfl rfl rfl rfl rfl rfl rfl rfl rfl rfl rfl rfl rfl rfl rfl rfl rfl (.inl rfl) rfl rfl (fa_9 _ _) (ldS (hA.cell 9)) (fa_9 _ _) (ldS (hB.cell 9)) egS eqS ?_
          clear hv
          intro fr hK hv
          replace hn := hK.size.trans hn
          replace q1 := (hK.slot 2 (by decide) (by decide)).trans q1
          replace q2 := (hK.slot 3 (by decide) (by decide)).trans q2
          replace hdf := hK.defers.trans hdf
          replace v7 := (hK.slot 7 (by decide) (by decide)).trans v7
          clear hK
          refine cmp_more (s := 163) (t1 := 2) (t2 := 3) (f := 16) (g := 162) (j := 19) (d := 169) (by rw [hn]; decide) (by rw [hn]; decide) (by decide) (by decide) (by decide) q1 q2 rfl hv rfl rfl rfl rfl rfl rfl rfl rfl rfl rfl rfl rfl rfl rfl rfl rfl rfl rfl (.inl rfl) rfl rfl (fa_16 _ _) (ldS (hA.cell 18)) (fa_16 _ _) (ldS (hB.cell 18)) egS eqS ?_
          clear hv
          intro fr hK hv
          replace hn := hK.size.trans hn
          replace q1 := (hK.slot 2 (by decide) (by decide)).trans q1
          replace q2 := (hK.slot 3 (by decide) (by decide)).trans q2
          replace hdf := hK.defers.trans hdf
          replace v7 := (hK.slot 7 (by decide) (by decide)).trans v7
          clear hK
          refine cmp_more (s := 170) (t1 := 2) (t2 := 3) (f := 19) (g := 169) (j := 26) (d := 176) (by rw [hn]; decide) (by rw [hn]; decide) (by decide) (by decide) (by decide) q1 q2 rfl hv rfl rfl rfl rfl rfl rfl rfl rfl rfl rfl rfl rfl rfl rfl rfl rfl rfl rfl (.inl rfl) rfl rfl (fa_19 _ _) (ldS (hA.cell 21)) (fa_19 _ _) (ldS (hB.cell 21)) egS eqS ?_
          clear hv
          intro fr hK hv
          replace hn := hK.size.trans hn
          replace q1 := (hK.slot 2 (by decide) (by decide)).trans q1
          replace q2 := (hK.slot 3 (by decide) (by decide)).trans q2
          replace hdf := hK.defers.trans hdf
          replace v7 := (hK.slot 7 (by decide) (by decide)).trans v7
          clear hK
          refine cmp_more (s := 177) (t1 := 2) (t2 := 3) (f := 24) (g := 176) (j := 33) (d := 8) (by rw [hn]; decide) (by rw [hn]; decide) (by decide) (by decide) (by decide) q1 q2 rfl hv rfl rfl rfl rfl rfl rfl rfl rfl rfl rfl rfl rfl rfl rfl rfl rfl rfl rfl (.inr rfl) rfl rfl (fa_24 _ _) (ldS (hA.cell 38)) (fa_24 _ _) (ldS (hB.cell 38)) egS eqS ?_
          clear hv
          intro fr hK hv
          replace hn := hK.size.trans hn
          replace q1 := (hK.slot 2 (by decide) (by decide)).trans q1
          replace q2 := (hK.slot 3 (by decide) (by decide)).trans q2
          replace hdf := hK.defers.trans hdf
          replace v7 := (hK.slot 7 (by decide) (by decide)).trans v7
          clear hK
          refine wpList_nil ?_
          refine wp_seq ?_
          refine wp_region_lit ?_
          refine and_head (s := 183) (t1 := 7) (t2 := 8) (j := 1) (by rw [hn]; decide) (by decide) (by decide) v7 hv rfl rfl rfl rfl rfl rfl rfl rfl rfl rfl rfl rfl rfl rfl rfl rfl ?_
          clear hv v7
          intro fr hK hv
          replace hn := hK.size.trans hn
          replace q1 := (hK.slot 2 (by decide) (by decide)).trans q1
          replace q2 := (hK.slot 3 (by decide) (by decide)).trans q2
          replace hdf := hK.defers.trans hdf
          clear hK
          refine cmp_more (s := 188) (t1 := 2) (t2 := 3) (f := 12) (g := 187) (j := 4) (d := 194) (by rw [hn]; decide) (by rw [hn]; decide) (by decide) (by decide) (by decide) q1 q2 rfl hv rfl rfl rfl rfl rfl rfl rfl rfl rfl rfl rfl rfl rfl rfl rfl rfl rfl rfl (.inl rfl) rfl rfl (fa_12 _ _) (ldQ hA) (fa_12 _ _) (ldQ hB) (guard_qid .eql · · _ _ _) (eql_qid _ _ _) ?_
          clear hv
          intro fr hK hv
          replace hn := hK.size.trans hn
          replace q1 := (hK.slot 2 (by decide) (by decide)).trans q1
          replace q2 := (hK.slot 3 (by decide) (by decide)).trans q2
          replace hdf := hK.defers.trans hdf
          clear hK
          refine cmp_more (s := 195) (t1 := 2) (t2 := 3) (f := 20) (g := 194) (j := 11) (d := 201) (by rw [hn]; decide) (by rw [hn]; decide) (by decide) (by decide) (by decide) q1 q2 rfl hv rfl rfl rfl rfl rfl rfl rfl rfl rfl rfl rfl rfl rfl rfl rfl rfl rfl rfl (.inl rfl) rfl rfl (fa_20 _ _) (ldD hA) (fa_20 _ _) (ldD hB) (guard_dir .eql · · _ _ _) (eql_dir _ _ _) ?_
          clear hv
          intro fr hK hv
          replace hn := hK.size.trans hn
          replace q1 := (hK.slot 2 (by decide) (by decide)).trans q1
          replace q2 := (hK.slot 3 (by decide) (by decide)).trans q2
          replace hdf := hK.defers.trans hdf
          clear hK
          refine cmp_more (s := 202) (t1 := 2) (t2 := 3) (f := 21) (g := 201) (j := 18) (d := 208) (by rw [hn]; decide) (by rw [hn]; decide) (by decide) (by decide) (by decide) q1 q2 rfl hv rfl rfl rfl rfl rfl rfl rfl rfl rfl rfl rfl rfl rfl rfl rfl rfl rfl rfl (.inl rfl) rfl rfl (fa_21 _ _) (ldE (hA.cell 35)) (fa_21 _ _) (ldE (hB.cell 35)) egE eqE ?_
          clear hv
          intro fr hK hv
          replace hn := hK.size.trans hn
          replace q1 := (hK.slot 2 (by decide) (by decide)).trans q1
          replace q2 := (hK.slot 3 (by decide) (by decide)).trans q2
          replace hdf := hK.defers.trans hdf
          clear hK
          refine cmp_more (s := 209) (t1 := 2) (t2 := 3) (f := 22) (g := 208) (j := 25) (d := 215) (by rw [hn]; decide) (by rw [hn]; decide) (by decide) (by decide) (by decide) q1 q2 rfl hv rfl rfl rfl rfl rfl rfl rfl rfl rfl rfl rfl rfl rfl rfl rfl rfl rfl rfl (.inl rfl) rfl rfl (fa_22 _ _) (ldI (hA.cell 36)) (fa_22 _ _) (ldI (hB.cell 36)) egI eqI ?_
          clear hv
          intro fr hK hv
          replace hn := hK.size.trans hn
          replace q1 := (hK.slot 2 (by decide) (by decide)).trans q1
          replace q2 := (hK.slot 3 (by decide) (by decide)).trans q2
          replace hdf := hK.defers.trans hdf
          clear hK
          refine cmp_more (s := 216) (t1 := 2) (t2 := 3) (f := 23) (g := 215) (j := 32) (d := 4) (by rw [hn]; decide) (by rw [hn]; decide) (by decide) (by decide) (by decide) q1 q2 rfl hv rfl rfl rfl rfl rfl rfl rfl rfl rfl rfl rfl rfl rfl rfl rfl rfl rfl rfl (.inr rfl) rfl rfl (fa_23 _ _) (ldI (hA.cell 37)) (fa_23 _ _) (ldI (hB.cell 37)) egI eqI ?_
          clear hv
          intro fr hK hv
          replace hn := hK.size.trans hn
          replace q1 := (hK.slot 2 (by decide) (by decide)).trans q1
          replace q2 := (hK.slot 3 (by decide) (by decide)).trans q2
          replace hdf := hK.defers.trans hdf
          clear hK
          refine wpList_nil ?_
          refine wp_ret ?_
          refine bodyPost_ret (results_tmp rfl _ _ _) hdf ⟨?_, hSr.out.1⟩
          have e : fr.tmps.getD 4 undef = _ := ev_tmp hv
          rw [e, HR.out]
          refine congrArg (fun b => Ending.returned (.bool b)) ?_
          rw [mk_toList, mk_toList, mk_toList, mk_toList, mk_toList, mk_toList, mk_toList, mk_toList, mk_toList, mk_toList, mk_toList, mk_toList]
          unfold numsB txtsB tailB3
          simp only [Bool.and_assoc]
end Go.Proofs.YtlfdmbfbfadifaaDoor
