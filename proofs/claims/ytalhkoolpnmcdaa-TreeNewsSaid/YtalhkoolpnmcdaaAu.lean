/-
  Two nodes compared; walks: the reference's Same.
-/
import Derived.Test.YtalhkoolpnmcdaaAt
import Derived.Laws.StructEq
import Derived.BigQuiet
namespace Go.Proofs.Ytalhkoolpnmcdaa
open Go.RowKit

/-- Two nodes are the same. -/
def eqB (d e : ND) : Bool := d.id == e.id && (d.pa == e.pa && (d.ve == e.ve && (d.nm == e.nm && (d.mo == e.mo && (d.ui == e.ui && (d.gi == e.gi && (d.mu == e.mu && (d.ti == e.ti && (d.mt == e.mt && (d.da == e.da))))))))))
theorem eqB_iff (d e : ND) : eqB d e = true ↔ d = e := by
  obtain ⟨a1, a2, a3, a4, a5, a6, a7, a8, a9, a10, a11⟩ := d
  obtain ⟨b1, b2, b3, b4, b5, b6, b7, b8, b9, b10, b11⟩ := e
  simp [eqB]
theorem eqB_self (d : ND) : eqB d d = true := (eqB_iff d d).2 rfl
theorem eqF_cons {P : Program} {n : Nat} {f : Field} {fs : List Field} {xs ys : Array Value} {a b : Value} {r s : Bool} {w : World} (hn : (f.name == "_") = false) (ha : (part f.type xs f.offset).run P w = .ok a w)
    (hb : (part f.type ys f.offset).run P w = .ok b w) (he : (Op.equalIn n f.type a b).run P w = .ok r w) (hs : (Op.eqFields n xs ys fs).run P w = .ok s w) : (Op.eqFields n xs ys (f :: fs)).run P w = .ok (r && s) w := by
  have hn' : f.name ≠ "_" := by simpa using hn
  simp only [Op.eqFields, Sem.run_bind, Sem.run_ite, ha, hb, he, Result.andThen_ok]
  cases r
  · simp [hn']
  · simpa [hn'] using hs
theorem part_int (d : ND) (w : World) {k : Nat} {v : Int} (h : (cellsA d)[k]? = some (.int .i64 v)) : (part 3 (cellsA d) k).run Try.prog w = .ok (.int .i64 v) w := by
  have := (show (isAgg 3).run Try.prog w = .ok false w by kernel_rfl)
  simp [part, Sem.run_bind, this, h]
theorem part_str (d : ND) (w : World) {k : Nat} {v : List UInt8} (h : (cellsA d)[k]? = some (.string (mk v))) : (part 9 (cellsA d) k).run Try.prog w = .ok (.string (mk v)) w := by
  have := (show (isAgg 9).run Try.prog w = .ok false w by kernel_rfl)
  simp [part, Sem.run_bind, this, h]
theorem eq_int (a b : Int) (n : Nat) (w : World) : (Op.equalIn (n + 1) 3 (.int .i64 a) (.int .i64 b)).run Try.prog w = .ok (a == b) w := run_equalIn_int w n _ _ _ _ _ Try.underlying3
theorem eq_str (a b : List UInt8) (n : Nat) (w : World) : (Op.equalIn (n + 1) 9 (.string (mk a)) (.string (mk b))).run Try.prog w = .ok (a == b) w := by
  rw [run_equalIn_string w n _ _ _ Try.underlying9, mk_toList, mk_toList]
theorem eqF_nil {P : Program} {n : Nat} {xs ys : Array Value} {w : World} : (Op.eqFields n xs ys []).run P w = .ok true w := by simp [Op.eqFields]
theorem equal_node (d e : ND) (n : Nat) (w : World) : (Op.equalIn (n + 2) 31 (.agg (cellsA d)) (.agg (cellsA e))).run Try.prog w = .ok (eqB d e) w := by
  rw [run_equalIn_agg w _ _ _ _ (by kernel_rfl) (by kernel_rfl)]
  unfold Program.fieldsOf
  rw [Try.underlying31]
  dsimp only
  refine Eq.trans (eqF_cons rfl (part_int d w rfl) (part_int e w rfl) (eq_int _ _ n w) (eqF_cons rfl (part_int d w rfl) (part_int e w rfl) (eq_int _ _ n w) (eqF_cons rfl (part_int d w rfl) (part_int e w rfl) (eq_int _ _ n w) (eqF_cons rfl (part_str d w rfl) (part_str e w rfl) (eq_str _ _ n w) (eqF_cons rfl (part_int d w rfl) (part_int e w rfl) (eq_int _ _ n w) (eqF_cons rfl (part_str d w rfl) (part_str e w rfl) (eq_str _ _ n w) (eqF_cons rfl (part_str d w rfl) (part_str e w rfl) (eq_str _ _ n w) (eqF_cons rfl (part_str d w rfl) (part_str e w rfl) (eq_str _ _ n w) (eqF_cons rfl (part_int d w rfl) (part_int e w rfl) (eq_int _ _ n w) (eqF_cons rfl (part_int d w rfl) (part_int e w rfl) (eq_int _ _ n w) (eqF_cons rfl (part_str d w rfl) (part_str e w rfl) (eq_str _ _ n w) eqF_nil))))))))))) ?_
  unfold eqB
  simp only [Bool.and_true]
theorem eql_node (d e : ND) (w : World) : (binOp .eql 31 (.agg (cellsA d)) (.agg (cellsA e))).run Try.prog w = .ok (.bool (eqB d e)) w := by
  rw [run_eql_struct, equal_node d e 9998 w]; rfl
theorem neq_node (d e : ND) (w : World) : (binOp .neq 31 (.agg (cellsA d)) (.agg (cellsA e))).run Try.prog w = .ok (.bool (!(eqB d e))) w := by
  rw [run_neq_struct, equal_node d e 9998 w]; rfl
theorem guard_node (op : BinOp) (x y : Operand) (d e : ND) (w : World) : (eqGuard op 31 x y (.agg (cellsA d)) (.agg (cellsA e))).run Try.prog w = .ok () w :=
  run_eqGuard_agg w op _ x y _ _ (by kernel_rfl)

/-- Two trees are the same. -/
def sameB (a b : Int) (L M : List ND) : Bool := a == b && decide (L = M)
theorem differ {L M : List ND} (hl : L.length = M.length) {k : Nat} (hk : k < L.length) (h : getN L k ≠ getN M k) : decide (L = M) = false := by
  rw [decide_eq_false_iff_not]; rintro rfl; exact h rfl
theorem alike {L M : List ND} (hl : L.length = M.length) (h : ∀ k, k < L.length → getN L k = getN M k) : decide (L = M) = true := by
  rw [decide_eq_true_iff]
  apply List.ext_getElem hl
  intro k h1 h2
  rw [getN_get h1, getN_get h2]
  exact h k h1
set_option maxRecDepth 100000 in
set_option maxHeartbeats 6400000 in
theorem Same_any (a b : Int) (v1 v2 : Value) (L M : List ND) (w : World) (h1 : NRow w v1 L) (h2 : NRow w v2 M) :
    Calls Try.prog 12 #[treeV a v1, treeV b v2] w fun e w' => e = .returned (.bool (sameB a b L M)) ∧ Below w.heap.size w w' := by
  obtain ⟨W, hW, hB, hT1, hT2⟩ : ∃ W, (w.alloc (.cells #[.int .i64 a, v1] 26)).alloc (.cells #[.int .i64 b, v2] 26) = W ∧ Below w.heap.size w W ∧ BlkT W w.heap.size a v1 ∧ BlkT W (w.heap.size + 1) b v2 := by
    refine ⟨_, rfl, ((Below.refl _ w).alloc (Nat.le_refl _) _).alloc (by simp) _, (BlkT.new w a v1).alloc _, ?_⟩
    have h := BlkT.new (w.alloc (.cells #[.int .i64 a, v1] 26)) b v2
    rwa [show (w.alloc (.cells #[.int .i64 a, v1] 26)).heap.size = w.heap.size + 1 by simp] at h
  have H1 := Lib.hid h1
  have H2 := Lib.hid h2
  obtain ⟨p1, cap1, rfl, hc1, hm1, _⟩ := h1
  obtain ⟨p2, cap2, rfl, hc2, hm2, _⟩ := h2
  unfold maxLen at hm1 hm2
  have a0 := hT1.c0
  have a1 := hT1.c1
  have b0 := hT2.c0
  have b1 := hT2.c1
  have hres : sameB a b L M = (a == b && decide (L = M)) := rfl
  generalize sameB a b L M = res at hres ⊢
  replace hW := Lib.hid hW
  have HB := Lib.hid hB
  unfold treeV
  clear hT1 hT2 hB
  by_cases hab : a = b
  · have hab2 : (a == b) = true := by simpa using hab
    have hab3 : (a != b) = false := by simpa using hab
    rw [hab2, Bool.true_and] at hres
    clear hab hab2
    by_cases hl : L.length = M.length
    · have hdf := fun k hk h => hres.trans (differ hl (k := k) hk h)
      have hal := fun h => hres.trans (alike hl h)
      replace hdf := Lib.hid hdf
      replace hal := Lib.hid hal
      have hl2 : ((L.length : Int) != (M.length : Int)) = false := by simp; omega
      have HL := Lib.hid hl
      have hl3 : (M.length : Int) ≤ (L.length : Int) ∧ (L.length : Int) ≤ (M.length : Int) := by omega
      clear hres hl
      go_enter Try.func12, Try.ntmps12
      go_wp2_with (simp only [hW.out])
      go_loopw [5] (fun vk wr => ∃ k : Nat, vk = .int .i64 (k : Int) ∧ k ≤ L.length ∧ Hid (∀ j, j < k → getN L j = getN M j) ∧ Hid (∃ q, wr = W.drewN q)) (fun vk _ => L.length - (intOf vk).toNat)
      case atStart => exact ⟨0, rfl, by omega, fun j hj => absurd hj (Nat.not_lt_zero _), 0, rfl⟩
      case round =>
        obtain ⟨k, rfl, hk, HA, HQ⟩ := hrel
        obtain ⟨qd, rfl⟩ := HQ.out
        by_cases hlt : k < L.length
        · obtain ⟨b1', o1, cap1', hv1, hb1, hcl1, _, hr1⟩ := H1.out.form (by omega)
          obtain ⟨rfl, rfl⟩ : p1 = some ⟨b1', o1, none⟩ ∧ cap1 = cap1' := by injection hv1 with e1 e2 e3; exact ⟨e1, e3⟩
          obtain ⟨b2', o2, cap2', hv2, hb2, hcl2, _, hr2⟩ := H2.out.form (by omega)
          obtain ⟨rfl, rfl⟩ : p2 = some ⟨b2', o2, none⟩ ∧ cap2 = cap2' := by injection hv2 with e1 e2 e3; exact ⟨e1, e3⟩
          obtain ⟨x0, x1, x2, x3, x4, x5, x6, x7, x8, x9, x10⟩ := cells11 (hr1 W HB.out k hlt)
          obtain ⟨y0, y1, y2, y3, y4, y5, y6, y7, y8, y9, y10⟩ := cells11 (hr2 W HB.out k (by omega))
          have hd := fun h => hdf.out k hlt h
          have HA2 := fun (h : getN L k = getN M k) => (fun j hj => by
            by_cases e : j = k
            · subst e; exact h
            · exact HA.out j (by omega) : ∀ j, j < k + 1 → getN L j = getN M j)
          have k0 : (0 : Int) ≤ (k : Int) := by omega
          have k1 : (k : Int) < (L.length : Int) := by omega
          have k2 : (k : Int) < (M.length : Int) := by omega
          clear hv1 hv2 hr1 hr2 hb1 hb2 HQ
          generalize getN L k = d at *
          generalize getN M k = e at *
          have hne : ∀ W, (binOp .neq 31 (.agg #[.int .i64 d.id, .int .i64 d.pa, .int .i64 d.ve, .string (mk d.nm), .int .i64 d.mo, .string (mk d.ui), .string (mk d.gi), .string (mk d.mu), .int .i64 d.ti, .int .i64 d.mt, .string (mk d.da)]) (.agg #[.int .i64 e.id, .int .i64 e.pa, .int .i64 e.ve, .string (mk e.nm), .int .i64 e.mo, .string (mk e.ui), .string (mk e.gi), .string (mk e.mu), .int .i64 e.ti, .int .i64 e.mt, .string (mk e.da)])).run Try.prog W = .ok (.bool (!(eqB d e))) W := neq_node d e
          have hgd : ∀ x y W, (eqGuard .neq 31 x y (.agg #[.int .i64 d.id, .int .i64 d.pa, .int .i64 d.ve, .string (mk d.nm), .int .i64 d.mo, .string (mk d.ui), .string (mk d.gi), .string (mk d.mu), .int .i64 d.ti, .int .i64 d.mt, .string (mk d.da)]) (.agg #[.int .i64 e.id, .int .i64 e.pa, .int .i64 e.ve, .string (mk e.nm), .int .i64 e.mo, .string (mk e.ui), .string (mk e.gi), .string (mk e.mu), .int .i64 e.ti, .int .i64 e.mt, .string (mk e.da)])).run Try.prog W = .ok () W := fun x y => guard_node .neq x y d e
          by_cases he : d = e
          · have hee := (eqB_iff d e).2 he
            rw [hee] at hne
            replace HA2 := Lib.hid (HA2 he)
            clear hd he hee
            go_wp2
            go_quiet (fail)
            go_wp2
            exact ⟨⟨k + 1, by go_num, by omega, HA2, _, rfl⟩, by simp [intOf]; omega⟩
          · have hee : eqB d e = false := by rw [Bool.eq_false_iff]; exact fun h => he ((eqB_iff d e).1 h)
            rw [hee] at hne
            replace hd := Lib.hid (hd he)
            clear HA2 he hee
            go_wp2
            go_quiet (fail)
            go_wp2
            go_ret
            rw [hd.out]
            exact ⟨rfl, below_drewN (below_drewN HB.out _) _⟩
        · obtain rfl : k = L.length := by omega
          replace hal := Lib.hid (hal.out HA.out)
          clear HA HQ
          go_wp2
          go_ret
          rw [hal.out]
          exact ⟨rfl, below_drewN HB.out _⟩
    · have hl2 : ((L.length : Int) != (M.length : Int)) = true := by simp; omega
      have hdc : decide (L = M) = false := by rw [decide_eq_false_iff_not]; rintro rfl; exact hl rfl
      rw [hdc] at hres
      replace hres := Lib.hid hres
      clear hl hdc
      go_enter Try.func12, Try.ntmps12
      go_wp2_with (simp only [hW.out])
      go_ret
      rw [hres.out]
      exact ⟨rfl, HB.out⟩
  · have hab2 : (a == b) = false := by simpa using hab
    have hab3 : (a != b) = true := by simpa using hab
    rw [hab2, Bool.false_and] at hres
    replace hres := Lib.hid hres
    clear hab hab2
    go_enter Try.func12, Try.ntmps12
    go_wp2_with (simp only [hW.out])
    go_ret
    rw [hres.out]
    exact ⟨rfl, HB.out⟩
end Go.Proofs.Ytalhkoolpnmcdaa
