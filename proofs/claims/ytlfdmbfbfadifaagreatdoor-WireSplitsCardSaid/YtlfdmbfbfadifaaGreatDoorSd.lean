/-
  Walks: numbersOf, textsOf; isNumber; the reference's in, sum.
  Walks: Check, the program's and the reference's.
  Walks: the reference's Numbers and Check.
  Walks: None and Changes, the program's and the reference's; two descriptions compared.
-/
import Derived.Test.YtlfdmbfbfadifaaGreatDoorSb
import Derived.Deep.WholeRow
import Derived.Laws.StructEq
import Derived.BigQuiet
namespace Go.Proofs.YtlfdmbfbfadifaaGreatDoor.St
open Go.RowKit

theorem setRow_new (w : World) (c c' : Array Value) (t : TypeId) : (w.alloc (.cells c t)).drew.setRow w.heap.size c' = (w.alloc (.cells c' t)).drew :=
  congrArg World.drew (World.setRow_alloc_new w c c' t)
theorem below_alloc (w : World) (o : Obj) : Below w.heap.size w (w.alloc o).drew := below_drew ((Below.refl _ w).alloc (Nat.le_refl _) o)

set_option maxRecDepth 100000 in
set_option maxHeartbeats 1600000 in
theorem textsOf_any (b : Nat) (w : World) :
    Calls Tryz.prog 125 #[.pointer (some ⟨b, 0, none⟩)] w fun e w' => e = .returned (.agg (ptrs b 9 4).toArray) ∧ Below w.heap.size w w' := by
  go_enter Tryz.func125, Tryz.ntmps125
  go_wp2
  go_still_tail 13, (by kernel_rfl)
  change wpList _ _ _ _ _ (w.alloc (.cells #[.pointer none, .pointer none, .pointer none, .pointer none] 172)).drew
  refine wpList_store_row rfl 172 _ _ rfl w.heap.size (ptrs b 9 4).toArray rfl rfl 172 _ (heap_alloc_new w _) (by kernel_rfl) rfl (by kernel_rfl) ?_
  rw [setRow_new]
  go_wp2
  refine bodyPost_ret (results_cell_row rfl _ _ w.heap.size 172 (ptrs b 9 4).toArray (0, 0) _ rfl (heap_alloc_new w _) Tryz.underlying172 rfl (by kernel_rfl)) rfl ?_
  exact ⟨rfl, below_alloc w _⟩
set_option maxRecDepth 100000 in
set_option maxHeartbeats 1600000 in
theorem numbersOf_any (b : Nat) (w : World) :
    Calls Tryz.prog 85 #[.pointer (some ⟨b, 0, none⟩)] w fun e w' => e = .returned (.agg (ptrs b 0 9).toArray) ∧ Below w.heap.size w w' := by
  go_enter Tryz.func85, Tryz.ntmps85
  go_wp2
  go_still_tail 31, (by kernel_rfl)
  change wpList _ _ _ _ _ (w.alloc (.cells #[.pointer none, .pointer none, .pointer none, .pointer none, .pointer none, .pointer none, .pointer none, .pointer none, .pointer none] 136)).drew
  refine wpList_store_row rfl 136 _ _ rfl w.heap.size (ptrs b 0 9).toArray rfl rfl 136 _ (heap_alloc_new w _) (by kernel_rfl) rfl (by kernel_rfl) ?_
  rw [setRow_new]
  go_wp2
  refine bodyPost_ret (results_cell_row rfl _ _ w.heap.size 136 (ptrs b 0 9).toArray (0, 0) _ rfl (heap_alloc_new w _) Tryz.underlying136 rfl (by kernel_rfl)) rfl ?_
  exact ⟨rfl, below_alloc w _⟩

/-! ### The tests of numbers -/
/-- A row of the table of formats. -/
def fmtV (k : Nat) : Value := .agg #[.int .i64 (fW k : Int), .int .i64 (fG k : Int), .bool (fS k)]

theorem inB_keep (g : Nat) : inB (-1) g = true := rfl
theorem sumB_keep (g : Nat) : sumB (-1) g = true := rfl
theorem inB_low {n : Int} {g : Nat} (hk : n ≠ -1) (h : n < 0) : inB n g = false := by unfold inB; simp; omega
theorem inB_at {n : Int} {g : Nat} (h : 0 ≤ n) : inB n g = decide (n ≤ (g : Int)) := by
  unfold inB; rw [Bool.eq_iff_iff]; simp; omega
theorem sumB_low {n : Int} {g : Nat} (hk : n ≠ -1) (h : n < 0) : sumB n g = false := by unfold sumB; simp; omega

set_option maxHeartbeats 800000 in
theorem in_any (n : Int) (g : Nat) (hn : inI n) (w : World) :
    Calls Tryz.prog 96 #[.int .i64 n, .int .i64 (g : Int)] w fun e w' => e = .returned (.bool (inB n g)) ∧ w = w' := by
  by_cases hk : n = -1
  · subst hk
    rw [inB_keep]
    go_enter Tryz.func96, Tryz.ntmps96
    go_wp2
    go_ret
    exact ⟨rfl, rfl⟩
  · have hk' : (n == -1) = false := by simpa using hk
    by_cases h0 : n < 0
    · have HR := Lib.hid (inB_low (g := g) hk h0)
      clear hk
      go_enter Tryz.func96, Tryz.ntmps96
      go_wp2
      go_ret
      rw [HR.out]
      exact ⟨rfl, rfl⟩
    · have HR := Lib.hid (inB_at (g := g) (by omega : 0 ≤ n))
      clear hk
      go_enter Tryz.func96, Tryz.ntmps96
      go_wp2
      go_ret
      rw [HR.out]
      exact ⟨rfl, rfl⟩
set_option maxHeartbeats 800000 in
theorem sum_any (n : Int) (g : Nat) (hn : inI n) (hg : g < 9223372036854775808) (w : World) :
    Calls Tryz.prog 95 #[.int .i64 n, .int .i64 (g : Int)] w fun e w' => e = .returned (.bool (sumB n g)) ∧ w = w' := by
  by_cases hk : n = -1
  · subst hk
    rw [sumB_keep]
    go_enter Tryz.func95, Tryz.ntmps95
    go_wp2
    go_ret
    exact ⟨rfl, rfl⟩
  · have hk' : (n == -1) = false := by simpa using hk
    by_cases h0 : n < 0
    · have HR := Lib.hid (sumB_low (g := g) hk h0)
      clear hk
      go_enter Tryz.func95, Tryz.ntmps95
      go_wp2
      go_ret
      rw [HR.out]
      exact ⟨rfl, rfl⟩
    · have HR := Lib.hid (sum_and hn hg hk (by omega : 0 ≤ n))
      clear hk
      go_enter Tryz.func95, Tryz.ntmps95
      go_wp2
      go_ret
      rw [HR.out]
      exact ⟨rfl, rfl⟩
set_option maxHeartbeats 800000 in
theorem isNumber_any (n : Int) (k : Nat) (hk9 : k < 9) (hn : inI n) (w : World) :
    Calls Tryz.prog 86 #[.int .i64 n, fmtV k] w fun e w' => e = .returned (.bool (okN k n)) ∧ Below w.heap.size w w' := by
  have hg := fG_lt hk9
  have hB : ∀ o, Below w.heap.size w (w.alloc o) := fun o => (Below.refl _ w).alloc (Nat.le_refl _) o
  have HB := Lib.hid hB
  have ho : okN k n = if fS k then sumB n (fG k) else inB n (fG k) := rfl
  unfold fmtV
  generalize okN k n = res at ho ⊢
  generalize fW k = fw
  generalize fG k = fg at hg ho ⊢
  generalize fS k = fs at ho ⊢
  clear hB hk9
  by_cases hk : n = -1
  · have HR : Hid (res = true) := by rw [Hid, ho, hk]; cases fs <;> rfl
    subst hk
    clear ho
    go_enter Tryz.func86, Tryz.ntmps86
    go_wp2
    go_ret
    rw [HR.out]
    exact ⟨rfl, HB.out _⟩
  · have hk' : (n == -1) = false := by simpa using hk
    cases fs
    · have HR : Hid (res = inB n fg) := ho
      by_cases h0 : n < 0
      · have HI := Lib.hid (inB_low (g := fg) hk h0)
        clear hk ho
        go_enter Tryz.func86, Tryz.ntmps86
        go_wp2
        go_ret
        rw [HR.out, HI.out]
        exact ⟨rfl, HB.out _⟩
      · have HI := Lib.hid (inB_at (g := fg) (by omega : 0 ≤ n))
        clear hk ho
        go_enter Tryz.func86, Tryz.ntmps86
        go_wp2
        go_ret
        rw [HR.out, HI.out]
        exact ⟨rfl, HB.out _⟩
    · have HR : Hid (res = sumB n fg) := ho
      have HI := Lib.hid (sum_andNot hn (by omega : fg < 9223372036854775808) hk)
      clear hk ho
      go_enter Tryz.func86, Tryz.ntmps86
      go_wp2
      go_ret
      rw [HR.out, HI.out]
      exact ⟨rfl, HB.out _⟩
end Go.Proofs.YtlfdmbfbfadifaaGreatDoor.St

namespace Go.Proofs.YtlfdmbfbfadifaaGreatDoor.St
open Go.RowKit

def inD (d : DD) : Prop := ∀ k, k < 9 → inI (num d k)
def bigD (d : DD) : Prop := ∀ k, k < 4 → (txt d k).length ≤ maxLen
theorem all_step {d : DD} {k : Nat} (h : ∀ j, j < k → okN j (num d j) = true) (hk : okN k (num d k) = true) : ∀ j, j < k + 1 → okN j (num d j) = true := fun j hj => by
  by_cases e : j = k
  · subst e; exact hk
  · exact h j (by omega)
theorem check_5 {d : DD} {k : Nat} (hk : k < 9) (h : okN k (num d k) = false) : checkR d = 5 := by
  unfold checkR; rw [allN_no hk h]; rfl
theorem check_06 {d : DD} (h : ∀ j, j < 9 → okN j (num d j) = true) : checkR d = if nameOk d.nm && shortB d then 0 else 6 := by
  unfold checkR; rw [allN_all h]; rfl
/-- What a name is: empty, a slash, another. -/
theorem name_cases (l : List UInt8) : ((mk l).toList = [] ∧ (mk l).toList.isEmpty = true ∧ nameOk l = true) ∨ ((mk l).toList ≠ [] ∧ (mk l).toList.isEmpty = false ∧ ((mk l).toList == [47]) = true ∧ nameOk l = true) ∨
    ((mk l).toList ≠ [] ∧ (mk l).toList.isEmpty = false ∧ ((mk l).toList == [47]) = false ∧ nameOk l = validL l) := by
  rw [mk_toList]
  by_cases h : l = []
  · exact .inl ⟨h, by rw [h]; rfl, by rw [h]; rfl⟩
  · by_cases h2 : l = [47]
    · exact .inr (.inl ⟨h, by simpa using h, by rw [h2]; rfl, by rw [h2]; rfl⟩)
    · exact .inr (.inr ⟨h, by simpa using h, by simpa using h2, by unfold nameOk; simp [h, h2]⟩)

set_option maxRecDepth 100000 in
set_option maxHeartbeats 3200000 in
theorem Check_any (d : DD) (hd : inD d) (hb : bigD d) (w : World) (g : G w) :
    Calls Tryz.prog 64 #[dirV d] w fun e w' => e = .returned (.int .i64 (checkR d)) ∧ Below w.heap.size w w' := by
  unfold dirV
  have hB0 : Below w.heap.size w (w.alloc (.cells (cellsA d) 27)) := (Below.refl _ w).alloc (Nat.le_refl _) _
  have hK0 := BlkD.new w d
  have H5 := Lib.hid (fun k hk h => check_5 (d := d) (k := k) hk h)
  have H6 := Lib.hid (fun h => check_06 (d := d) h)
  generalize checkR d = res at H5 H6 ⊢
  have hsz : (w.alloc (.cells (cellsA d) 27)).heap.size = w.heap.size + 1 := by simp
  have HD := Lib.hid hd
  have HB := Lib.hid hb
  have HG := Lib.hid g
  clear hd hb g
  generalize hW : w.alloc (.cells (cellsA d) 27) = W at hB0 hK0 hsz
  replace hW := Lib.hid hW
  have HB0 := Lib.hid hB0
  have HK0 := Lib.hid hK0
  replace hsz := Lib.hid hsz
  clear hB0 hK0
  go_enter Tryz.func64, Tryz.ntmps64
  go_wp2_with fail
  rw [hW.out]
  refine (numbersOf_any _ _).mono ?_
  rintro e w1 ⟨rfl, hB1⟩
  have HB1 := Lib.hid (HB0.out.trans (hB1.mono (by rw [hsz.out]; omega)))
  have HK1 := Lib.hid (HK0.out.below hB1 (by rw [hsz.out]; omega))
  clear hB1
  go_wp2_with fail
  go_loopw [6] (fun vk wr => ∃ k : Nat, vk = .int .i64 (k : Int) ∧ k ≤ 9 ∧ Hid (Below w.heap.size w wr) ∧ Hid (BlkD wr w.heap.size d) ∧ Hid (∀ j, j < k → okN j (num d j) = true)) (fun vk _ => 9 - (intOf vk).toNat)
  case atStart => exact ⟨0, rfl, by omega, HB1.out, HK1.out, fun j hj => by omega⟩
  case round =>
    obtain ⟨k, rfl, hk, hB, hK, hA⟩ := hrel
    by_cases hlt : k < 9
    · have hix := nums_index w.heap.size hlt
      have hc := hK.out.numc hlt
      obtain ⟨f0, f1, f2⟩ := (HG.out.below hB.out).fmt hlt
      have hN := Lib.hid (fun W => isNumber_any (num d k) k hlt (HD.out k hlt) W)
      have HA := Lib.hid (fun h => all_step hA.out (k := k) h)
      have HN := Lib.hid (fun h => H5.out k hlt h)
      generalize okN k (num d k) = b at hN HA HN
      generalize num d k = n at hc hN
      go_wp2
      have k1 : (k : Int) < 9 := by omega
      have k0 : (0 : Int) ≤ (k : Int) := by omega
      go_still_tail 6, (by kernel_rfl)
      change wpList _ _ _ _ _ wr.drew
      have hBd := Lib.hid (below_drew hB.out)
      have hKd : Hid (BlkD wr.drew w.heap.size d) := hK.out
      clear hix hc f0 f1 f2 k1 k0
      go_wp2_with fail
      refine (hN.out _).mono ?_
      rintro e w2 ⟨rfl, hB2⟩
      have HB2 := Lib.hid (hBd.out.trans (hB2.mono hBd.out.size))
      have HK2 := Lib.hid (hKd.out.below hB2 hKd.out.lt)
      clear hB2 hN
      cases b
      · replace HN := Lib.hid (HN.out rfl)
        clear HA
        go_wp2
        go_ret
        rw [HN.out]
        exact ⟨rfl, HB2.out⟩
      · replace HA := Lib.hid (HA.out rfl)
        clear HN
        go_wp2
        exact ⟨⟨k + 1, by go_num, by omega, HB2, HK2, HA⟩, by simp [intOf]; omega⟩
    · obtain rfl : k = 9 := by omega
      replace H6 := Lib.hid (H6.out hA.out)
      clear hA H5 hk hlt
      have x9 := hK.out.txtc (k := 0) (by omega)
      have x10 := hK.out.txtc (k := 1) (by omega)
      have x11 := hK.out.txtc (k := 2) (by omega)
      have x12 := hK.out.txtc (k := 3) (by omega)
      have b0 := HB.out 0 (by omega)
      have b1 := HB.out 1 (by omega)
      have b2 := HB.out 2 (by omega)
      have b3 := HB.out 3 (by omega)
      simp only [txt, Nat.add_zero, Nat.reduceAdd] at x9 x10 x11 x12 b0 b1 b2 b3
      have hV := Lib.hid (fun W => ValidM d.nm b0 W)
      have s1 := mk_size d.ui
      have s2 := mk_size d.gi
      have s3 := mk_size d.mu
      unfold maxLen at b1 b2 b3
      have hs : shortB d = decide ((mk d.ui).size ≤ 64 ∧ (mk d.gi).size ≤ 64 ∧ (mk d.mu).size ≤ 64) := by rw [s1, s2, s3]; rfl
      have hnc := name_cases d.nm
      rw [← s1] at b1
      rw [← s2] at b2
      rw [← s3] at b3
      clear s1 s2 s3 b0
      generalize d.nm = nm at *
      generalize d.ui = ui at *
      generalize d.gi = gi at *
      generalize d.mu = mu at *
      rcases hnc with ⟨n1, n2, n3⟩ | ⟨n1, n2, n3, n4⟩ | ⟨n1, n2, n3, n4⟩
      · have hr : res = if shortB d = true then 0 else 6 := by rw [H6.out, n3, Bool.true_and]
        rw [hs] at hr
        replace hr := Lib.hid hr
        clear H6 n3 hs hV
        go_wp2
        all_goals go_ret
        all_goals (rw [hr.out]; refine ⟨ret1 ?_, hB.out⟩; clear hr; simp only [decide_eq_true_eq]; (repeat' split) <;> (try rfl) <;> exfalso <;> (repeat' split at *) <;> omega)
      · have hr : res = if shortB d = true then 0 else 6 := by rw [H6.out, n4, Bool.true_and]
        rw [hs] at hr
        replace hr := Lib.hid hr
        clear H6 n4 hs hV
        go_wp2
        all_goals go_ret
        all_goals (rw [hr.out]; refine ⟨ret1 ?_, hB.out⟩; clear hr; simp only [decide_eq_true_eq]; (repeat' split) <;> (try rfl) <;> exfalso <;> (repeat' split at *) <;> omega)
      · rw [n4] at H6
        clear n4
        generalize validL nm = vv at hV H6
        cases vv
        · have hr : Hid (res = 6) := H6.out
          clear H6 hs
          go_wp2_with (go_at_call 84; refine (hV.out _).mono ?_; rintro e w' ⟨rfl, rfl⟩)
          go_ret
          rw [hr.out]
          exact ⟨rfl, hB.out⟩
        · have hr : res = if shortB d = true then 0 else 6 := by rw [H6.out, Bool.true_and]
          rw [hs] at hr
          replace hr := Lib.hid hr
          clear H6 hs
          go_wp2_with (go_at_call 84; refine (hV.out _).mono ?_; rintro e w' ⟨rfl, rfl⟩)
          all_goals go_ret
          all_goals (rw [hr.out]; refine ⟨ret1 ?_, hB.out⟩; clear hr; simp only [decide_eq_true_eq]; (repeat' split) <;> (try rfl) <;> exfalso <;> (repeat' split at *) <;> omega)
end Go.Proofs.YtlfdmbfbfadifaaGreatDoor.St

namespace Go.Proofs.YtlfdmbfbfadifaaGreatDoor.St
open Go.RowKit

theorem in_lit (n : Int) (g : Nat) (gi : Int) (h : gi = (g : Int)) (hn : inI n) (w : World) :
    Calls Tryz.prog 96 #[.int .i64 n, .int .i64 gi] w fun e w' => e = .returned (.bool (inB n g)) ∧ w = w' := by rw [h]; exact in_any n g hn w
theorem sum_lit (n : Int) (g : Nat) (gi : Int) (h : gi = (g : Int)) (hn : inI n) (hg : g < 9223372036854775808) (w : World) :
    Calls Tryz.prog 95 #[.int .i64 n, .int .i64 gi] w fun e w' => e = .returned (.bool (sumB n g)) ∧ w = w' := by rw [h]; exact sum_any n g hn hg w
theorem allN_eq (d : DD) : ∀ b0 b1 b2 b3 b4 b5 b6 b7 b8, inB d.ty 65534 = b0 → inB d.dv 4294967294 = b1 → sumB d.qt 232 = b2 → inB d.qv 2147483647 = b3 → inB d.qp 1099511627776 = b4 → sumB d.mo 3892314623 = b5 → inB d.ai 1099511627776 = b6 → inB d.mi 1099511627776 = b7 → inB d.ln 9007199254740991 = b8 →
    allN d = (b0 && (b1 && (b2 && (b3 && (b4 && (b5 && (b6 && (b7 && b8)))))))) := by
  rintro _ _ _ _ _ _ _ _ _ rfl rfl rfl rfl rfl rfl rfl rfl rfl; rfl

set_option maxRecDepth 100000 in
set_option maxHeartbeats 6400000 in
theorem Numbers_any (d : DD) (hd : inD d) (w : World) :
    Calls Tryz.prog 94 #[dirV d] w fun e w' => e = .returned (.bool (allN d)) ∧ Below w.heap.size w w' := by
  unfold dirV
  have HB0 := Lib.hid (fun ca => (Below.refl _ w).alloc (Nat.le_refl _) (.cells ca 27))
  have c0 := Lib.hid (fun W => in_lit d.ty 65534 65534 rfl (hd 0 (by omega)) W)
  have c1 := Lib.hid (fun W => in_lit d.dv 4294967294 4294967294 rfl (hd 1 (by omega)) W)
  have c2 := Lib.hid (fun W => sum_lit d.qt 232 232 rfl (hd 2 (by omega)) (by omega) W)
  have c3 := Lib.hid (fun W => in_lit d.qv 2147483647 2147483647 rfl (hd 3 (by omega)) W)
  have c4 := Lib.hid (fun W => in_lit d.qp 1099511627776 1099511627776 rfl (hd 4 (by omega)) W)
  have c5 := Lib.hid (fun W => sum_lit d.mo 3892314623 3892314623 rfl (hd 5 (by omega)) (by omega) W)
  have c6 := Lib.hid (fun W => in_lit d.ai 1099511627776 1099511627776 rfl (hd 6 (by omega)) W)
  have c7 := Lib.hid (fun W => in_lit d.mi 1099511627776 1099511627776 rfl (hd 7 (by omega)) W)
  have c8 := Lib.hid (fun W => in_lit d.ln 9007199254740991 9007199254740991 rfl (hd 8 (by omega)) W)
  have HR := Lib.hid (allN_eq d _ _ _ _ _ _ _ _ _ rfl rfl rfl rfl rfl rfl rfl rfl rfl)
  generalize allN d = res at HR ⊢
  have x0 : (cellsA d)[0]? = some (.int .i64 d.ty) := rfl
  have x1 : (cellsA d)[1]? = some (.int .i64 d.dv) := rfl
  have x2 : (cellsA d)[2]? = some (.int .i64 d.qt) := rfl
  have x3 : (cellsA d)[3]? = some (.int .i64 d.qv) := rfl
  have x4 : (cellsA d)[4]? = some (.int .i64 d.qp) := rfl
  have x5 : (cellsA d)[5]? = some (.int .i64 d.mo) := rfl
  have x6 : (cellsA d)[6]? = some (.int .i64 d.ai) := rfl
  have x7 : (cellsA d)[7]? = some (.int .i64 d.mi) := rfl
  have x8 : (cellsA d)[8]? = some (.int .i64 d.ln) := rfl
  clear hd
  generalize cellsA d = ca at *
  generalize d.ty = n0 at *
  generalize d.dv = n1 at *
  generalize d.qt = n2 at *
  generalize d.qv = n3 at *
  generalize d.qp = n4 at *
  generalize d.mo = n5 at *
  generalize d.ai = n6 at *
  generalize d.mi = n7 at *
  generalize d.ln = n8 at *
  generalize inB n0 65534 = b0 at *
  generalize inB n1 4294967294 = b1 at *
  generalize sumB n2 232 = b2 at *
  generalize inB n3 2147483647 = b3 at *
  generalize inB n4 1099511627776 = b4 at *
  generalize sumB n5 3892314623 = b5 at *
  generalize inB n6 1099511627776 = b6 at *
  generalize inB n7 1099511627776 = b7 at *
  generalize inB n8 9007199254740991 = b8 at *
  go_enter Tryz.func94, Tryz.ntmps94
  go_wp2_with (first
    | (go_at_call 95; first | (with_reducible refine (c2.out _).mono ?_; rintro e w' ⟨rfl, rfl⟩) | (with_reducible refine (c5.out _).mono ?_; rintro e w' ⟨rfl, rfl⟩))
    | (go_at_call 96; first | (with_reducible refine (c0.out _).mono ?_; rintro e w' ⟨rfl, rfl⟩) | (with_reducible refine (c1.out _).mono ?_; rintro e w' ⟨rfl, rfl⟩) | (with_reducible refine (c3.out _).mono ?_; rintro e w' ⟨rfl, rfl⟩) | (with_reducible refine (c4.out _).mono ?_; rintro e w' ⟨rfl, rfl⟩) | (with_reducible refine (c6.out _).mono ?_; rintro e w' ⟨rfl, rfl⟩) | (with_reducible refine (c7.out _).mono ?_; rintro e w' ⟨rfl, rfl⟩) | (with_reducible refine (c8.out _).mono ?_; rintro e w' ⟨rfl, rfl⟩)))
  all_goals (go_ret; clear c0 c1 c2 c3 c4 c5 c6 c7 c8 x0 x1 x2 x3 x4 x5 x6 x7 x8; rw [HR.out]; refine ⟨retb ?_, HB0.out _⟩; clear HR HB0; simp_all)

theorem RCheck_eq (d : DD) {b : Bool} (h : allN d = b) : checkR d = if b then (if nameOk d.nm && shortB d then 0 else 6) else 5 := by rw [← h]; rfl

set_option maxRecDepth 100000 in
set_option maxHeartbeats 3200000 in
theorem RCheck_any (d : DD) (hd : inD d) (hb : bigD d) (w : World) :
    Calls Tryz.prog 88 #[dirV d] w fun e w' => e = .returned (.int .i64 (checkR d)) ∧ Below w.heap.size w w' := by
  have hB0 : Below w.heap.size w (w.alloc (.cells (cellsA d) 27)) := (Below.refl _ w).alloc (Nat.le_refl _) _
  have hK0 := BlkD.new w d
  have hN := Lib.hid (Numbers_any d hd)
  unfold dirV at hN ⊢
  have H6 := Lib.hid (fun b h => RCheck_eq d (b := b) h)
  replace H6 := Lib.hid (H6.out _ rfl)
  generalize checkR d = res at H6 ⊢
  generalize allN d = bn at H6 hN
  have hsz : (w.alloc (.cells (cellsA d) 27)).heap.size = w.heap.size + 1 := by simp
  have HB := Lib.hid hb
  have hld := Lib.hid (run_loadVar_row (P := Tryz.prog) _ _ _ 27 _ _ _ hK0 Tryz.underlying27 rfl (by kernel_rfl))
  clear hd hb
  have HK0 := Lib.hid hK0
  have HB0 := Lib.hid hB0
  replace hsz := Lib.hid hsz
  clear hB0 hK0
  cases bn
  · have hr : Hid (res = 5) := H6.out
    go_enter Tryz.func88, Tryz.ntmps88
    go_wp2_with (refine wpList_load_row rfl 27 _ rfl w.heap.size rfl 27 (cellsA d) (0, 0) _ HK0.out Tryz.underlying27 rfl (by kernel_rfl) ?_)
    refine (hN.out _).mono ?_
    rintro e w1 ⟨rfl, hB1⟩
    have HB1 := Lib.hid (HB0.out.trans (hB1.mono (by rw [hsz.out]; omega)))
    clear hB1
    go_wp2
    go_ret
    rw [hr.out]
    exact ⟨rfl, HB1.out⟩
  · have h6 : res = if (nameOk d.nm && shortB d) = true then 0 else 6 := H6.out
    clear H6
    have b0 := HB.out 0 (by omega)
    have b1 := HB.out 1 (by omega)
    have b2 := HB.out 2 (by omega)
    have b3 := HB.out 3 (by omega)
    simp only [txt] at b0 b1 b2 b3
    have hV := Lib.hid (fun W => RValidM d.nm b0 W)
    have s1 := mk_size d.ui
    have s2 := mk_size d.gi
    have s3 := mk_size d.mu
    unfold maxLen at b1 b2 b3
    have hs : shortB d = decide ((mk d.ui).size ≤ 64 ∧ (mk d.gi).size ≤ 64 ∧ (mk d.mu).size ≤ 64) := by rw [s1, s2, s3]; rfl
    have hnc := name_cases d.nm
    rw [← s1] at b1
    rw [← s2] at b2
    rw [← s3] at b3
    clear s1 s2 s3 b0
    have hcell : Hid (∀ w1, Below (w.alloc (.cells (cellsA d) 27)).heap.size (w.alloc (.cells (cellsA d) 27)) w1 → (w1.cell? ⟨w.heap.size, 9, none⟩ = some (.string (mk d.nm)) ∧ w1.cell? ⟨w.heap.size, 10, none⟩ = some (.string (mk d.ui))) ∧ w1.cell? ⟨w.heap.size, 11, none⟩ = some (.string (mk d.gi)) ∧ w1.cell? ⟨w.heap.size, 12, none⟩ = some (.string (mk d.mu))) := fun w1 hB => by
      have h := HK0.out.below hB (by rw [hsz.out]; omega)
      exact ⟨⟨h.txtc (k := 0) (by omega), h.txtc (k := 1) (by omega)⟩, h.txtc (k := 2) (by omega), h.txtc (k := 3) (by omega)⟩
    generalize d.nm = nm at *
    generalize d.ui = ui at *
    generalize d.gi = gi at *
    generalize d.mu = mu at *
    go_enter Tryz.func88, Tryz.ntmps88
    go_wp2_with (refine wpList_load_row rfl 27 _ rfl w.heap.size rfl 27 (cellsA d) (0, 0) _ HK0.out Tryz.underlying27 rfl (by kernel_rfl) ?_)
    refine (hN.out _).mono ?_
    rintro e w1 ⟨rfl, hB1⟩
    have HB1 := Lib.hid (HB0.out.trans (hB1.mono (by rw [hsz.out]; omega)))
    obtain ⟨⟨x9, x10⟩, x11, x12⟩ := hcell.out w1 hB1
    clear hB1 hcell hN
    rcases hnc with ⟨n1, n2, n3⟩ | ⟨n1, n2, n3, n4⟩ | ⟨n1, n2, n3, n4⟩
    · have hr : res = if shortB d = true then 0 else 6 := by rw [h6, n3, Bool.true_and]
      rw [hs] at hr
      replace hr := Lib.hid hr
      clear h6 n3 hs hV
      go_wp2
      all_goals go_ret
      all_goals (rw [hr.out]; refine ⟨ret1 ?_, HB1.out⟩; clear hr; simp only [decide_eq_true_eq]; (repeat' split) <;> (try rfl) <;> exfalso <;> simp_all <;> omega)
    · have hr : res = if shortB d = true then 0 else 6 := by rw [h6, n4, Bool.true_and]
      rw [hs] at hr
      replace hr := Lib.hid hr
      clear h6 n4 hs hV
      go_wp2
      all_goals go_ret
      all_goals (rw [hr.out]; refine ⟨ret1 ?_, HB1.out⟩; clear hr; simp only [decide_eq_true_eq]; (repeat' split) <;> (try rfl) <;> exfalso <;> simp_all <;> omega)
    · rw [n4] at h6
      clear n4
      generalize validL nm = vv at hV h6
      cases vv
      · have hr : Hid (res = 6) := h6
        clear h6 hs
        go_wp2_with (go_at_call 87; refine (hV.out _).mono ?_; rintro e w' ⟨rfl, rfl⟩)
        go_ret
        rw [hr.out]
        exact ⟨rfl, HB1.out⟩
      · have hr : res = if shortB d = true then 0 else 6 := by rw [h6, Bool.true_and]
        rw [hs] at hr
        replace hr := Lib.hid hr
        clear h6 hs
        go_wp2_with (go_at_call 87; refine (hV.out _).mono ?_; rintro e w' ⟨rfl, rfl⟩)
        all_goals go_ret
        all_goals (rw [hr.out]; refine ⟨ret1 ?_, HB1.out⟩; clear hr; simp only [decide_eq_true_eq]; (repeat' split) <;> (try rfl) <;> exfalso <;> simp_all <;> omega)
end Go.Proofs.YtlfdmbfbfadifaaGreatDoor.St

namespace Go.Proofs.YtlfdmbfbfadifaaGreatDoor.St
open Go.RowKit

theorem cellsA_setN (d : DD) {k : Nat} (hk : k < 9) (v : Int) : (cellsA d).setIfInBounds k (.int .i64 v) = cellsA (setN d k v) := by
  rcases k9 hk with rfl | rfl | rfl | rfl | rfl | rfl | rfl | rfl | rfl <;> rfl
theorem cellsA_setT (d : DD) {k : Nat} (hk : k < 4) (x : List UInt8) : (cellsA d).setIfInBounds (9 + k) (.string (mk x)) = cellsA (setT d k x) := by
  rcases k4 hk with rfl | rfl | rfl | rfl <;> rfl
theorem BlkD.setN {w : World} {b : Nat} {d : DD} (h : BlkD w b d) {k : Nat} (hk : k < 9) (v : Int) : BlkD (w.setCell ⟨b, k, none⟩ (.int .i64 v)) b (setN d k v) := by
  have := heap_setCell_same w b k (cellsA d) 27 (.int .i64 v) h
  rw [cellsA_setN d hk v] at this
  exact this
theorem BlkD.setT {w : World} {b : Nat} {d : DD} (h : BlkD w b d) {k : Nat} (hk : k < 4) (x : List UInt8) : BlkD (w.setCell ⟨b, 9 + k, none⟩ (.string (mk x))) b (setT d k x) := by
  have := heap_setCell_same w b (9 + k) (cellsA d) 27 (.string (mk x)) h
  rw [cellsA_setT d hk x] at this
  exact this
theorem BlkD.apart {w : World} {b : Nat} {d : DD} (h : BlkD w b d) {a : Addr} (ha : b ≠ a.block) (v : Value) : BlkD (w.setCell a v) b d := (heap_setCell_other w a b v ha).trans h
theorem BlkD.setRow {w : World} {b : Nat} {d : DD} (h : BlkD w b d) (e : DD) : BlkD (w.setRow b (cellsA e)) b e := setRow_heap w b _ _ _ _ h
theorem below_setRow {B : Nat} {a w : World} (h : Below B a w) {g : Nat} (hg : B ≤ g) (cs : Array Value) : Below B a (w.setRow g cs) :=
  ⟨h.os, h.tape, h.output, by simp [World.setRow]; exact h.size, fun k hk => by
    have := h.block k hk
    rw [← this]
    simp only [World.setRow, Array.getElem?_modify]
    rw [if_neg (by omega)]⟩

/-- Two descriptions are the same. -/
def eqB (d e : DD) : Bool := d.ty == e.ty && (d.dv == e.dv && ((d.qt == e.qt && (d.qv == e.qv && d.qp == e.qp)) && (d.mo == e.mo && (d.ai == e.ai && (d.mi == e.mi && (d.ln == e.ln &&
  (d.nm == e.nm && (d.ui == e.ui && (d.gi == e.gi && d.mu == e.mu)))))))))
theorem eqB_self (d : DD) : eqB d d = true := by simp [eqB]

theorem eqF_cons {P : Program} {n : Nat} {f : Field} {fs : List Field} {xs ys : Array Value} {a b : Value} {r s : Bool} {w : World} (hn : (f.name == "_") = false) (ha : (part f.type xs f.offset).run P w = .ok a w)
    (hb : (part f.type ys f.offset).run P w = .ok b w) (he : (Op.equalIn n f.type a b).run P w = .ok r w) (hs : (Op.eqFields n xs ys fs).run P w = .ok s w) : (Op.eqFields n xs ys (f :: fs)).run P w = .ok (r && s) w := by
  have hn' : f.name ≠ "_" := by simpa using hn
  simp only [Op.eqFields, Sem.run_bind, Sem.run_ite, ha, hb, he, Result.andThen_ok]
  cases r
  · simp [hn']
  · simpa [hn'] using hs
theorem part_int (d : DD) (w : World) {k : Nat} {v : Int} (h : (cellsA d)[k]? = some (.int .i64 v)) : (part 3 (cellsA d) k).run Tryz.prog w = .ok (.int .i64 v) w := by
  have := (show (isAgg 3).run Tryz.prog w = .ok false w by kernel_rfl)
  simp [part, Sem.run_bind, this, h]
theorem part_str (d : DD) (w : World) {k : Nat} {v : List UInt8} (h : (cellsA d)[k]? = some (.string (mk v))) : (part 9 (cellsA d) k).run Tryz.prog w = .ok (.string (mk v)) w := by
  have := (show (isAgg 9).run Tryz.prog w = .ok false w by kernel_rfl)
  simp [part, Sem.run_bind, this, h]
theorem part_qid (d : DD) (w : World) : (part 25 (cellsA d) 2).run Tryz.prog w = .ok (.agg #[.int .i64 d.qt, .int .i64 d.qv, .int .i64 d.qp]) w := by
  show _ = _
  kernel_rfl
theorem eq_int (a b : Int) (n : Nat) (w : World) : (Op.equalIn (n + 1) 3 (.int .i64 a) (.int .i64 b)).run Tryz.prog w = .ok (a == b) w := run_equalIn_int w n _ _ _ _ _ Tryz.underlying3
theorem eq_str (a b : List UInt8) (n : Nat) (w : World) : (Op.equalIn (n + 1) 9 (.string (mk a)) (.string (mk b))).run Tryz.prog w = .ok (a == b) w := by
  rw [run_equalIn_string w n _ _ _ Tryz.underlying9, mk_toList, mk_toList]
theorem eqF_nil {P : Program} {n : Nat} {xs ys : Array Value} {w : World} : (Op.eqFields n xs ys []).run P w = .ok true w := by simp [Op.eqFields]
theorem part_q (a b c : Int) (w : World) {k : Nat} {v : Int} (h : (#[.int .i64 a, .int .i64 b, .int .i64 c] : Array Value)[k]? = some (.int .i64 v)) : (part 3 #[.int .i64 a, .int .i64 b, .int .i64 c] k).run Tryz.prog w = .ok (.int .i64 v) w := by
  have := (show (isAgg 3).run Tryz.prog w = .ok false w by kernel_rfl)
  simp [part, Sem.run_bind, this, h]
theorem equal_qid (a b c a' b' c' : Int) (n : Nat) (w : World) : (Op.equalIn (n + 2) 25 (.agg #[.int .i64 a, .int .i64 b, .int .i64 c]) (.agg #[.int .i64 a', .int .i64 b', .int .i64 c'])).run Tryz.prog w = .ok (a == a' && (b == b' && (c == c' && true))) w := by
  rw [run_equalIn_agg w _ _ _ _ (by kernel_rfl) (by kernel_rfl)]
  unfold Program.fieldsOf
  rw [Tryz.underlying25]
  exact eqF_cons rfl (part_q _ _ _ _ rfl) (part_q _ _ _ _ rfl) (eq_int _ _ _ _) (eqF_cons rfl (part_q _ _ _ _ rfl) (part_q _ _ _ _ rfl) (eq_int _ _ _ _) (eqF_cons rfl (part_q _ _ _ _ rfl) (part_q _ _ _ _ rfl) (eq_int _ _ _ _) eqF_nil))

theorem equal_dir (d e : DD) (n : Nat) (w : World) : (Op.equalIn (n + 3) 27 (.agg (cellsA d)) (.agg (cellsA e))).run Tryz.prog w = .ok (eqB d e) w := by
  rw [run_equalIn_agg w _ _ _ _ (by kernel_rfl) (by kernel_rfl)]
  unfold Program.fieldsOf
  rw [Tryz.underlying27]
  dsimp only
  refine Eq.trans (eqF_cons rfl (part_int d w rfl) (part_int e w rfl) (eq_int _ _ (n + 1) w) (eqF_cons rfl (part_int d w rfl) (part_int e w rfl) (eq_int _ _ (n + 1) w) (eqF_cons rfl (part_qid d w) (part_qid e w) (equal_qid _ _ _ _ _ _ n w) (eqF_cons rfl (part_int d w rfl) (part_int e w rfl) (eq_int _ _ (n + 1) w) (eqF_cons rfl (part_int d w rfl) (part_int e w rfl) (eq_int _ _ (n + 1) w) (eqF_cons rfl (part_int d w rfl) (part_int e w rfl) (eq_int _ _ (n + 1) w) (eqF_cons rfl (part_int d w rfl) (part_int e w rfl) (eq_int _ _ (n + 1) w) (eqF_cons rfl (part_str d w rfl) (part_str e w rfl) (eq_str _ _ (n + 1) w) (eqF_cons rfl (part_str d w rfl) (part_str e w rfl) (eq_str _ _ (n + 1) w) (eqF_cons rfl (part_str d w rfl) (part_str e w rfl) (eq_str _ _ (n + 1) w) (eqF_cons rfl (part_str d w rfl) (part_str e w rfl) (eq_str _ _ (n + 1) w) (eqF_nil)))))))))))) ?_
  unfold eqB
  simp only [Bool.and_true]
theorem eql_dir (d e : DD) (w : World) : (binOp .eql 27 (.agg (cellsA d)) (.agg (cellsA e))).run Tryz.prog w = .ok (.bool (eqB d e)) w := by
  rw [run_eql_struct, equal_dir d e 9997 w]; rfl
theorem neq_dir (d e : DD) (w : World) : (binOp .neq 27 (.agg (cellsA d)) (.agg (cellsA e))).run Tryz.prog w = .ok (.bool (!(eqB d e))) w := by
  rw [run_neq_struct, equal_dir d e 9997 w]; rfl
theorem guard_dir (op : BinOp) (x y : Operand) (d e : DD) (w : World) : (eqGuard op 27 x y (.agg (cellsA d)) (.agg (cellsA e))).run Tryz.prog w = .ok () w :=
  run_eqGuard_agg w op _ x y _ _ (by kernel_rfl)

/-! ### None -/
def noneD : DD := ⟨-1, -1, -1, -1, -1, -1, -1, -1, -1, [], [], [], []⟩
/-- Its first k numbers are Keep. -/
def keepD : Nat → DD
  | 0 => noD
  | k + 1 => setN (keepD k) k (-1)

end Go.Proofs.YtlfdmbfbfadifaaGreatDoor.St
