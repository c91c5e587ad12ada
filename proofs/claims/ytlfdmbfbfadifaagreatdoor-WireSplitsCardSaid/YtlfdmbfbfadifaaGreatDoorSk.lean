/-
  The reference's little, counted and Put.
  The reference's Put.
-/
import Derived.Test.YtlfdmbfbfadifaaGreatDoorSd
import Derived.Deep.RegionHeld3
import Derived.Lib.AppendStr
namespace Go.Proofs.YtlfdmbfbfadifaaGreatDoor.St
open Go.RowKit

theorem shrZ (n : Int) (j : Nat) : n / 2 ^ (8 * j) = n / ((256 ^ j : Nat) : Int) := by
  congr 1
  rw [show (256 : Nat) = 2 ^ 8 from rfl, ← Nat.pow_mul]; simp
theorem byteZ (x : Int) : x % 256 = ((UInt8.ofNat (x % 256).toNat).toNat : Int) := by
  simp; omega

set_option maxRecDepth 100000 in
set_option maxHeartbeats 800000 in
theorem little_any (n : Int) (hn : inI n) (k : Nat) (hk8 : k ≤ 8) (w : World) :
    Calls Tryz.prog 89 #[.int .i64 n, .int .i64 (k : Int)] w fun e w' => e = .returned (.string (mk (leZ k n))) ∧ Below w.heap.size w w' := by
  obtain ⟨hn1, hn2⟩ := hn
  go_enter Tryz.func89, Tryz.ntmps89
  go_wp2
  go_loopw [5, 6] (fun vs vj wr => ∃ (j : Nat) (l : List UInt8), vj = .int .i64 (j : Int) ∧ vs = .string (mk l) ∧ j ≤ k ∧ (mk l).size ≤ 8 ∧ Hid (l = leZ j n) ∧ Hid (Below w.heap.size w wr)) (fun _ vj _ => k - (intOf vj).toNat)
  case atStart => exact ⟨0, [], rfl, rfl, by omega, by simp [mk_size], (rfl : [] = leZ 0 n), Below.refl _ _⟩
  case round =>
    obtain ⟨j, l, rfl, rfl, hj, hl8, hl, hb⟩ := hrel
    by_cases hjk : j < k
    · have h1 := string_one wr (UInt8.ofNat (n / 2 ^ (8 * j) % 256).toNat) (n / 2 ^ (8 * j) % 256) (byteZ _)
      go_wp2
      refine ⟨⟨j + 1, l ++ [UInt8.ofNat (n / 2 ^ (8 * j) % 256).toNat], by go_num, ?_, by omega, ?_, ?_, hb.out.alloc hb.out.size _⟩, by simp [intOf]; omega⟩
      · exact congrArg Value.string (mk_app l [UInt8.ofNat (n / 2 ^ (8 * j) % 256).toNat])
      · have h := hl.out; subst h; rw [mk_size]; simp [leZ_len]; omega
      · rw [Hid, leZ_snoc, hl.out, shrZ]
    · obtain rfl : j = k := by omega
      go_wp2
      go_ret
      rw [hl.out]
      exact ⟨rfl, hb.out⟩

theorem leZ_2 (l : List UInt8) : leZ 2 (l.length : Int) = le 2 l.length := leZ_nat 2 l.length
set_option maxHeartbeats 800000 in
theorem counted_any (l : List UInt8) (hl : l.length ≤ 9223372036854775805) (w : World) :
    Calls Tryz.prog 90 #[.string (mk l)] w fun e w' => e = .returned (.string (mk (counted l))) ∧ Below w.heap.size w w' := by
  have hs := mk_size l
  have hL := little_any ((mk l).size : Int) ⟨by omega, by omega⟩ 2 (by omega) w
  rw [hs, leZ_2] at hL
  rw [← hs] at hL
  have hz : (mk (le 2 (mk l).size)).size = 2 := by rw [mk_size, le_len]
  have hR : mk (le 2 (mk l).size) ++ mk l = mk (counted l) := by rw [mk_app, hs]; rfl
  replace hL := Lib.hid hL
  replace hR := Lib.hid hR
  rw [← hs] at hl
  clear hs
  generalize mk (counted l) = res at hR ⊢
  generalize mk (le 2 (mk l).size) = a at hL hz hR
  go_enter Tryz.func90, Tryz.ntmps90
  go_wp2_with fail
  refine hL.out.mono ?_
  rintro e w1 ⟨rfl, hB⟩
  replace hB := Lib.hid hB
  go_wp2
  go_ret
  rw [hR.out]
  exact ⟨rfl, hB.out⟩
end Go.Proofs.YtlfdmbfbfadifaaGreatDoor.St

namespace Go.Proofs.YtlfdmbfbfadifaaGreatDoor.St
open Go.RowKit

theorem add_mk {a b c : List UInt8} (h : a.length + b.length ≤ 100000000) (e : a ++ b = c) (W : World) : (Op.stringOp .add (mk a) (mk b)).run Tryz.prog W = .ok (.string (mk c)) W := by
  have h1 := mk_size a
  have h2 := mk_size b
  exact (run_string_add_sum W (mk a) (mk b) (by omega)).trans (by rw [mk_app, e])
theorem little_lit (n : Int) (hn : inI n) (k : Nat) (ki : Int) (h : ki = (k : Int)) (hk : k ≤ 8) (w : World) :
    Calls Tryz.prog 89 #[.int .i64 n, .int .i64 ki] w fun e w' => e = .returned (.string (mk (leZ k n))) ∧ Below w.heap.size w w' := by rw [h]; exact little_any n hn k hk w
/-- What Put comes to, the bytes in the order in which the reference puts them together. -/
theorem putS_parts {d : DD} (h : checkR d = 0) : ∀ z0 z1 z2 z3 z4 z5 z6 z7 z8 y0 y1 y2 y3, leZ 2 d.ty = z0 → leZ 4 d.dv = z1 → leZ 1 d.qt = z2 → leZ 4 d.qv = z3 → leZ 8 d.qp = z4 → leZ 4 d.mo = z5 → leZ 8 d.ai = z6 → leZ 8 d.mi = z7 → leZ 8 d.ln = z8 →
    counted d.nm = y0 → counted d.ui = y1 → counted d.gi = y2 → counted d.mu = y3 → (putS d).1 = counted ((((((((((z0 ++ z1) ++ ((z2 ++ z3) ++ z4)) ++ z5) ++ z6) ++ z7) ++ z8) ++ y0) ++ y1) ++ y2) ++ y3) ∧ (putS d).2 = 0 ∧
    z0.length = 2 ∧ z1.length = 4 ∧ z2.length = 1 ∧ z3.length = 4 ∧ z4.length = 8 ∧ z5.length = 4 ∧ z6.length = 8 ∧ z7.length = 8 ∧ z8.length = 8 ∧ y0.length ≤ 66 ∧ y1.length ≤ 66 ∧ y2.length ≤ 66 ∧ y3.length ≤ 66 := by
  rintro _ _ _ _ _ _ _ _ _ _ _ _ _ rfl rfl rfl rfl rfl rfl rfl rfl rfl rfl rfl rfl rfl
  have t0 := txt_le h (k := 0) (by omega)
  have t1 := txt_le h (k := 1) (by omega)
  have t2 := txt_le h (k := 2) (by omega)
  have t3 := txt_le h (k := 3) (by omega)
  simp only [txt] at t0 t1 t2 t3
  refine ⟨?_, by rw [putS, if_pos h], leZ_len _ _, leZ_len _ _, leZ_len _ _, leZ_len _ _, leZ_len _ _, leZ_len _ _, leZ_len _ _, leZ_len _ _, leZ_len _ _, ?_, ?_, ?_, ?_⟩
  · have e : body d = (((((((((leZ 2 d.ty ++ leZ 4 d.dv) ++ ((leZ 1 d.qt ++ leZ 4 d.qv) ++ leZ 8 d.qp)) ++ leZ 4 d.mo) ++ leZ 8 d.ai) ++ leZ 8 d.mi) ++ leZ 8 d.ln) ++ counted d.nm) ++ counted d.ui) ++ counted d.gi) ++ counted d.mu := by
      simp only [body, headB, tailB, fW, num, txt, List.append_assoc, List.nil_append]
    rw [putS, if_pos h, e]
  all_goals (rw [counted_len]; omega)

set_option maxRecDepth 100000 in
set_option maxHeartbeats 6400000 in
theorem RPut_any (d : DD) (hd : inD d) (hb : bigD d) (w : World) :
    Calls Tryz.prog 77 #[dirV d] w fun e w' => e = .returned (.tuple #[.string (mk (putS d).1), .int .i64 (putS d).2]) ∧ Below w.heap.size w w' := by
  have hB0 : Below w.heap.size w (w.alloc (.cells (cellsA d) 27)) := (Below.refl _ w).alloc (Nat.le_refl _) _
  have hK0 := BlkD.new w d
  have hsz : w.heap.size < (w.alloc (.cells (cellsA d) 27)).heap.size := by simp
  have hC := Lib.hid (RCheck_any d hd hb)
  have HB0 := Lib.hid hB0
  have HK0 := Lib.hid hK0
  replace hsz := Lib.hid hsz
  clear hB0 hK0
  by_cases h0 : checkR d = 0
  · have hp := putS_parts h0 _ _ _ _ _ _ _ _ _ _ _ _ _ rfl rfl rfl rfl rfl rfl rfl rfl rfl rfl rfl rfl rfl
    rw [h0] at hC
    unfold dirV at hC ⊢
    have L0 := Lib.hid (fun W => little_lit d.ty (hd 0 (by omega)) 2 2 rfl (by omega) W)
    have L1 := Lib.hid (fun W => little_lit d.dv (hd 1 (by omega)) 4 4 rfl (by omega) W)
    have L2 := Lib.hid (fun W => little_lit d.qt (hd 2 (by omega)) 1 1 rfl (by omega) W)
    have L3 := Lib.hid (fun W => little_lit d.qv (hd 3 (by omega)) 4 4 rfl (by omega) W)
    have L4 := Lib.hid (fun W => little_lit d.qp (hd 4 (by omega)) 8 8 rfl (by omega) W)
    have L5 := Lib.hid (fun W => little_lit d.mo (hd 5 (by omega)) 4 4 rfl (by omega) W)
    have L6 := Lib.hid (fun W => little_lit d.ai (hd 6 (by omega)) 8 8 rfl (by omega) W)
    have L7 := Lib.hid (fun W => little_lit d.mi (hd 7 (by omega)) 8 8 rfl (by omega) W)
    have L8 := Lib.hid (fun W => little_lit d.ln (hd 8 (by omega)) 8 8 rfl (by omega) W)
    have C0 := Lib.hid (fun W => counted_any d.nm (by have := txt_le h0 (k := 0) (by omega); simp only [txt] at this; omega) W)
    have C1 := Lib.hid (fun W => counted_any d.ui (by have := txt_le h0 (k := 1) (by omega); simp only [txt] at this; omega) W)
    have C2 := Lib.hid (fun W => counted_any d.gi (by have := txt_le h0 (k := 2) (by omega); simp only [txt] at this; omega) W)
    have C3 := Lib.hid (fun W => counted_any d.mu (by have := txt_le h0 (k := 3) (by omega); simp only [txt] at this; omega) W)
    have hcs := Lib.hid (fun (W' : World) (h : Below (w.alloc (.cells (cellsA d) 27)).heap.size (w.alloc (.cells (cellsA d) 27)) W') => cells13 (HK0.out.below h hsz.out))
    clear h0 hd hb
    generalize (putS d).1 = r1 at hp ⊢
    generalize (putS d).2 = r2 at hp ⊢
    generalize leZ 2 d.ty = z0 at *
    generalize leZ 4 d.dv = z1 at *
    generalize leZ 1 d.qt = z2 at *
    generalize leZ 4 d.qv = z3 at *
    generalize leZ 8 d.qp = z4 at *
    generalize leZ 4 d.mo = z5 at *
    generalize leZ 8 d.ai = z6 at *
    generalize leZ 8 d.mi = z7 at *
    generalize leZ 8 d.ln = z8 at *
    generalize counted d.nm = y0 at *
    generalize counted d.ui = y1 at *
    generalize counted d.gi = y2 at *
    generalize counted d.mu = y3 at *
    obtain ⟨hr1, rfl, l0, l1, l2, l3, l4, l5, l6, l7, l8, m0, m1, m2, m3⟩ := hp
    replace hr1 := Lib.hid hr1
    have q1 : ∀ W, (Op.stringOp .add (mk z2) (mk z3)).run Tryz.prog W = .ok (.string (mk (z2 ++ z3))) W := add_mk (by omega) rfl
    have q2 : ∀ W, (Op.stringOp .add (mk (z2 ++ z3)) (mk z4)).run Tryz.prog W = .ok (.string (mk ((z2 ++ z3) ++ z4))) W := add_mk (by simp; omega) rfl
    have hq : ((z2 ++ z3) ++ z4).length = 13 := by simp; omega
    generalize hQ : (z2 ++ z3) ++ z4 = q at *
    obtain ⟨s0, e0⟩ : ∃ s, s = z0 := ⟨_, rfl⟩
    obtain ⟨s1, e1⟩ : ∃ s, s = s0 ++ z1 := ⟨_, rfl⟩
    obtain ⟨s2, e2⟩ : ∃ s, s = s1 ++ q := ⟨_, rfl⟩
    obtain ⟨s3, e3⟩ : ∃ s, s = s2 ++ z5 := ⟨_, rfl⟩
    obtain ⟨s4, e4⟩ : ∃ s, s = s3 ++ z6 := ⟨_, rfl⟩
    obtain ⟨s5, e5⟩ : ∃ s, s = s4 ++ z7 := ⟨_, rfl⟩
    obtain ⟨s6, e6⟩ : ∃ s, s = s5 ++ z8 := ⟨_, rfl⟩
    obtain ⟨s7, e7⟩ : ∃ s, s = s6 ++ y0 := ⟨_, rfl⟩
    obtain ⟨s8, e8⟩ : ∃ s, s = s7 ++ y1 := ⟨_, rfl⟩
    obtain ⟨s9, e9⟩ : ∃ s, s = s8 ++ y2 := ⟨_, rfl⟩
    obtain ⟨s10, e10⟩ : ∃ s, s = s9 ++ y3 := ⟨_, rfl⟩
    have hR : r1 = counted s10 := by rw [hr1.out, e10, e9, e8, e7, e6, e5, e4, e3, e2, e1, e0]
    have k0 : s0.length ≤ 2 := by rw [e0]; omega
    have k1 : s1.length ≤ 6 := by rw [e1, List.length_append]; omega
    have k2 : s2.length ≤ 19 := by rw [e2, List.length_append]; omega
    have k3 : s3.length ≤ 23 := by rw [e3, List.length_append]; omega
    have k4 : s4.length ≤ 31 := by rw [e4, List.length_append]; omega
    have k5 : s5.length ≤ 39 := by rw [e5, List.length_append]; omega
    have k6 : s6.length ≤ 47 := by rw [e6, List.length_append]; omega
    have k7 : s7.length ≤ 113 := by rw [e7, List.length_append]; omega
    have k8 : s8.length ≤ 179 := by rw [e8, List.length_append]; omega
    have k9 : s9.length ≤ 245 := by rw [e9, List.length_append]; omega
    have k10 : s10.length ≤ 311 := by rw [e10, List.length_append]; omega
    have a1 : ∀ W, (Op.stringOp .add (mk s0) (mk z1)).run Tryz.prog W = .ok (.string (mk s1)) W := add_mk (by omega) e1.symm
    have a2 : ∀ W, (Op.stringOp .add (mk s1) (mk q)).run Tryz.prog W = .ok (.string (mk s2)) W := add_mk (by omega) e2.symm
    have a3 : ∀ W, (Op.stringOp .add (mk s2) (mk z5)).run Tryz.prog W = .ok (.string (mk s3)) W := add_mk (by omega) e3.symm
    have a4 : ∀ W, (Op.stringOp .add (mk s3) (mk z6)).run Tryz.prog W = .ok (.string (mk s4)) W := add_mk (by omega) e4.symm
    have a5 : ∀ W, (Op.stringOp .add (mk s4) (mk z7)).run Tryz.prog W = .ok (.string (mk s5)) W := add_mk (by omega) e5.symm
    have a6 : ∀ W, (Op.stringOp .add (mk s5) (mk z8)).run Tryz.prog W = .ok (.string (mk s6)) W := add_mk (by omega) e6.symm
    have a7 : ∀ W, (Op.stringOp .add (mk s6) (mk y0)).run Tryz.prog W = .ok (.string (mk s7)) W := add_mk (by omega) e7.symm
    have a8 : ∀ W, (Op.stringOp .add (mk s7) (mk y1)).run Tryz.prog W = .ok (.string (mk s8)) W := add_mk (by omega) e8.symm
    have a9 : ∀ W, (Op.stringOp .add (mk s8) (mk y2)).run Tryz.prog W = .ok (.string (mk s9)) W := add_mk (by omega) e9.symm
    have a10 : ∀ W, (Op.stringOp .add (mk s9) (mk y3)).run Tryz.prog W = .ok (.string (mk s10)) W := add_mk (by omega) e10.symm
    have hs := mk_size s10
    have hL := little_any ((mk s10).size : Int) ⟨by omega, by omega⟩ 2 (by omega)
    rw [hs, leZ_2] at hL
    rw [← hs] at hL
    have a11 : ∀ W, (Op.stringOp .add (mk (le 2 (mk s10).size)) (mk s10)).run Tryz.prog W = .ok (.string (mk r1)) W := add_mk (by rw [le_len]; omega) (by rw [hR, hs]; rfl)
    generalize mk (le 2 (mk s10).size) = ln at hL a11
    replace hL := Lib.hid hL
    obtain rfl := e0
    clear hR hs hr1 e1 e2 e3 e4 e5 e6 e7 e8 e9 e10 hQ l0 l1 l2 l3 l4 l5 l6 l7 l8 m0 m1 m2 m3 hq k0 k1 k2 k3 k4 k5 k6 k7 k8 k9 k10
    go_enter Tryz.func77, Tryz.ntmps77
    go_wp2_with (refine wpList_load_row rfl 27 _ rfl w.heap.size rfl 27 (cellsA d) (0, 0) _ HK0.out Tryz.underlying27 rfl (by kernel_rfl) ?_)
    refine (hC.out _).mono ?_
    rintro e V ⟨rfl, hBV⟩
    have HBV := Lib.hid hBV
    clear hBV hC
    go_wp2_with fail
    have HBVd := Lib.hid (below_drew HBV.out)
    have hkA := Lib.hid (fun W' h => And.intro ((hcs.out W' h).2.2.1) (And.intro ((hcs.out W' h).2.2.2.1) ((hcs.out W' h).2.2.2.2.1)))
    go_region_held3 (fun W' => W'.cell? ⟨w.heap.size, 2, none⟩ = some (.int .i64 d.qt) ∧ W'.cell? ⟨w.heap.size, 3, none⟩ = some (.int .i64 d.qv) ∧ W'.cell? ⟨w.heap.size, 4, none⟩ = some (.int .i64 d.qp)) (first | exact hkA.out _ HBVd.out | exact hkA.out _ HA0.out | exact hkA.out _ HA1.out | exact hkA.out _ HA2.out) (first | (go_at_call 89; with_reducible refine (L2.out _).mono ?_; rintro e WA0 ⟨rfl, hB⟩; have HA0 := Lib.hid (HBVd.out.trans (hB.mono HBVd.out.size)); clear hB) | (go_at_call 89; with_reducible refine (L3.out _).mono ?_; rintro e WA1 ⟨rfl, hB⟩; have HA1 := Lib.hid (HA0.out.trans (hB.mono HA0.out.size)); clear hB) | (go_at_call 89; with_reducible refine (L4.out _).mono ?_; rintro e WA2 ⟨rfl, hB⟩; have HA2 := Lib.hid (HA1.out.trans (hB.mono HA1.out.size)); clear hB))
    have HQ1 := Lib.hid HA2.out
    clear hkA HBVd HA0 HA1 HA2
    go_wp2_with fail
    have HQ1d := Lib.hid (below_drew HQ1.out)
    have hkB := Lib.hid (fun W' h => And.intro ((hcs.out W' h).1) (And.intro ((hcs.out W' h).2.1) (And.intro ((hcs.out W' h).2.2.2.2.2.1) (And.intro ((hcs.out W' h).2.2.2.2.2.2.1) (And.intro ((hcs.out W' h).2.2.2.2.2.2.2.1) ((hcs.out W' h).2.2.2.2.2.2.2.2.1))))))
    go_region_held3 (fun W' => W'.cell? ⟨w.heap.size, 0, none⟩ = some (.int .i64 d.ty) ∧ W'.cell? ⟨w.heap.size, 1, none⟩ = some (.int .i64 d.dv) ∧ W'.cell? ⟨w.heap.size, 5, none⟩ = some (.int .i64 d.mo) ∧ W'.cell? ⟨w.heap.size, 6, none⟩ = some (.int .i64 d.ai) ∧ W'.cell? ⟨w.heap.size, 7, none⟩ = some (.int .i64 d.mi) ∧ W'.cell? ⟨w.heap.size, 8, none⟩ = some (.int .i64 d.ln)) (first | exact hkB.out _ HQ1d.out | exact hkB.out _ HB0.out | exact hkB.out _ HB1.out | exact hkB.out _ HB2.out | exact hkB.out _ HB3.out | exact hkB.out _ HB4.out | exact hkB.out _ HB5.out) (first | (go_at_call 89; with_reducible refine (L0.out _).mono ?_; rintro e WB0 ⟨rfl, hB⟩; have HB0 := Lib.hid (HQ1d.out.trans (hB.mono HQ1d.out.size)); clear hB) | (go_at_call 89; with_reducible refine (L1.out _).mono ?_; rintro e WB1 ⟨rfl, hB⟩; have HB1 := Lib.hid (HB0.out.trans (hB.mono HB0.out.size)); clear hB) | (go_at_call 89; with_reducible refine (L5.out _).mono ?_; rintro e WB2 ⟨rfl, hB⟩; have HB2 := Lib.hid (HB1.out.trans (hB.mono HB1.out.size)); clear hB) | (go_at_call 89; with_reducible refine (L6.out _).mono ?_; rintro e WB3 ⟨rfl, hB⟩; have HB3 := Lib.hid (HB2.out.trans (hB.mono HB2.out.size)); clear hB) | (go_at_call 89; with_reducible refine (L7.out _).mono ?_; rintro e WB4 ⟨rfl, hB⟩; have HB4 := Lib.hid (HB3.out.trans (hB.mono HB3.out.size)); clear hB) | (go_at_call 89; with_reducible refine (L8.out _).mono ?_; rintro e WB5 ⟨rfl, hB⟩; have HB5 := Lib.hid (HB4.out.trans (hB.mono HB4.out.size)); clear hB))
    have HQ2 := Lib.hid HB5.out
    clear hkB HQ1d HB0 HB1 HB2 HB3 HB4 HB5
    go_wp2_with fail
    have HQ2d := Lib.hid (below_drew HQ2.out)
    have hkC := Lib.hid (fun W' h => And.intro ((hcs.out W' h).2.2.2.2.2.2.2.2.2.1) (And.intro ((hcs.out W' h).2.2.2.2.2.2.2.2.2.2.1) (And.intro ((hcs.out W' h).2.2.2.2.2.2.2.2.2.2.2.1) ((hcs.out W' h).2.2.2.2.2.2.2.2.2.2.2.2))))
    go_region_held3 (fun W' => W'.cell? ⟨w.heap.size, 9, none⟩ = some (.string (mk d.nm)) ∧ W'.cell? ⟨w.heap.size, 10, none⟩ = some (.string (mk d.ui)) ∧ W'.cell? ⟨w.heap.size, 11, none⟩ = some (.string (mk d.gi)) ∧ W'.cell? ⟨w.heap.size, 12, none⟩ = some (.string (mk d.mu))) (first | exact hkC.out _ HQ2d.out | exact hkC.out _ HC0.out | exact hkC.out _ HC1.out | exact hkC.out _ HC2.out | exact hkC.out _ HC3.out) (first | (go_at_call 90; with_reducible refine (C0.out _).mono ?_; rintro e WC0 ⟨rfl, hB⟩; have HC0 := Lib.hid (HQ2d.out.trans (hB.mono HQ2d.out.size)); clear hB) | (go_at_call 90; with_reducible refine (C1.out _).mono ?_; rintro e WC1 ⟨rfl, hB⟩; have HC1 := Lib.hid (HC0.out.trans (hB.mono HC0.out.size)); clear hB) | (go_at_call 90; with_reducible refine (C2.out _).mono ?_; rintro e WC2 ⟨rfl, hB⟩; have HC2 := Lib.hid (HC1.out.trans (hB.mono HC1.out.size)); clear hB) | (go_at_call 90; with_reducible refine (C3.out _).mono ?_; rintro e WC3 ⟨rfl, hB⟩; have HC3 := Lib.hid (HC2.out.trans (hB.mono HC2.out.size)); clear hB))
    have HQ3 := Lib.hid HC3.out
    clear hkC HQ2d HC0 HC1 HC2 HC3
    go_wp2_with fail
    refine (hL.out _).mono ?_
    rintro e W9 ⟨rfl, hB⟩
    have H9 := Lib.hid (HB0.out.trans ((HQ3.out.trans (hB.mono HQ3.out.size)).mono HB0.out.size))
    clear hB
    go_wp2
    go_ret2
    exact ⟨rfl, H9.out⟩
  · have hr : Hid (putS d = ([], checkR d)) := if_neg h0
    rw [hr.out]
    clear hr
    unfold dirV at hC ⊢
    generalize checkR d = c at *
    have hne : (c != 0) = true := by simpa using h0
    clear h0
    go_enter Tryz.func77, Tryz.ntmps77
    go_wp2_with (refine wpList_load_row rfl 27 _ rfl w.heap.size rfl 27 (cellsA d) (0, 0) _ HK0.out Tryz.underlying27 rfl (by kernel_rfl) ?_)
    refine (hC.out _).mono ?_
    rintro e V ⟨rfl, hBV⟩
    have HBV := Lib.hid (HB0.out.trans (hBV.mono HB0.out.size))
    clear hBV
    go_wp2
    go_ret2
    exact ⟨rfl, HBV.out⟩
end Go.Proofs.YtlfdmbfbfadifaaGreatDoor.St
