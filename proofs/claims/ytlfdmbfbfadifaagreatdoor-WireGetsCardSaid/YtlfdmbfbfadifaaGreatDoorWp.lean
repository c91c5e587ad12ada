/-
  Walks of package msg: look.
  Walks of package msg: hasOthers, Check.
-/
import Derived.Test.YtlfdmbfbfadifaaGreatDoorWo
import Derived.Deep.RegionHeld3
import Derived.Deep.QuietTactic
namespace Go.Proofs.YtlfdmbfbfadifaaGreatDoor
open Go.RowKit

theorem quiet_same {P : Program} {f : FuncId} {args : Array Value} {w : World} {n : Nat} {v : Value}
    (h : Calls P f args (w.drewN n) fun e w' => e = .returned v ∧ w.drewN n = w') : Calls P f args (w.drewN n) fun e w'' => e = .returned v ∧ ∃ m, w'' = w.drewN m :=
  h.mono fun _ _ ⟨he, hm⟩ => ⟨he, n, hm.symm⟩


set_option maxRecDepth 100000 in
set_option maxHeartbeats 3200000 in
theorem look_0 (m : MM) (_hm : inM m) (b : Nat) (w : World) (hK : BlkM w b m) :
    Calls Tryz.prog 37 #[.pointer (some ⟨b, 0, none⟩), .int .i64 0] w fun e w' => e = .returned (.tuple #[.bool (zeroB m 0), .int .i64 (faultP m 0)]) ∧ Below w.heap.size w w' := by
  have hN := Lib.hid (fun W => number_lit m.fi 4294967294 4294967294 rfl W)
  have HR : Hid ((zeroB m 0, faultP m 0) = ((m.fi == 0), numI m.fi 4294967294)) := rfl
  have x : w.cell? ⟨b, 2, none⟩ = some (.int .i64 m.fi) := hK.cell 2
  rw [show zeroB m 0 = (m.fi == 0) from rfl, show faultP m 0 = numI m.fi 4294967294 from rfl]
  generalize numI m.fi 4294967294 = z at *
  generalize m.fi = n at *
  clear _hm hK HR
  go_enter Tryz.func37, Tryz.ntmps37
  go_wp2_with (go_at_call 57; refine (hN.out _).mono ?_; rintro e w' ⟨rfl, rfl⟩)
  go_ret2
  exact ⟨rfl, Below.refl _ _⟩

set_option maxRecDepth 100000 in
set_option maxHeartbeats 3200000 in
theorem look_1 (m : MM) (_hm : inM m) (b : Nat) (w : World) (hK : BlkM w b m) :
    Calls Tryz.prog 37 #[.pointer (some ⟨b, 0, none⟩), .int .i64 1] w fun e w' => e = .returned (.tuple #[.bool (zeroB m 1), .int .i64 (faultP m 1)]) ∧ Below w.heap.size w w' := by
  have hN := Lib.hid (fun W => number_lit m.nf 4294967294 4294967294 rfl W)
  have HR : Hid ((zeroB m 1, faultP m 1) = ((m.nf == 0), numI m.nf 4294967294)) := rfl
  have x : w.cell? ⟨b, 3, none⟩ = some (.int .i64 m.nf) := hK.cell 3
  rw [show zeroB m 1 = (m.nf == 0) from rfl, show faultP m 1 = numI m.nf 4294967294 from rfl]
  generalize numI m.nf 4294967294 = z at *
  generalize m.nf = n at *
  clear _hm hK HR
  go_enter Tryz.func37, Tryz.ntmps37
  go_wp2_with (go_at_call 57; refine (hN.out _).mono ?_; rintro e w' ⟨rfl, rfl⟩)
  go_ret2
  exact ⟨rfl, Below.refl _ _⟩

set_option maxRecDepth 100000 in
set_option maxHeartbeats 3200000 in
theorem look_2 (m : MM) (_hm : inM m) (b : Nat) (w : World) (hK : BlkM w b m) :
    Calls Tryz.prog 37 #[.pointer (some ⟨b, 0, none⟩), .int .i64 2] w fun e w' => e = .returned (.tuple #[.bool (zeroB m 2), .int .i64 (faultP m 2)]) ∧ Below w.heap.size w w' := by
  have hN := Lib.hid (fun W => number_any m.af (authP m.kd) W)
  have hA := Lib.hid (fun W => authGreatest_any m.kd W)
  have x : w.cell? ⟨b, 4, none⟩ = some (.int .i64 m.af) := hK.cell 4
  have x0 : w.cell? ⟨b, 0, none⟩ = some (.int .i64 m.kd) := hK.cell 0
  rw [show zeroB m 2 = (m.af == 0) from rfl, show faultP m 2 = numI m.af (authP m.kd) from rfl]
  generalize numI m.af (authP m.kd) = z at *
  generalize (m.af == 0) = y at *
  generalize authP m.kd = a at *
  generalize m.af = n at *
  generalize m.kd = k at *
  clear _hm hK
  go_enter Tryz.func37, Tryz.ntmps37
  go_wp2
  go_quiet ((first | (go_at_call 58; with_reducible exact quiet_same (hA.out _)) | (go_at_call 57; with_reducible exact quiet_same (hN.out _))))
  go_wp2
  go_ret2
  exact ⟨rfl, below_drewN (Below.refl _ _) _⟩

set_option maxRecDepth 100000 in
set_option maxHeartbeats 3200000 in
theorem look_3 (m : MM) (_hm : inM m) (b : Nat) (w : World) (hK : BlkM w b m) :
    Calls Tryz.prog 37 #[.pointer (some ⟨b, 0, none⟩), .int .i64 3] w fun e w' => e = .returned (.tuple #[.bool (zeroB m 3), .int .i64 (faultP m 3)]) ∧ Below w.heap.size w w' := by
  have hN := Lib.hid (fun W => number_lit m.ot 65534 65534 rfl W)
  have HR : Hid ((zeroB m 3, faultP m 3) = ((m.ot == 0), numI m.ot 65534)) := rfl
  have x : w.cell? ⟨b, 5, none⟩ = some (.int .i64 m.ot) := hK.cell 5
  rw [show zeroB m 3 = (m.ot == 0) from rfl, show faultP m 3 = numI m.ot 65534 from rfl]
  generalize numI m.ot 65534 = z at *
  generalize m.ot = n at *
  clear _hm hK HR
  go_enter Tryz.func37, Tryz.ntmps37
  go_wp2_with (go_at_call 57; refine (hN.out _).mono ?_; rintro e w' ⟨rfl, rfl⟩)
  go_ret2
  exact ⟨rfl, Below.refl _ _⟩

set_option maxRecDepth 100000 in
set_option maxHeartbeats 3200000 in
theorem look_4 (m : MM) (_hm : inM m) (b : Nat) (w : World) (hK : BlkM w b m) :
    Calls Tryz.prog 37 #[.pointer (some ⟨b, 0, none⟩), .int .i64 4] w fun e w' => e = .returned (.tuple #[.bool (zeroB m 4), .int .i64 (faultP m 4)]) ∧ Below w.heap.size w w' := by
  have hN := Lib.hid (fun W => number_lit m.ms 4294967295 4294967295 rfl W)
  have HR : Hid ((zeroB m 4, faultP m 4) = ((m.ms == 0), numI m.ms 4294967295)) := rfl
  have x : w.cell? ⟨b, 6, none⟩ = some (.int .i64 m.ms) := hK.cell 6
  rw [show zeroB m 4 = (m.ms == 0) from rfl, show faultP m 4 = numI m.ms 4294967295 from rfl]
  generalize numI m.ms 4294967295 = z at *
  generalize m.ms = n at *
  clear _hm hK HR
  go_enter Tryz.func37, Tryz.ntmps37
  go_wp2_with (go_at_call 57; refine (hN.out _).mono ?_; rintro e w' ⟨rfl, rfl⟩)
  go_ret2
  exact ⟨rfl, Below.refl _ _⟩

set_option maxRecDepth 100000 in
set_option maxHeartbeats 3200000 in
theorem look_5 (m : MM) (hm : inM m) (b : Nat) (w : World) (hK : BlkM w b m) :
    Calls Tryz.prog 37 #[.pointer (some ⟨b, 0, none⟩), .int .i64 5] w fun e w' => e = .returned (.tuple #[.bool (zeroB m 5), .int .i64 (faultP m 5)]) ∧ Below w.heap.size w w' := by
  have hN := Lib.hid (fun W => text_any m.ve 64 64 rfl hm.2.2.2.2.2.1 W)
  have x : w.cell? ⟨b, 7, none⟩ = some (.string (mk m.ve)) := hK.cell 7
  rw [show zeroB m 5 = (m.ve == []) from rfl, show faultP m 5 = txtI m.ve 64 from rfl]
  generalize txtI m.ve 64 = z at *
  generalize (m.ve == []) = y at *
  generalize mk m.ve = n at *
  clear hm hK
  go_enter Tryz.func37, Tryz.ntmps37
  go_wp2_with (go_at_call 59; refine (hN.out _).mono ?_; rintro e w' ⟨rfl, rfl⟩)
  go_ret2
  exact ⟨rfl, Below.refl _ _⟩

set_option maxRecDepth 100000 in
set_option maxHeartbeats 3200000 in
theorem look_6 (m : MM) (hm : inM m) (b : Nat) (w : World) (hK : BlkM w b m) :
    Calls Tryz.prog 37 #[.pointer (some ⟨b, 0, none⟩), .int .i64 6] w fun e w' => e = .returned (.tuple #[.bool (zeroB m 6), .int .i64 (faultP m 6)]) ∧ Below w.heap.size w w' := by
  have hN := Lib.hid (fun W => text_any m.us 32 32 rfl hm.2.2.2.2.2.2.1 W)
  have x : w.cell? ⟨b, 8, none⟩ = some (.string (mk m.us)) := hK.cell 8
  rw [show zeroB m 6 = (m.us == []) from rfl, show faultP m 6 = txtI m.us 32 from rfl]
  generalize txtI m.us 32 = z at *
  generalize (m.us == []) = y at *
  generalize mk m.us = n at *
  clear hm hK
  go_enter Tryz.func37, Tryz.ntmps37
  go_wp2_with (go_at_call 59; refine (hN.out _).mono ?_; rintro e w' ⟨rfl, rfl⟩)
  go_ret2
  exact ⟨rfl, Below.refl _ _⟩

set_option maxRecDepth 100000 in
set_option maxHeartbeats 3200000 in
theorem look_7 (m : MM) (hm : inM m) (b : Nat) (w : World) (hK : BlkM w b m) :
    Calls Tryz.prog 37 #[.pointer (some ⟨b, 0, none⟩), .int .i64 7] w fun e w' => e = .returned (.tuple #[.bool (zeroB m 7), .int .i64 (faultP m 7)]) ∧ Below w.heap.size w w' := by
  have hN := Lib.hid (fun W => text_any m.ac 1024 1024 rfl hm.2.2.2.2.2.2.2.1 W)
  have x : w.cell? ⟨b, 9, none⟩ = some (.string (mk m.ac)) := hK.cell 9
  rw [show zeroB m 7 = (m.ac == []) from rfl, show faultP m 7 = txtI m.ac 1024 from rfl]
  generalize txtI m.ac 1024 = z at *
  generalize (m.ac == []) = y at *
  generalize mk m.ac = n at *
  clear hm hK
  go_enter Tryz.func37, Tryz.ntmps37
  go_wp2_with (go_at_call 59; refine (hN.out _).mono ?_; rintro e w' ⟨rfl, rfl⟩)
  go_ret2
  exact ⟨rfl, Below.refl _ _⟩

set_option maxRecDepth 100000 in
set_option maxHeartbeats 3200000 in
theorem look_8 (m : MM) (hm : inM m) (b : Nat) (w : World) (hK : BlkM w b m) (hr : RowM w m) :
    Calls Tryz.prog 37 #[.pointer (some ⟨b, 0, none⟩), .int .i64 8] w fun e w' => e = .returned (.tuple #[.bool (zeroB m 8), .int .i64 (faultP m 8)]) ∧ Below w.heap.size w w' := by
  have hN := Lib.hid (fun W (h : SRow W m.nv m.nl) => checkNames_any m.nv m.nl W h hm.2.2.2.2.1)
  have x : w.cell? ⟨b, 10, none⟩ = some m.nv := hK.cell 10
  have HS := Lib.hid hr.1
  obtain ⟨ps, cap, hv, hc, hcm, -⟩ := hr.1
  rw [hv] at x hN HS
  unfold maxLen at hcm
  replace hN := Lib.hid (fun k => hN.out (w.drewN k) (show SRow (w.drewN k) _ _ from HS.out))
  rw [show zeroB m 8 = (m.nl.length == 0) from rfl, show faultP m 8 = wordsI m.nl from rfl, ← len_zero]
  clear hm hK HS hr hv
  generalize wordsI m.nl = z at *
  generalize m.nl.length = n at *
  go_enter Tryz.func37, Tryz.ntmps37
  go_wp2
  go_quiet ((go_at_call 60; with_reducible exact quiet_same (hN.out _)))
  go_wp2
  go_ret2
  exact ⟨rfl, below_drewN (Below.refl _ _) _⟩

set_option maxRecDepth 100000 in
set_option maxHeartbeats 3200000 in
theorem look_9 (m : MM) (hm : inM m) (b : Nat) (w : World) (hK : BlkM w b m) (hr : RowM w m) :
    Calls Tryz.prog 37 #[.pointer (some ⟨b, 0, none⟩), .int .i64 9] w fun e w' => e = .returned (.tuple #[.bool (zeroB m 9), .int .i64 (faultP m 9)]) ∧ Below w.heap.size w w' := by
  have hN := Lib.hid (fun W (h : QRow W m.qv m.ql) => checkQids_any m.qv m.ql W h hm.2.2.2.1)
  have x : ∀ W, Below w.heap.size w W → W.cell? ⟨b, 11, none⟩ = some m.qv := fun W h => (hK.below h hK.lt).cell 11
  have HS := Lib.hid hr.2
  obtain ⟨ps, cap, hv, hc, hcm, -⟩ := hr.2
  rw [hv] at x hN HS
  unfold maxLen at hcm
  have hx := Lib.hid x
  have HBd := Lib.hid (below_drew (Below.refl w.heap.size w))
  replace hN := Lib.hid (hN.out w.drew (show QRow w.drew _ _ from HS.out))
  rw [show zeroB m 9 = (m.ql.length == 0) from rfl, show faultP m 9 = qidsI m.ql from rfl, ← len_zero]
  clear hm hK HS hr hv x
  generalize qidsI m.ql = z at *
  generalize m.ql.length = n at *
  go_enter Tryz.func37, Tryz.ntmps37
  go_wp2
  go_region_held3 (fun W' => W'.cell? ⟨b, 11, none⟩ = some (.slice ps n cap)) (first | exact hx.out _ HBd.out | exact hx.out _ HQ.out) (first | (go_at_call 61; refine hN.out.mono ?_; rintro e W2 ⟨rfl, hB2⟩; have HQ := Lib.hid (HBd.out.trans (hB2.mono HBd.out.size)); clear hB2))
  all_goals go_wp2
  all_goals go_ret2
  all_goals exact ⟨rfl, HQ.out⟩

set_option maxRecDepth 100000 in
set_option maxHeartbeats 3200000 in
theorem look_10 (m : MM) (hm : inM m) (b : Nat) (w : World) (hK : BlkM w b m) :
    Calls Tryz.prog 37 #[.pointer (some ⟨b, 0, none⟩), .int .i64 10] w fun e w' => e = .returned (.tuple #[.bool (zeroB m 10), .int .i64 (faultP m 10)]) ∧ Below w.heap.size w w' := by
  have hN := fun W => checkQid_any m.qd hm.1 W
  unfold qidV at hN
  replace hN := Lib.hid hN
  have x : ∀ W, Below w.heap.size w W → W.cell? ⟨b, 12, none⟩ = some (.int .i64 m.qd.t) ∧ W.cell? ⟨b, 13, none⟩ = some (.int .i64 m.qd.v) ∧ W.cell? ⟨b, 14, none⟩ = some (.int .i64 m.qd.p) := fun W h => ⟨(hK.below h hK.lt).cell 12, (hK.below h hK.lt).cell 13, (hK.below h hK.lt).cell 14⟩
  have hx := Lib.hid x
  have HBd := Lib.hid (below_drew (Below.refl w.heap.size w))
  have hE := eql_no m.qd
  have hG := fun x y => guard_no .eql x y m.qd
  rw [show zeroB m 10 = isNo m.qd from rfl, show faultP m 10 = qidI m.qd from rfl]
  clear hm hK x
  generalize qidI m.qd = z at *
  generalize isNo m.qd = y at *
  generalize m.qd.t = n0 at *
  generalize m.qd.v = n1 at *
  generalize m.qd.p = n2 at *
  go_enter Tryz.func37, Tryz.ntmps37
  go_wp2
  go_region_held3 (fun W' => W'.cell? ⟨b, 12, none⟩ = some (.int .i64 n0) ∧ W'.cell? ⟨b, 13, none⟩ = some (.int .i64 n1) ∧ W'.cell? ⟨b, 14, none⟩ = some (.int .i64 n2)) (first | exact hx.out _ HBd.out | exact hx.out _ HQ.out) (first | (go_at_call 62; refine (hN.out _).mono ?_; rintro e W2 ⟨rfl, hB2⟩; have HQ := Lib.hid (HBd.out.trans (hB2.mono HBd.out.size)); clear hB2))
  all_goals go_wp2
  all_goals go_ret2
  all_goals exact ⟨rfl, HQ.out⟩

set_option maxRecDepth 100000 in
set_option maxHeartbeats 3200000 in
theorem look_11 (m : MM) (_hm : inM m) (b : Nat) (w : World) (hK : BlkM w b m) :
    Calls Tryz.prog 37 #[.pointer (some ⟨b, 0, none⟩), .int .i64 11] w fun e w' => e = .returned (.tuple #[.bool (zeroB m 11), .int .i64 (faultP m 11)]) ∧ Below w.heap.size w w' := by
  have hN := Lib.hid (fun W => number_lit m.io 8192 8192 rfl W)
  have HR : Hid ((zeroB m 11, faultP m 11) = ((m.io == 0), numI m.io 8192)) := rfl
  have x : w.cell? ⟨b, 15, none⟩ = some (.int .i64 m.io) := hK.cell 15
  rw [show zeroB m 11 = (m.io == 0) from rfl, show faultP m 11 = numI m.io 8192 from rfl]
  generalize numI m.io 8192 = z at *
  generalize m.io = n at *
  clear _hm hK HR
  go_enter Tryz.func37, Tryz.ntmps37
  go_wp2_with (go_at_call 57; refine (hN.out _).mono ?_; rintro e w' ⟨rfl, rfl⟩)
  go_ret2
  exact ⟨rfl, Below.refl _ _⟩

set_option maxRecDepth 100000 in
set_option maxHeartbeats 3200000 in
theorem look_12 (m : MM) (_hm : inM m) (b : Nat) (w : World) (hK : BlkM w b m) :
    Calls Tryz.prog 37 #[.pointer (some ⟨b, 0, none⟩), .int .i64 12] w fun e w' => e = .returned (.tuple #[.bool (zeroB m 12), .int .i64 (faultP m 12)]) ∧ Below w.heap.size w w' := by
  have hN := Lib.hid (fun W => number_lit m.mo 255 255 rfl W)
  have HR : Hid ((zeroB m 12, faultP m 12) = ((m.mo == 0), numI m.mo 255)) := rfl
  have x : w.cell? ⟨b, 16, none⟩ = some (.int .i64 m.mo) := hK.cell 16
  rw [show zeroB m 12 = (m.mo == 0) from rfl, show faultP m 12 = numI m.mo 255 from rfl]
  generalize numI m.mo 255 = z at *
  generalize m.mo = n at *
  clear _hm hK HR
  go_enter Tryz.func37, Tryz.ntmps37
  go_wp2_with (go_at_call 57; refine (hN.out _).mono ?_; rintro e w' ⟨rfl, rfl⟩)
  go_ret2
  exact ⟨rfl, Below.refl _ _⟩

set_option maxRecDepth 100000 in
set_option maxHeartbeats 3200000 in
theorem look_13 (m : MM) (_hm : inM m) (b : Nat) (w : World) (hK : BlkM w b m) :
    Calls Tryz.prog 37 #[.pointer (some ⟨b, 0, none⟩), .int .i64 13] w fun e w' => e = .returned (.tuple #[.bool (zeroB m 13), .int .i64 (faultP m 13)]) ∧ Below w.heap.size w w' := by
  have hN := Lib.hid (fun W => number_lit m.pe 4294967295 4294967295 rfl W)
  have HR : Hid ((zeroB m 13, faultP m 13) = ((m.pe == 0), numI m.pe 4294967295)) := rfl
  have x : w.cell? ⟨b, 17, none⟩ = some (.int .i64 m.pe) := hK.cell 17
  rw [show zeroB m 13 = (m.pe == 0) from rfl, show faultP m 13 = numI m.pe 4294967295 from rfl]
  generalize numI m.pe 4294967295 = z at *
  generalize m.pe = n at *
  clear _hm hK HR
  go_enter Tryz.func37, Tryz.ntmps37
  go_wp2_with (go_at_call 57; refine (hN.out _).mono ?_; rintro e w' ⟨rfl, rfl⟩)
  go_ret2
  exact ⟨rfl, Below.refl _ _⟩

set_option maxRecDepth 100000 in
set_option maxHeartbeats 3200000 in
theorem look_14 (m : MM) (hm : inM m) (b : Nat) (w : World) (hK : BlkM w b m) :
    Calls Tryz.prog 37 #[.pointer (some ⟨b, 0, none⟩), .int .i64 14] w fun e w' => e = .returned (.tuple #[.bool (zeroB m 14), .int .i64 (faultP m 14)]) ∧ Below w.heap.size w w' := by
  have hN := Lib.hid (fun W => checkName_any m.na hm.2.2.2.2.2.2.2.2.1 W)
  have x : w.cell? ⟨b, 18, none⟩ = some (.string (mk m.na)) := hK.cell 18
  have he : (m.na == []) = ((mk m.na).toList == []) := by rw [mk_toList]
  rw [show zeroB m 14 = (m.na == []) from rfl, show faultP m 14 = (if validL m.na then 0 else 6) from rfl]
  generalize (if validL m.na = true then (0 : Int) else 6) = z at *
  generalize (m.na == []) = y at *
  generalize mk m.na = n at *
  replace he := Lib.hid he
  clear hm hK
  go_enter Tryz.func37, Tryz.ntmps37
  go_wp2
  go_quiet ((go_at_call 63; with_reducible exact quiet_same (hN.out _)))
  go_wp2
  go_ret2
  rw [he.out]
  exact ⟨retBI (by simp) rfl, below_drewN (Below.refl _ _) _⟩

set_option maxRecDepth 100000 in
set_option maxHeartbeats 3200000 in
theorem look_15 (m : MM) (_hm : inM m) (b : Nat) (w : World) (hK : BlkM w b m) :
    Calls Tryz.prog 37 #[.pointer (some ⟨b, 0, none⟩), .int .i64 15] w fun e w' => e = .returned (.tuple #[.bool (zeroB m 15), .int .i64 (faultP m 15)]) ∧ Below w.heap.size w w' := by
  have hN := Lib.hid (fun W => number_lit m.os 9007199254740991 9007199254740991 rfl W)
  have HR : Hid ((zeroB m 15, faultP m 15) = ((m.os == 0), numI m.os 9007199254740991)) := rfl
  have x : w.cell? ⟨b, 19, none⟩ = some (.int .i64 m.os) := hK.cell 19
  rw [show zeroB m 15 = (m.os == 0) from rfl, show faultP m 15 = numI m.os 9007199254740991 from rfl]
  generalize numI m.os 9007199254740991 = z at *
  generalize m.os = n at *
  clear _hm hK HR
  go_enter Tryz.func37, Tryz.ntmps37
  go_wp2_with (go_at_call 57; refine (hN.out _).mono ?_; rintro e w' ⟨rfl, rfl⟩)
  go_ret2
  exact ⟨rfl, Below.refl _ _⟩

set_option maxRecDepth 100000 in
set_option maxHeartbeats 3200000 in
theorem look_16 (m : MM) (_hm : inM m) (b : Nat) (w : World) (hK : BlkM w b m) :
    Calls Tryz.prog 37 #[.pointer (some ⟨b, 0, none⟩), .int .i64 16] w fun e w' => e = .returned (.tuple #[.bool (zeroB m 16), .int .i64 (faultP m 16)]) ∧ Below w.heap.size w w' := by
  have hN := Lib.hid (fun W => number_lit m.co 8192 8192 rfl W)
  have HR : Hid ((zeroB m 16, faultP m 16) = ((m.co == 0), numI m.co 8192)) := rfl
  have x : w.cell? ⟨b, 20, none⟩ = some (.int .i64 m.co) := hK.cell 20
  rw [show zeroB m 16 = (m.co == 0) from rfl, show faultP m 16 = numI m.co 8192 from rfl]
  generalize numI m.co 8192 = z at *
  generalize m.co = n at *
  clear _hm hK HR
  go_enter Tryz.func37, Tryz.ntmps37
  go_wp2_with (go_at_call 57; refine (hN.out _).mono ?_; rintro e w' ⟨rfl, rfl⟩)
  go_ret2
  exact ⟨rfl, Below.refl _ _⟩

set_option maxRecDepth 100000 in
set_option maxHeartbeats 3200000 in
theorem look_17 (m : MM) (hm : inM m) (b : Nat) (w : World) (hK : BlkM w b m) :
    Calls Tryz.prog 37 #[.pointer (some ⟨b, 0, none⟩), .int .i64 17] w fun e w' => e = .returned (.tuple #[.bool (zeroB m 17), .int .i64 (faultP m 17)]) ∧ Below w.heap.size w w' := by
  have hN := Lib.hid (fun W => text_any m.da 8168 8168 rfl hm.2.2.2.2.2.2.2.2.2.1 W)
  have x : w.cell? ⟨b, 21, none⟩ = some (.string (mk m.da)) := hK.cell 21
  rw [show zeroB m 17 = (m.da == []) from rfl, show faultP m 17 = txtI m.da 8168 from rfl]
  generalize txtI m.da 8168 = z at *
  generalize (m.da == []) = y at *
  generalize mk m.da = n at *
  clear hm hK
  go_enter Tryz.func37, Tryz.ntmps37
  go_wp2_with (go_at_call 59; refine (hN.out _).mono ?_; rintro e w' ⟨rfl, rfl⟩)
  go_ret2
  exact ⟨rfl, Below.refl _ _⟩

set_option maxRecDepth 100000 in
set_option maxHeartbeats 3200000 in
theorem look_18 (m : MM) (hm : inM m) (b : Nat) (w : World) (hK : BlkM w b m) (g : G w) :
    Calls Tryz.prog 37 #[.pointer (some ⟨b, 0, none⟩), .int .i64 18] w fun e w' => e = .returned (.tuple #[.bool (zeroB m 18), .int .i64 (faultP m 18)]) ∧ Below w.heap.size w w' := by
  have hN := fun W h => Check_any m.st hm.2.1 hm.2.2.1 W h
  have hV : dirV m.st = .agg #[.int .i64 m.st.ty, .int .i64 m.st.dv, .int .i64 m.st.qt, .int .i64 m.st.qv, .int .i64 m.st.qp, .int .i64 m.st.mo, .int .i64 m.st.ai, .int .i64 m.st.mi, .int .i64 m.st.ln, .string (mk m.st.nm), .string (mk m.st.ui), .string (mk m.st.gi), .string (mk m.st.mu)] := rfl
  rw [hV] at hN
  replace hN := Lib.hid hN
  have x : ∀ W, Below w.heap.size w W → W.cell? ⟨b, 22, none⟩ = some (.int .i64 m.st.ty) ∧ W.cell? ⟨b, 23, none⟩ = some (.int .i64 m.st.dv) ∧ W.cell? ⟨b, 24, none⟩ = some (.int .i64 m.st.qt) ∧ W.cell? ⟨b, 25, none⟩ = some (.int .i64 m.st.qv) ∧ W.cell? ⟨b, 26, none⟩ = some (.int .i64 m.st.qp) ∧ W.cell? ⟨b, 27, none⟩ = some (.int .i64 m.st.mo) ∧ W.cell? ⟨b, 28, none⟩ = some (.int .i64 m.st.ai) ∧ W.cell? ⟨b, 29, none⟩ = some (.int .i64 m.st.mi) ∧ W.cell? ⟨b, 30, none⟩ = some (.int .i64 m.st.ln) ∧ W.cell? ⟨b, 31, none⟩ = some (.string (mk m.st.nm)) ∧ W.cell? ⟨b, 32, none⟩ = some (.string (mk m.st.ui)) ∧ W.cell? ⟨b, 33, none⟩ = some (.string (mk m.st.gi)) ∧ W.cell? ⟨b, 34, none⟩ = some (.string (mk m.st.mu)) := fun W h => have hc := (hK.below h hK.lt).cell; ⟨hc 22, hc 23, hc 24, hc 25, hc 26, hc 27, hc 28, hc 29, hc 30, hc 31, hc 32, hc 33, hc 34⟩
  have hx := Lib.hid x
  have HBd := Lib.hid (below_drew (Below.refl w.heap.size w))
  have HG := Lib.hid (show G w.drew from g)
  have hE : ∀ W, (binOp .eql 27 (.agg #[.int .i64 m.st.ty, .int .i64 m.st.dv, .int .i64 m.st.qt, .int .i64 m.st.qv, .int .i64 m.st.qp, .int .i64 m.st.mo, .int .i64 m.st.ai, .int .i64 m.st.mi, .int .i64 m.st.ln, .string (mk m.st.nm), .string (mk m.st.ui), .string (mk m.st.gi), .string (mk m.st.mu)]) (.agg #[.int .i64 0, .int .i64 0, .int .i64 0, .int .i64 0, .int .i64 0, .int .i64 0, .int .i64 0, .int .i64 0, .int .i64 0, .string ⟨#[]⟩, .string ⟨#[]⟩, .string ⟨#[]⟩, .string ⟨#[]⟩])).run Tryz.prog W = .ok (.bool (eqDD m.st noD)) W := eql_noD m.st
  have hG : ∀ x y W, (eqGuard .eql 27 x y (.agg #[.int .i64 m.st.ty, .int .i64 m.st.dv, .int .i64 m.st.qt, .int .i64 m.st.qv, .int .i64 m.st.qp, .int .i64 m.st.mo, .int .i64 m.st.ai, .int .i64 m.st.mi, .int .i64 m.st.ln, .string (mk m.st.nm), .string (mk m.st.ui), .string (mk m.st.gi), .string (mk m.st.mu)]) (.agg #[.int .i64 0, .int .i64 0, .int .i64 0, .int .i64 0, .int .i64 0, .int .i64 0, .int .i64 0, .int .i64 0, .int .i64 0, .string ⟨#[]⟩, .string ⟨#[]⟩, .string ⟨#[]⟩, .string ⟨#[]⟩])).run Tryz.prog W = .ok () W := fun x y => guard_noD .eql x y m.st
  rw [show zeroB m 18 = eqDD m.st noD from rfl, show faultP m 18 = checkR m.st from rfl]
  clear hm hK x g hV
  generalize checkR m.st = z at *
  generalize eqDD m.st noD = y at *
  generalize m.st = d at *
  go_enter Tryz.func37, Tryz.ntmps37
  go_wp2
  go_region_held3 (fun W' => W'.cell? ⟨b, 22, none⟩ = some (.int .i64 d.ty) ∧ W'.cell? ⟨b, 23, none⟩ = some (.int .i64 d.dv) ∧ W'.cell? ⟨b, 24, none⟩ = some (.int .i64 d.qt) ∧ W'.cell? ⟨b, 25, none⟩ = some (.int .i64 d.qv) ∧ W'.cell? ⟨b, 26, none⟩ = some (.int .i64 d.qp) ∧ W'.cell? ⟨b, 27, none⟩ = some (.int .i64 d.mo) ∧ W'.cell? ⟨b, 28, none⟩ = some (.int .i64 d.ai) ∧ W'.cell? ⟨b, 29, none⟩ = some (.int .i64 d.mi) ∧ W'.cell? ⟨b, 30, none⟩ = some (.int .i64 d.ln) ∧ W'.cell? ⟨b, 31, none⟩ = some (.string (mk d.nm)) ∧ W'.cell? ⟨b, 32, none⟩ = some (.string (mk d.ui)) ∧ W'.cell? ⟨b, 33, none⟩ = some (.string (mk d.gi)) ∧ W'.cell? ⟨b, 34, none⟩ = some (.string (mk d.mu))) (first | exact hx.out _ HBd.out | exact hx.out _ HQ.out) (first | (go_at_call 64; refine (hN.out _ HG.out).mono ?_; rintro e W2 ⟨rfl, hB2⟩; have HQ := Lib.hid (HBd.out.trans (hB2.mono HBd.out.size)); clear hB2))
  all_goals go_wp2
  all_goals go_ret2
  all_goals exact ⟨rfl, HQ.out⟩

set_option maxRecDepth 100000 in
set_option maxHeartbeats 3200000 in
theorem look_19 (m : MM) (_hm : inM m) (b : Nat) (w : World) (hK : BlkM w b m) :
    Calls Tryz.prog 37 #[.pointer (some ⟨b, 0, none⟩), .int .i64 19] w fun e w' => e = .returned (.tuple #[.bool (zeroB m 19), .int .i64 (faultP m 19)]) ∧ Below w.heap.size w w' := by
  have hN := Lib.hid (fun W => checkErr_any m.er W)
  have x : w.cell? ⟨b, 35, none⟩ = some (.int .i64 m.er) := hK.cell 35
  rw [show zeroB m 19 = (m.er == 0) from rfl, show faultP m 19 = errI m.er from rfl]
  generalize errI m.er = z at *
  generalize m.er = n at *
  clear _hm hK
  go_enter Tryz.func37, Tryz.ntmps37
  go_wp2
  go_quiet ((go_at_call 65; with_reducible exact quiet_same (hN.out _)))
  go_wp2
  go_ret2
  exact ⟨rfl, below_drewN (Below.refl _ _) _⟩

set_option maxRecDepth 100000 in
set_option maxHeartbeats 3200000 in
theorem look_20 (m : MM) (_hm : inM m) (b : Nat) (w : World) (hK : BlkM w b m) :
    Calls Tryz.prog 37 #[.pointer (some ⟨b, 0, none⟩), .int .i64 20] w fun e w' => e = .returned (.tuple #[.bool (zeroB m 20), .int .i64 (faultP m 20)]) ∧ Below w.heap.size w w' := by
  have hN := Lib.hid (fun W => number_lit m.lz 2 2 rfl W)
  have HR : Hid ((zeroB m 20, faultP m 20) = ((m.lz == 0), numI m.lz 2)) := rfl
  have x : w.cell? ⟨b, 36, none⟩ = some (.int .i64 m.lz) := hK.cell 36
  rw [show zeroB m 20 = (m.lz == 0) from rfl, show faultP m 20 = numI m.lz 2 from rfl]
  generalize numI m.lz 2 = z at *
  generalize m.lz = n at *
  clear _hm hK HR
  go_enter Tryz.func37, Tryz.ntmps37
  go_wp2_with (go_at_call 57; refine (hN.out _).mono ?_; rintro e w' ⟨rfl, rfl⟩)
  go_ret2
  exact ⟨rfl, Below.refl _ _⟩

set_option maxRecDepth 100000 in
set_option maxHeartbeats 3200000 in
theorem look_21 (m : MM) (_hm : inM m) (b : Nat) (w : World) (hK : BlkM w b m) :
    Calls Tryz.prog 37 #[.pointer (some ⟨b, 0, none⟩), .int .i64 21] w fun e w' => e = .returned (.tuple #[.bool (zeroB m 21), .int .i64 (faultP m 21)]) ∧ Below w.heap.size w w' := by
  have hN := Lib.hid (fun W => number_lit m.te 1048576 1048576 rfl W)
  have HR : Hid ((zeroB m 21, faultP m 21) = ((m.te == 0), numI m.te 1048576)) := rfl
  have x : w.cell? ⟨b, 37, none⟩ = some (.int .i64 m.te) := hK.cell 37
  rw [show zeroB m 21 = (m.te == 0) from rfl, show faultP m 21 = numI m.te 1048576 from rfl]
  generalize numI m.te 1048576 = z at *
  generalize m.te = n at *
  clear _hm hK HR
  go_enter Tryz.func37, Tryz.ntmps37
  go_wp2_with (go_at_call 57; refine (hN.out _).mono ?_; rintro e w' ⟨rfl, rfl⟩)
  go_ret2
  exact ⟨rfl, Below.refl _ _⟩

set_option maxRecDepth 100000 in
set_option maxHeartbeats 3200000 in
theorem look_22 (m : MM) (hm : inM m) (b : Nat) (w : World) (hK : BlkM w b m) :
    Calls Tryz.prog 37 #[.pointer (some ⟨b, 0, none⟩), .int .i64 22] w fun e w' => e = .returned (.tuple #[.bool (zeroB m 22), .int .i64 (faultP m 22)]) ∧ Below w.heap.size w w' := by
  have hN := Lib.hid (fun W => text_any m.se 64 64 rfl hm.2.2.2.2.2.2.2.2.2.2 W)
  have x : w.cell? ⟨b, 38, none⟩ = some (.string (mk m.se)) := hK.cell 38
  rw [show zeroB m 22 = (m.se == []) from rfl, show faultP m 22 = txtI m.se 64 from rfl]
  generalize txtI m.se 64 = z at *
  generalize (m.se == []) = y at *
  generalize mk m.se = n at *
  clear hm hK
  go_enter Tryz.func37, Tryz.ntmps37
  go_wp2_with (go_at_call 59; refine (hN.out _).mono ?_; rintro e w' ⟨rfl, rfl⟩)
  go_ret2
  exact ⟨rfl, Below.refl _ _⟩

theorem look_any (m : MM) (f : Nat) (hf : f < 23) (hm : inM m) (b : Nat) (w : World) (hK : BlkM w b m) (hr : RowM w m) (g : G w) :
    Calls Tryz.prog 37 #[.pointer (some ⟨b, 0, none⟩), .int .i64 (f : Int)] w fun e w' => e = .returned (.tuple #[.bool (zeroB m f), .int .i64 (faultP m f)]) ∧ Below w.heap.size w w' := by
  rcases k23 hf with rfl | rfl | rfl | rfl | rfl | rfl | rfl | rfl | rfl | rfl | rfl | rfl | rfl | rfl | rfl | rfl | rfl | rfl | rfl | rfl | rfl | rfl | rfl
  · exact look_0 m hm b w hK
  · exact look_1 m hm b w hK
  · exact look_2 m hm b w hK
  · exact look_3 m hm b w hK
  · exact look_4 m hm b w hK
  · exact look_5 m hm b w hK
  · exact look_6 m hm b w hK
  · exact look_7 m hm b w hK
  · exact look_8 m hm b w hK hr
  · exact look_9 m hm b w hK hr
  · exact look_10 m hm b w hK
  · exact look_11 m hm b w hK
  · exact look_12 m hm b w hK
  · exact look_13 m hm b w hK
  · exact look_14 m hm b w hK
  · exact look_15 m hm b w hK
  · exact look_16 m hm b w hK
  · exact look_17 m hm b w hK
  · exact look_18 m hm b w hK g
  · exact look_19 m hm b w hK
  · exact look_20 m hm b w hK
  · exact look_21 m hm b w hK
  · exact look_22 m hm b w hK
end Go.Proofs.YtlfdmbfbfadifaaGreatDoor

namespace Go.Proofs.YtlfdmbfbfadifaaGreatDoor
open Go.RowKit

set_option maxRecDepth 100000 in
set_option maxHeartbeats 3200000 in
theorem hasOthers_any (m : MM) (hm : inM m) (_hk : kindB m.kd = true) (b : Nat) (v : Value) (w : World) (hK : BlkM w b m) (hv : FRow w v (fieldsL m.kd)) (hr : RowM w m) (g : G w) :
    Calls Tryz.prog 36 #[.pointer (some ⟨b, 0, none⟩), v] w fun e w' => e = .returned (.bool (othersB m)) ∧ Below w.heap.size w w' := by
  have hL := Lib.hid (fun f hf W (h : Below w.heap.size w W) => look_any m f hf hm b W (hK.below h hK.lt) (hr.below h) (g.below h))
  have hC := Lib.hid (fun x W (h : Below w.heap.size w W) => Contains_any v (fieldsL m.kd) x W (hv.below h))
  have H1 := Lib.hid (fun k hk h => othersB_yes (m := m) (k := k) hk h)
  have H0 := Lib.hid (fun h => othersB_no (m := m) h)
  have hbf : Hid (∀ k, badF m k = (!(zeroB m k) && !((fieldsL m.kd).contains k))) := fun _ => rfl
  have hgo := Lib.hid (fun k h => bad_step (m := m) (k := k) h)
  generalize othersB m = res at *
  clear hm _hk hK hv hr g
  go_enter Tryz.func36, Tryz.ntmps36
  go_wp2
  go_loopw [8] (fun vk wr => ∃ k : Nat, vk = .int .i64 (k : Int) ∧ k ≤ 23 ∧ Hid (Below w.heap.size w wr) ∧ Hid (∀ j, j < k → badF m j = false)) (fun vk _ => 23 - (intOf vk).toNat)
  case atStart => exact ⟨0, rfl, by omega, Below.refl _ _, fun j hj => by omega⟩
  case round =>
    obtain ⟨k, rfl, hk23, HB, ha⟩ := hrel
    by_cases hlt : k < 23
    · have hl := Lib.hid (hL.out k hlt wr HB.out)
      have hbad : Hid (badF m k = (!(zeroB m k) && !((fieldsL m.kd).contains k))) := hbf.out k
      have HA := Lib.hid (fun h => hgo.out k ha.out h)
      have HE := Lib.hid (fun h => H1.out k hlt h)
      have hc := Lib.hid (fun W h => hC.out k W h)
      generalize badF m k = bb at *
      generalize zeroB m k = zb at *
      generalize faultP m k = fz at *
      generalize (fieldsL m.kd).contains k = cb at *
      go_wp2_with fail
      refine hl.out.mono ?_
      rintro e w1 ⟨rfl, hB1⟩
      have HB1 := Lib.hid (HB.out.trans (hB1.mono HB.out.size))
      clear hB1 hl
      cases zb
      · replace hc := Lib.hid (hc.out w1 HB1.out)
        cases cb
        · have hr := Lib.hid (HE.out hbad.out)
          clear HA HE hbad
          go_wp2_with fail
          refine hc.out.mono ?_
          rintro e w2 ⟨rfl, rfl⟩
          go_wp2
          go_ret
          rw [hr.out]
          exact ⟨rfl, HB1.out⟩
        · have hA := Lib.hid (HA.out hbad.out)
          clear HA HE hbad
          go_wp2_with fail
          refine hc.out.mono ?_
          rintro e w2 ⟨rfl, rfl⟩
          go_wp2
          exact ⟨⟨k + 1, by go_num, by omega, HB1, hA⟩, by simp [intOf]; omega⟩
      · have hA := Lib.hid (HA.out (by rw [hbad.out]; rfl))
        clear HA HE hbad hc
        go_wp2
        exact ⟨⟨k + 1, by go_num, by omega, HB1, hA⟩, by simp [intOf]; omega⟩
    · obtain rfl : k = 23 := by omega
      have hr := Lib.hid (H0.out ha.out)
      clear ha H0 H1
      go_wp2
      go_ret
      rw [hr.out]
      exact ⟨rfl, HB.out⟩

theorem checkM_oth {m : MM} (h : kindB m.kd = true) (ht : tagB m.kd m.tg = true) (hb : othersB m = true) : checkM m = 2 := by
  unfold checkM; rw [if_neg (by rw [h]; decide), if_neg (by rw [ht]; decide), if_pos hb]
theorem checkM_fst {m : MM} (h : kindB m.kd = true) (ht : tagB m.kd m.tg = true) (hb : othersB m = false) : checkM m = firstE (faultP m) (fieldsL m.kd) := by
  unfold checkM; rw [if_neg (by rw [h]; decide), if_neg (by rw [ht]; decide), if_neg (by rw [hb]; decide)]
set_option maxRecDepth 100000 in
set_option maxHeartbeats 6400000 in
theorem CheckM_any (m : MM) (hm : inM m) (w : World) (hr : RowM w m) (g : G w) :
    Calls Tryz.prog 18 #[msgV m] w fun e w' => e = .returned (.int .i64 (checkM m)) ∧ Below w.heap.size w w' := by
  have hB0 : Below w.heap.size w (w.alloc (.cells (cellsB m) 30)) := (Below.refl _ w).alloc (Nat.le_refl _) _
  have hK0 := BlkM.new w m
  have hN := Lib.hid (fun W => isKind_any m.kd W)
  have hT := Lib.hid (fun W => isTag_any m.kd m.tg W)
  have hF := Lib.hid (fun hk W => fieldsOf_any m.kd hk W)
  have hO := Lib.hid (fun hk v W hK hv hr g => hasOthers_any m hm hk w.heap.size v W hK hv hr g)
  have hL := Lib.hid (fun f hf W hK hr g => look_any m f hf hm w.heap.size W hK hr g)
  have H1 := Lib.hid (fun h => checkM_form (m := m) h)
  have H2 := Lib.hid (fun h ht => checkM_tag (m := m) h ht)
  have H3 := Lib.hid (fun h ht hb => checkM_oth (m := m) h ht hb)
  have H4 := Lib.hid (fun h ht hb => checkM_fst (m := m) h ht hb)
  generalize checkM m = res at *
  have HR := Lib.hid hr
  have HG := Lib.hid g
  have HB0 := Lib.hid hB0
  have HK0 := Lib.hid hK0
  have hcell : Hid (∀ W, BlkM W w.heap.size m → W.cell? ⟨w.heap.size, 0, none⟩ = some (.int .i64 m.kd) ∧ W.cell? ⟨w.heap.size, 1, none⟩ = some (.int .i64 m.tg)) := fun W h => ⟨h.cell 0, h.cell 1⟩
  have x0 : (cellsB m)[0]? = some (.int .i64 m.kd) := rfl
  have x1 : (cellsB m)[1]? = some (.int .i64 m.tg) := rfl
  clear hB0 hK0 hr hm g
  unfold msgV
  cases hk : kindB m.kd
  · have hr := Lib.hid (H1.out hk)
    rw [hk] at hN
    clear hk
    go_enter Tryz.func18, Tryz.ntmps18
    go_wp2_with fail
    refine (hN.out _).mono ?_
    rintro e w1 ⟨rfl, rfl⟩
    go_wp2
    go_ret
    rw [hr.out]
    exact ⟨rfl, HB0.out⟩
  rw [hk] at hN
  replace hk := Lib.hid hk
  cases ht : tagB m.kd m.tg
  · have hr := Lib.hid (H2.out hk.out ht)
    rw [ht] at hT
    clear ht
    go_enter Tryz.func18, Tryz.ntmps18
    go_wp2_with fail
    refine (hN.out _).mono ?_
    rintro e w1 ⟨rfl, rfl⟩
    go_wp2_with fail
    refine (hT.out _).mono ?_
    rintro e w1 ⟨rfl, rfl⟩
    go_wp2
    go_ret
    rw [hr.out]
    exact ⟨rfl, HB0.out⟩
  rw [ht] at hT
  replace ht := Lib.hid ht
  go_enter Tryz.func18, Tryz.ntmps18
  go_wp2_with fail
  refine (hN.out _).mono ?_
  rintro e w1 ⟨rfl, rfl⟩
  go_wp2_with fail
  refine (hT.out _).mono ?_
  rintro e w1 ⟨rfl, rfl⟩
  go_wp2_with fail
  refine (hF.out hk.out _).mono ?_
  rintro e w1 ⟨v, rfl, hv, hB1⟩
  have HB1 := Lib.hid (HB0.out.trans (hB1.mono HB0.out.size))
  have HK1 := Lib.hid (HK0.out.below hB1 HK0.out.lt)
  have HV := Lib.hid hv
  clear hB1 hv x0 x1
  replace hO := Lib.hid (hO.out hk.out v w1 HK1.out HV.out (HR.out.below HB1.out) (HG.out.below HB1.out))
  go_wp2_with fail
  refine hO.out.mono ?_
  rintro e w2 ⟨rfl, hB2⟩
  have HB2 := Lib.hid (HB1.out.trans (hB2.mono HB1.out.size))
  have HK2 := Lib.hid (HK1.out.below hB2 HK1.out.lt)
  have HV2 := Lib.hid (HV.out.below hB2)
  clear hB2 HV
  cases ho : othersB m
  · have H5 := Lib.hid (H4.out hk.out ht.out ho)
    have hF0 := Lib.hid (firstE_none (g := faultP m) (L := fieldsL m.kd))
    have hF1 := Lib.hid (fun k hk h he => firstE_hit (g := faultP m) (L := fieldsL m.kd) (k := k) hk h he)
    rw [← H5.out] at hF0 hF1
    clear H5 ho H1 H2 H3 H4 hO
    have hlt := Lib.hid (fun j hj => getD_lt hk.out (j := j) hj)
    obtain ⟨p, hvv, hl4, _⟩ := id HV2.out
    subst hvv
    go_wp2
    go_loopw [25] (fun vk wr => ∃ k : Nat, vk = .int .i64 (k : Int) ∧ k ≤ (fieldsL m.kd).length ∧ Hid (Below w2.heap.size w2 wr) ∧ Hid (∀ j, j < k → faultP m ((fieldsL m.kd).getD j 0) = 0)) (fun vk _ => (fieldsL m.kd).length - (intOf vk).toNat)
    case atStart => exact ⟨0, rfl, by omega, Below.refl _ _, fun j hj => by omega⟩
    case round =>
      obtain ⟨k, rfl, hkl, HB, ha⟩ := hrel
      by_cases hkk : k < (fieldsL m.kd).length
      · obtain ⟨b, hp, hb, hc⟩ := HV2.out.at_ HB.out hkk
        obtain rfl : p = some ⟨b, 0, none⟩ := by injection hp with h1 h2 h3
        clear hp
        have HBw := HB2.out.trans (HB.out.mono HB2.out.size)
        have hq := hL.out _ (hlt.out k hkk) wr (HK2.out.below HB.out HK2.out.lt) (HR.out.below HBw) (HG.out.below HBw)
        replace HBw := Lib.hid HBw
        have hE := Lib.hid (fun h => hF1.out k hkk ha.out h)
        have hA := Lib.hid (fun h => fault_step ha.out (k := k) h)
        generalize (fieldsL m.kd).getD k 0 = f at *
        generalize faultP m f = z at *
        generalize zeroB m f = y at *
        replace hq := Lib.hid hq
        go_wp2_with fail
        refine hq.out.mono ?_
        rintro e w3 ⟨rfl, hB3⟩
        have HB3 := Lib.hid (HB.out.trans (hB3.mono HB.out.size))
        have HB4 := Lib.hid (HBw.out.trans (hB3.mono HBw.out.size))
        clear hB3
        by_cases hz0 : z = 0
        · have hA' := Lib.hid (hA.out hz0)
          subst hz0
          clear hA hE
          go_wp2
          exact ⟨⟨k + 1, by go_num, by omega, HB3, hA'⟩, by simp [intOf]; omega⟩
        · have hr := Lib.hid (hE.out hz0)
          have hz1 : (z != 0) = true := by simpa using hz0
          clear hA hE hz0
          go_wp2
          go_ret
          rw [hr.out]
          exact ⟨rfl, HB4.out⟩
      · obtain rfl : k = (fieldsL m.kd).length := by omega
        have hr := Lib.hid (hF0.out ha.out)
        clear ha hkk hF0 hF1
        go_wp2
        go_ret
        rw [hr.out]
        exact ⟨rfl, HB2.out.trans (HB.out.mono HB2.out.size)⟩
  · have hr := Lib.hid (H3.out hk.out ht.out ho)
    clear ho
    go_wp2
    go_ret
    rw [hr.out]
    exact ⟨rfl, HB2.out⟩
end Go.Proofs.YtlfdmbfbfadifaaGreatDoor
