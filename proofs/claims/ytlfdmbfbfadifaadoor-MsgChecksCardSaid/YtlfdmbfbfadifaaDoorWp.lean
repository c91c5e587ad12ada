/-
  Walks of package msg: look.
-/
import Derived.Test.YtlfdmbfbfadifaaDoorWo
import Derived.Deep.RegionHeld3
import Derived.Deep.QuietTactic
namespace Go.Proofs.YtlfdmbfbfadifaaDoor
open Go.RowKit

theorem quiet_same {P : Program} {f : FuncId} {args : Array Value} {w : World} {n : Nat} {v : Value}
    (h : Calls P f args (w.drewN n) fun e w' => e = .returned v ∧ w.drewN n = w') : Calls P f args (w.drewN n) fun e w'' => e = .returned v ∧ ∃ m, w'' = w.drewN m :=
  h.mono fun _ _ ⟨he, hm⟩ => ⟨he, n, hm.symm⟩


set_option maxRecDepth 100000 in
set_option maxHeartbeats 3200000 in
theorem look_0 (m : MM) (_hm : inM m) (b : Nat) (w : World) (hK : BlkM w b m) :
    Calls Tryd.prog 42 #[.pointer (some ⟨b, 0, none⟩), .int .i64 0] w fun e w' => e = .returned (.tuple #[.bool (zeroB m 0), .int .i64 (faultP m 0)]) ∧ Below w.heap.size w w' := by
  have hN := Lib.hid (fun W => number_lit m.fi 4294967294 4294967294 rfl W)
  have HR : Hid ((zeroB m 0, faultP m 0) = ((m.fi == 0), numI m.fi 4294967294)) := rfl
  have x : w.cell? ⟨b, 2, none⟩ = some (.int .i64 m.fi) := hK.cell 2
  rw [show zeroB m 0 = (m.fi == 0) from rfl, show faultP m 0 = numI m.fi 4294967294 from rfl]
  generalize numI m.fi 4294967294 = z at *
  generalize m.fi = n at *
  clear _hm hK HR
  go_enter Tryd.func42, Tryd.ntmps42
  go_wp2_with (go_at_call 60; refine (hN.out _).mono ?_; rintro e w' ⟨rfl, rfl⟩)
  go_ret2
  exact ⟨rfl, Below.refl _ _⟩

set_option maxRecDepth 100000 in
set_option maxHeartbeats 3200000 in
theorem look_1 (m : MM) (_hm : inM m) (b : Nat) (w : World) (hK : BlkM w b m) :
    Calls Tryd.prog 42 #[.pointer (some ⟨b, 0, none⟩), .int .i64 1] w fun e w' => e = .returned (.tuple #[.bool (zeroB m 1), .int .i64 (faultP m 1)]) ∧ Below w.heap.size w w' := by
  have hN := Lib.hid (fun W => number_lit m.nf 4294967294 4294967294 rfl W)
  have HR : Hid ((zeroB m 1, faultP m 1) = ((m.nf == 0), numI m.nf 4294967294)) := rfl
  have x : w.cell? ⟨b, 3, none⟩ = some (.int .i64 m.nf) := hK.cell 3
  rw [show zeroB m 1 = (m.nf == 0) from rfl, show faultP m 1 = numI m.nf 4294967294 from rfl]
  generalize numI m.nf 4294967294 = z at *
  generalize m.nf = n at *
  clear _hm hK HR
  go_enter Tryd.func42, Tryd.ntmps42
  go_wp2_with (go_at_call 60; refine (hN.out _).mono ?_; rintro e w' ⟨rfl, rfl⟩)
  go_ret2
  exact ⟨rfl, Below.refl _ _⟩

set_option maxRecDepth 100000 in
set_option maxHeartbeats 3200000 in
theorem look_2 (m : MM) (_hm : inM m) (b : Nat) (w : World) (hK : BlkM w b m) :
    Calls Tryd.prog 42 #[.pointer (some ⟨b, 0, none⟩), .int .i64 2] w fun e w' => e = .returned (.tuple #[.bool (zeroB m 2), .int .i64 (faultP m 2)]) ∧ Below w.heap.size w w' := by
  have hN := Lib.hid (fun W => number_any m.af (authP m.kd) W)
  have hA := Lib.hid (fun W => authGreatest_any m.kd W)
  have x : w.cell? ⟨b, 4, none⟩ = some (.int .i64 m.af) := hK.cell 4
  have x0 : w.cell? ⟨b, 0, none⟩ = some (.int .i64 m.kd) := hK.cell 0
  rw [show zeroB m 2 = (m.af == 0) from rfl, show faultP m 2 = numI m.af (authP m.kd) from rfl]
  generalize numI m.af (authP m.kd) = z at *
  generalize (m.af == 0) = y at *
  generalize authP m.kd = a at *
  generalize m.af = n at *
  generalize m.kd = k at *
  clear _hm hK
  go_enter Tryd.func42, Tryd.ntmps42
  go_wp2
  go_quiet ((first | (go_at_call 61; with_reducible exact quiet_same (hA.out _)) | (go_at_call 60; with_reducible exact quiet_same (hN.out _))))
  go_wp2
  go_ret2
  exact ⟨rfl, below_drewN (Below.refl _ _) _⟩

set_option maxRecDepth 100000 in
set_option maxHeartbeats 3200000 in
theorem look_3 (m : MM) (_hm : inM m) (b : Nat) (w : World) (hK : BlkM w b m) :
    Calls Tryd.prog 42 #[.pointer (some ⟨b, 0, none⟩), .int .i64 3] w fun e w' => e = .returned (.tuple #[.bool (zeroB m 3), .int .i64 (faultP m 3)]) ∧ Below w.heap.size w w' := by
  have hN := Lib.hid (fun W => number_lit m.ot 65534 65534 rfl W)
  have HR : Hid ((zeroB m 3, faultP m 3) = ((m.ot == 0), numI m.ot 65534)) := rfl
  have x : w.cell? ⟨b, 5, none⟩ = some (.int .i64 m.ot) := hK.cell 5
  rw [show zeroB m 3 = (m.ot == 0) from rfl, show faultP m 3 = numI m.ot 65534 from rfl]
  generalize numI m.ot 65534 = z at *
  generalize m.ot = n at *
  clear _hm hK HR
  go_enter Tryd.func42, Tryd.ntmps42
  go_wp2_with (go_at_call 60; refine (hN.out _).mono ?_; rintro e w' ⟨rfl, rfl⟩)
  go_ret2
  exact ⟨rfl, Below.refl _ _⟩

set_option maxRecDepth 100000 in
set_option maxHeartbeats 3200000 in
theorem look_4 (m : MM) (_hm : inM m) (b : Nat) (w : World) (hK : BlkM w b m) :
    Calls Tryd.prog 42 #[.pointer (some ⟨b, 0, none⟩), .int .i64 4] w fun e w' => e = .returned (.tuple #[.bool (zeroB m 4), .int .i64 (faultP m 4)]) ∧ Below w.heap.size w w' := by
  have hN := Lib.hid (fun W => number_lit m.ms 4294967295 4294967295 rfl W)
  have HR : Hid ((zeroB m 4, faultP m 4) = ((m.ms == 0), numI m.ms 4294967295)) := rfl
  have x : w.cell? ⟨b, 6, none⟩ = some (.int .i64 m.ms) := hK.cell 6
  rw [show zeroB m 4 = (m.ms == 0) from rfl, show faultP m 4 = numI m.ms 4294967295 from rfl]
  generalize numI m.ms 4294967295 = z at *
  generalize m.ms = n at *
  clear _hm hK HR
  go_enter Tryd.func42, Tryd.ntmps42
  go_wp2_with (go_at_call 60; refine (hN.out _).mono ?_; rintro e w' ⟨rfl, rfl⟩)
  go_ret2
  exact ⟨rfl, Below.refl _ _⟩

set_option maxRecDepth 100000 in
set_option maxHeartbeats 3200000 in
theorem look_5 (m : MM) (hm : inM m) (b : Nat) (w : World) (hK : BlkM w b m) :
    Calls Tryd.prog 42 #[.pointer (some ⟨b, 0, none⟩), .int .i64 5] w fun e w' => e = .returned (.tuple #[.bool (zeroB m 5), .int .i64 (faultP m 5)]) ∧ Below w.heap.size w w' := by
  have hN := Lib.hid (fun W => text_any m.ve 64 64 rfl hm.2.2.2.2.2.1 W)
  have x : w.cell? ⟨b, 7, none⟩ = some (.string (mk m.ve)) := hK.cell 7
  rw [show zeroB m 5 = (m.ve == []) from rfl, show faultP m 5 = txtI m.ve 64 from rfl]
  generalize txtI m.ve 64 = z at *
  generalize (m.ve == []) = y at *
  generalize mk m.ve = n at *
  clear hm hK
  go_enter Tryd.func42, Tryd.ntmps42
  go_wp2_with (go_at_call 62; refine (hN.out _).mono ?_; rintro e w' ⟨rfl, rfl⟩)
  go_ret2
  exact ⟨rfl, Below.refl _ _⟩

set_option maxRecDepth 100000 in
set_option maxHeartbeats 3200000 in
theorem look_6 (m : MM) (hm : inM m) (b : Nat) (w : World) (hK : BlkM w b m) :
    Calls Tryd.prog 42 #[.pointer (some ⟨b, 0, none⟩), .int .i64 6] w fun e w' => e = .returned (.tuple #[.bool (zeroB m 6), .int .i64 (faultP m 6)]) ∧ Below w.heap.size w w' := by
  have hN := Lib.hid (fun W => text_any m.us 32 32 rfl hm.2.2.2.2.2.2.1 W)
  have x : w.cell? ⟨b, 8, none⟩ = some (.string (mk m.us)) := hK.cell 8
  rw [show zeroB m 6 = (m.us == []) from rfl, show faultP m 6 = txtI m.us 32 from rfl]
  generalize txtI m.us 32 = z at *
  generalize (m.us == []) = y at *
  generalize mk m.us = n at *
  clear hm hK
  go_enter Tryd.func42, Tryd.ntmps42
  go_wp2_with (go_at_call 62; refine (hN.out _).mono ?_; rintro e w' ⟨rfl, rfl⟩)
  go_ret2
  exact ⟨rfl, Below.refl _ _⟩

set_option maxRecDepth 100000 in
set_option maxHeartbeats 3200000 in
theorem look_7 (m : MM) (hm : inM m) (b : Nat) (w : World) (hK : BlkM w b m) :
    Calls Tryd.prog 42 #[.pointer (some ⟨b, 0, none⟩), .int .i64 7] w fun e w' => e = .returned (.tuple #[.bool (zeroB m 7), .int .i64 (faultP m 7)]) ∧ Below w.heap.size w w' := by
  have hN := Lib.hid (fun W => text_any m.ac 1024 1024 rfl hm.2.2.2.2.2.2.2.1 W)
  have x : w.cell? ⟨b, 9, none⟩ = some (.string (mk m.ac)) := hK.cell 9
  rw [show zeroB m 7 = (m.ac == []) from rfl, show faultP m 7 = txtI m.ac 1024 from rfl]
  generalize txtI m.ac 1024 = z at *
  generalize (m.ac == []) = y at *
  generalize mk m.ac = n at *
  clear hm hK
  go_enter Tryd.func42, Tryd.ntmps42
  go_wp2_with (go_at_call 62; refine (hN.out _).mono ?_; rintro e w' ⟨rfl, rfl⟩)
  go_ret2
  exact ⟨rfl, Below.refl _ _⟩

set_option maxRecDepth 100000 in
set_option maxHeartbeats 3200000 in
theorem look_8 (m : MM) (hm : inM m) (b : Nat) (w : World) (hK : BlkM w b m) (hr : RowM w m) :
    Calls Tryd.prog 42 #[.pointer (some ⟨b, 0, none⟩), .int .i64 8] w fun e w' => e = .returned (.tuple #[.bool (zeroB m 8), .int .i64 (faultP m 8)]) ∧ Below w.heap.size w w' := by
  have hN := Lib.hid (fun W (h : SRow W m.nv m.nl) => checkNames_any m.nv m.nl W h hm.2.2.2.2.1)
  have x : w.cell? ⟨b, 10, none⟩ = some m.nv := hK.cell 10
  have HS := Lib.hid hr.1
  obtain ⟨ps, cap, hv, hc, hcm, -⟩ := hr.1
  rw [hv] at x hN HS
  unfold maxLen at hcm
  replace hN := Lib.hid (fun k => hN.out (w.drewN k) (show SRow (w.drewN k) _ _ from HS.out))
  rw [show zeroB m 8 = (m.nl.length == 0) from rfl, show faultP m 8 = wordsI m.nl from rfl, ← len_zero]
  clear hm hK HS hr hv
  generalize wordsI m.nl = z at *
  generalize m.nl.length = n at *
  go_enter Tryd.func42, Tryd.ntmps42
  go_wp2
  go_quiet ((go_at_call 63; with_reducible exact quiet_same (hN.out _)))
  go_wp2
  go_ret2
  exact ⟨rfl, below_drewN (Below.refl _ _) _⟩

set_option maxRecDepth 100000 in
set_option maxHeartbeats 3200000 in
theorem look_9 (m : MM) (hm : inM m) (b : Nat) (w : World) (hK : BlkM w b m) (hr : RowM w m) :
    Calls Tryd.prog 42 #[.pointer (some ⟨b, 0, none⟩), .int .i64 9] w fun e w' => e = .returned (.tuple #[.bool (zeroB m 9), .int .i64 (faultP m 9)]) ∧ Below w.heap.size w w' := by
  have hN := Lib.hid (fun W (h : QRow W m.qv m.ql) => checkQids_any m.qv m.ql W h hm.2.2.2.1)
  have x : ∀ W, Below w.heap.size w W → W.cell? ⟨b, 11, none⟩ = some m.qv := fun W h => (hK.below h hK.lt).cell 11
  have HS := Lib.hid hr.2
  obtain ⟨ps, cap, hv, hc, hcm, -⟩ := hr.2
  rw [hv] at x hN HS
  unfold maxLen at hcm
  have hx := Lib.hid x
  have HBd := Lib.hid (below_drew (Below.refl w.heap.size w))
  replace hN := Lib.hid (hN.out w.drew (show QRow w.drew _ _ from HS.out))
  rw [show zeroB m 9 = (m.ql.length == 0) from rfl, show faultP m 9 = qidsI m.ql from rfl, ← len_zero]
  clear hm hK HS hr hv x
  generalize qidsI m.ql = z at *
  generalize m.ql.length = n at *
  go_enter Tryd.func42, Tryd.ntmps42
  go_wp2
  go_region_held3 (fun W' => W'.cell? ⟨b, 11, none⟩ = some (.slice ps n cap)) (first | exact hx.out _ HBd.out | exact hx.out _ HQ.out) (first | (go_at_call 64; refine hN.out.mono ?_; rintro e W2 ⟨rfl, hB2⟩; have HQ := Lib.hid (HBd.out.trans (hB2.mono HBd.out.size)); clear hB2))
  all_goals go_wp2
  all_goals go_ret2
  all_goals exact ⟨rfl, HQ.out⟩

set_option maxRecDepth 100000 in
set_option maxHeartbeats 3200000 in
theorem look_10 (m : MM) (hm : inM m) (b : Nat) (w : World) (hK : BlkM w b m) :
    Calls Tryd.prog 42 #[.pointer (some ⟨b, 0, none⟩), .int .i64 10] w fun e w' => e = .returned (.tuple #[.bool (zeroB m 10), .int .i64 (faultP m 10)]) ∧ Below w.heap.size w w' := by
  have hN := fun W => checkQid_any m.qd hm.1 W
  unfold qidV at hN
  replace hN := Lib.hid hN
  have x : ∀ W, Below w.heap.size w W → W.cell? ⟨b, 12, none⟩ = some (.int .i64 m.qd.t) ∧ W.cell? ⟨b, 13, none⟩ = some (.int .i64 m.qd.v) ∧ W.cell? ⟨b, 14, none⟩ = some (.int .i64 m.qd.p) := fun W h => ⟨(hK.below h hK.lt).cell 12, (hK.below h hK.lt).cell 13, (hK.below h hK.lt).cell 14⟩
  have hx := Lib.hid x
  have HBd := Lib.hid (below_drew (Below.refl w.heap.size w))
  have hE := eql_no m.qd
  have hG := fun x y => guard_no .eql x y m.qd
  rw [show zeroB m 10 = isNo m.qd from rfl, show faultP m 10 = qidI m.qd from rfl]
  clear hm hK x
  generalize qidI m.qd = z at *
  generalize isNo m.qd = y at *
  generalize m.qd.t = n0 at *
  generalize m.qd.v = n1 at *
  generalize m.qd.p = n2 at *
  go_enter Tryd.func42, Tryd.ntmps42
  go_wp2
  go_region_held3 (fun W' => W'.cell? ⟨b, 12, none⟩ = some (.int .i64 n0) ∧ W'.cell? ⟨b, 13, none⟩ = some (.int .i64 n1) ∧ W'.cell? ⟨b, 14, none⟩ = some (.int .i64 n2)) (first | exact hx.out _ HBd.out | exact hx.out _ HQ.out) (first | (go_at_call 65; refine (hN.out _).mono ?_; rintro e W2 ⟨rfl, hB2⟩; have HQ := Lib.hid (HBd.out.trans (hB2.mono HBd.out.size)); clear hB2))
  all_goals go_wp2
  all_goals go_ret2
  all_goals exact ⟨rfl, HQ.out⟩

set_option maxRecDepth 100000 in
set_option maxHeartbeats 3200000 in
theorem look_11 (m : MM) (_hm : inM m) (b : Nat) (w : World) (hK : BlkM w b m) :
    Calls Tryd.prog 42 #[.pointer (some ⟨b, 0, none⟩), .int .i64 11] w fun e w' => e = .returned (.tuple #[.bool (zeroB m 11), .int .i64 (faultP m 11)]) ∧ Below w.heap.size w w' := by
  have hN := Lib.hid (fun W => number_lit m.io 8192 8192 rfl W)
  have HR : Hid ((zeroB m 11, faultP m 11) = ((m.io == 0), numI m.io 8192)) := rfl
  have x : w.cell? ⟨b, 15, none⟩ = some (.int .i64 m.io) := hK.cell 15
  rw [show zeroB m 11 = (m.io == 0) from rfl, show faultP m 11 = numI m.io 8192 from rfl]
  generalize numI m.io 8192 = z at *
  generalize m.io = n at *
  clear _hm hK HR
  go_enter Tryd.func42, Tryd.ntmps42
  go_wp2_with (go_at_call 60; refine (hN.out _).mono ?_; rintro e w' ⟨rfl, rfl⟩)
  go_ret2
  exact ⟨rfl, Below.refl _ _⟩

set_option maxRecDepth 100000 in
set_option maxHeartbeats 3200000 in
theorem look_12 (m : MM) (_hm : inM m) (b : Nat) (w : World) (hK : BlkM w b m) :
    Calls Tryd.prog 42 #[.pointer (some ⟨b, 0, none⟩), .int .i64 12] w fun e w' => e = .returned (.tuple #[.bool (zeroB m 12), .int .i64 (faultP m 12)]) ∧ Below w.heap.size w w' := by
  have hN := Lib.hid (fun W => number_lit m.mo 255 255 rfl W)
  have HR : Hid ((zeroB m 12, faultP m 12) = ((m.mo == 0), numI m.mo 255)) := rfl
  have x : w.cell? ⟨b, 16, none⟩ = some (.int .i64 m.mo) := hK.cell 16
  rw [show zeroB m 12 = (m.mo == 0) from rfl, show faultP m 12 = numI m.mo 255 from rfl]
  generalize numI m.mo 255 = z at *
  generalize m.mo = n at *
  clear _hm hK HR
  go_enter Tryd.func42, Tryd.ntmps42
  go_wp2_with (go_at_call 60; refine (hN.out _).mono ?_; rintro e w' ⟨rfl, rfl⟩)
  go_ret2
  exact ⟨rfl, Below.refl _ _⟩

set_option maxRecDepth 100000 in
set_option maxHeartbeats 3200000 in
theorem look_13 (m : MM) (_hm : inM m) (b : Nat) (w : World) (hK : BlkM w b m) :
    Calls Tryd.prog 42 #[.pointer (some ⟨b, 0, none⟩), .int .i64 13] w fun e w' => e = .returned (.tuple #[.bool (zeroB m 13), .int .i64 (faultP m 13)]) ∧ Below w.heap.size w w' := by
  have hN := Lib.hid (fun W => number_lit m.pe 4294967295 4294967295 rfl W)
  have HR : Hid ((zeroB m 13, faultP m 13) = ((m.pe == 0), numI m.pe 4294967295)) := rfl
  have x : w.cell? ⟨b, 17, none⟩ = some (.int .i64 m.pe) := hK.cell 17
  rw [show zeroB m 13 = (m.pe == 0) from rfl, show faultP m 13 = numI m.pe 4294967295 from rfl]
  generalize numI m.pe 4294967295 = z at *
  generalize m.pe = n at *
  clear _hm hK HR
  go_enter Tryd.func42, Tryd.ntmps42
  go_wp2_with (go_at_call 60; refine (hN.out _).mono ?_; rintro e w' ⟨rfl, rfl⟩)
  go_ret2
  exact ⟨rfl, Below.refl _ _⟩

set_option maxRecDepth 100000 in
set_option maxHeartbeats 3200000 in
theorem look_14 (m : MM) (hm : inM m) (b : Nat) (w : World) (hK : BlkM w b m) :
    Calls Tryd.prog 42 #[.pointer (some ⟨b, 0, none⟩), .int .i64 14] w fun e w' => e = .returned (.tuple #[.bool (zeroB m 14), .int .i64 (faultP m 14)]) ∧ Below w.heap.size w w' := by
  have hN := Lib.hid (fun W => checkName_any m.na hm.2.2.2.2.2.2.2.2.1 W)
  have x : w.cell? ⟨b, 18, none⟩ = some (.string (mk m.na)) := hK.cell 18
  have he : (m.na == []) = ((mk m.na).toList == []) := by rw [mk_toList]
  rw [show zeroB m 14 = (m.na == []) from rfl, show faultP m 14 = (if validL m.na then 0 else 6) from rfl]
  generalize (if validL m.na = true then (0 : Int) else 6) = z at *
  generalize (m.na == []) = y at *
  generalize mk m.na = n at *
  replace he := Lib.hid he
  clear hm hK
  go_enter Tryd.func42, Tryd.ntmps42
  go_wp2
  go_quiet ((go_at_call 66; with_reducible exact quiet_same (hN.out _)))
  go_wp2
  go_ret2
  rw [he.out]
  exact ⟨retBI (by simp) rfl, below_drewN (Below.refl _ _) _⟩

set_option maxRecDepth 100000 in
set_option maxHeartbeats 3200000 in
theorem look_15 (m : MM) (_hm : inM m) (b : Nat) (w : World) (hK : BlkM w b m) :
    Calls Tryd.prog 42 #[.pointer (some ⟨b, 0, none⟩), .int .i64 15] w fun e w' => e = .returned (.tuple #[.bool (zeroB m 15), .int .i64 (faultP m 15)]) ∧ Below w.heap.size w w' := by
  have hN := Lib.hid (fun W => number_lit m.os 9007199254740991 9007199254740991 rfl W)
  have HR : Hid ((zeroB m 15, faultP m 15) = ((m.os == 0), numI m.os 9007199254740991)) := rfl
  have x : w.cell? ⟨b, 19, none⟩ = some (.int .i64 m.os) := hK.cell 19
  rw [show zeroB m 15 = (m.os == 0) from rfl, show faultP m 15 = numI m.os 9007199254740991 from rfl]
  generalize numI m.os 9007199254740991 = z at *
  generalize m.os = n at *
  clear _hm hK HR
  go_enter Tryd.func42, Tryd.ntmps42
  go_wp2_with (go_at_call 60; refine (hN.out _).mono ?_; rintro e w' ⟨rfl, rfl⟩)
  go_ret2
  exact ⟨rfl, Below.refl _ _⟩

set_option maxRecDepth 100000 in
set_option maxHeartbeats 3200000 in
theorem look_16 (m : MM) (_hm : inM m) (b : Nat) (w : World) (hK : BlkM w b m) :
    Calls Tryd.prog 42 #[.pointer (some ⟨b, 0, none⟩), .int .i64 16] w fun e w' => e = .returned (.tuple #[.bool (zeroB m 16), .int .i64 (faultP m 16)]) ∧ Below w.heap.size w w' := by
  have hN := Lib.hid (fun W => number_lit m.co 8192 8192 rfl W)
  have HR : Hid ((zeroB m 16, faultP m 16) = ((m.co == 0), numI m.co 8192)) := rfl
  have x : w.cell? ⟨b, 20, none⟩ = some (.int .i64 m.co) := hK.cell 20
  rw [show zeroB m 16 = (m.co == 0) from rfl, show faultP m 16 = numI m.co 8192 from rfl]
  generalize numI m.co 8192 = z at *
  generalize m.co = n at *
  clear _hm hK HR
  go_enter Tryd.func42, Tryd.ntmps42
  go_wp2_with (go_at_call 60; refine (hN.out _).mono ?_; rintro e w' ⟨rfl, rfl⟩)
  go_ret2
  exact ⟨rfl, Below.refl _ _⟩

set_option maxRecDepth 100000 in
set_option maxHeartbeats 3200000 in
theorem look_17 (m : MM) (hm : inM m) (b : Nat) (w : World) (hK : BlkM w b m) :
    Calls Tryd.prog 42 #[.pointer (some ⟨b, 0, none⟩), .int .i64 17] w fun e w' => e = .returned (.tuple #[.bool (zeroB m 17), .int .i64 (faultP m 17)]) ∧ Below w.heap.size w w' := by
  have hN := Lib.hid (fun W => text_any m.da 8168 8168 rfl hm.2.2.2.2.2.2.2.2.2.1 W)
  have x : w.cell? ⟨b, 21, none⟩ = some (.string (mk m.da)) := hK.cell 21
  rw [show zeroB m 17 = (m.da == []) from rfl, show faultP m 17 = txtI m.da 8168 from rfl]
  generalize txtI m.da 8168 = z at *
  generalize (m.da == []) = y at *
  generalize mk m.da = n at *
  clear hm hK
  go_enter Tryd.func42, Tryd.ntmps42
  go_wp2_with (go_at_call 62; refine (hN.out _).mono ?_; rintro e w' ⟨rfl, rfl⟩)
  go_ret2
  exact ⟨rfl, Below.refl _ _⟩

set_option maxRecDepth 100000 in
set_option maxHeartbeats 3200000 in
theorem look_18 (m : MM) (hm : inM m) (b : Nat) (w : World) (hK : BlkM w b m) (g : G w) :
    Calls Tryd.prog 42 #[.pointer (some ⟨b, 0, none⟩), .int .i64 18] w fun e w' => e = .returned (.tuple #[.bool (zeroB m 18), .int .i64 (faultP m 18)]) ∧ Below w.heap.size w w' := by
  have hN := fun W h => Check_any m.st hm.2.1 hm.2.2.1 W h
  have hV : dirV m.st = .agg #[.int .i64 m.st.ty, .int .i64 m.st.dv, .int .i64 m.st.qt, .int .i64 m.st.qv, .int .i64 m.st.qp, .int .i64 m.st.mo, .int .i64 m.st.ai, .int .i64 m.st.mi, .int .i64 m.st.ln, .string (mk m.st.nm), .string (mk m.st.ui), .string (mk m.st.gi), .string (mk m.st.mu)] := rfl
  rw [hV] at hN
  replace hN := Lib.hid hN
  have x : ∀ W, Below w.heap.size w W → W.cell? ⟨b, 22, none⟩ = some (.int .i64 m.st.ty) ∧ W.cell? ⟨b, 23, none⟩ = some (.int .i64 m.st.dv) ∧ W.cell? ⟨b, 24, none⟩ = some (.int .i64 m.st.qt) ∧ W.cell? ⟨b, 25, none⟩ = some (.int .i64 m.st.qv) ∧ W.cell? ⟨b, 26, none⟩ = some (.int .i64 m.st.qp) ∧ W.cell? ⟨b, 27, none⟩ = some (.int .i64 m.st.mo) ∧ W.cell? ⟨b, 28, none⟩ = some (.int .i64 m.st.ai) ∧ W.cell? ⟨b, 29, none⟩ = some (.int .i64 m.st.mi) ∧ W.cell? ⟨b, 30, none⟩ = some (.int .i64 m.st.ln) ∧ W.cell? ⟨b, 31, none⟩ = some (.string (mk m.st.nm)) ∧ W.cell? ⟨b, 32, none⟩ = some (.string (mk m.st.ui)) ∧ W.cell? ⟨b, 33, none⟩ = some (.string (mk m.st.gi)) ∧ W.cell? ⟨b, 34, none⟩ = some (.string (mk m.st.mu)) := fun W h => have hc := (hK.below h hK.lt).cell; ⟨hc 22, hc 23, hc 24, hc 25, hc 26, hc 27, hc 28, hc 29, hc 30, hc 31, hc 32, hc 33, hc 34⟩
  have hx := Lib.hid x
  have HBd := Lib.hid (below_drew (Below.refl w.heap.size w))
  have HG := Lib.hid (show G w.drew from g)
  have hE : ∀ W, (binOp .eql 32 (.agg #[.int .i64 m.st.ty, .int .i64 m.st.dv, .int .i64 m.st.qt, .int .i64 m.st.qv, .int .i64 m.st.qp, .int .i64 m.st.mo, .int .i64 m.st.ai, .int .i64 m.st.mi, .int .i64 m.st.ln, .string (mk m.st.nm), .string (mk m.st.ui), .string (mk m.st.gi), .string (mk m.st.mu)]) (.agg #[.int .i64 0, .int .i64 0, .int .i64 0, .int .i64 0, .int .i64 0, .int .i64 0, .int .i64 0, .int .i64 0, .int .i64 0, .string ⟨#[]⟩, .string ⟨#[]⟩, .string ⟨#[]⟩, .string ⟨#[]⟩])).run Tryd.prog W = .ok (.bool (eqDD m.st noD)) W := eql_noD m.st
  have hG : ∀ x y W, (eqGuard .eql 32 x y (.agg #[.int .i64 m.st.ty, .int .i64 m.st.dv, .int .i64 m.st.qt, .int .i64 m.st.qv, .int .i64 m.st.qp, .int .i64 m.st.mo, .int .i64 m.st.ai, .int .i64 m.st.mi, .int .i64 m.st.ln, .string (mk m.st.nm), .string (mk m.st.ui), .string (mk m.st.gi), .string (mk m.st.mu)]) (.agg #[.int .i64 0, .int .i64 0, .int .i64 0, .int .i64 0, .int .i64 0, .int .i64 0, .int .i64 0, .int .i64 0, .int .i64 0, .string ⟨#[]⟩, .string ⟨#[]⟩, .string ⟨#[]⟩, .string ⟨#[]⟩])).run Tryd.prog W = .ok () W := fun x y => guard_noD .eql x y m.st
  rw [show zeroB m 18 = eqDD m.st noD from rfl, show faultP m 18 = checkR m.st from rfl]
  clear hm hK x g hV
  generalize checkR m.st = z at *
  generalize eqDD m.st noD = y at *
  generalize m.st = d at *
  go_enter Tryd.func42, Tryd.ntmps42
  go_wp2
  go_region_held3 (fun W' => W'.cell? ⟨b, 22, none⟩ = some (.int .i64 d.ty) ∧ W'.cell? ⟨b, 23, none⟩ = some (.int .i64 d.dv) ∧ W'.cell? ⟨b, 24, none⟩ = some (.int .i64 d.qt) ∧ W'.cell? ⟨b, 25, none⟩ = some (.int .i64 d.qv) ∧ W'.cell? ⟨b, 26, none⟩ = some (.int .i64 d.qp) ∧ W'.cell? ⟨b, 27, none⟩ = some (.int .i64 d.mo) ∧ W'.cell? ⟨b, 28, none⟩ = some (.int .i64 d.ai) ∧ W'.cell? ⟨b, 29, none⟩ = some (.int .i64 d.mi) ∧ W'.cell? ⟨b, 30, none⟩ = some (.int .i64 d.ln) ∧ W'.cell? ⟨b, 31, none⟩ = some (.string (mk d.nm)) ∧ W'.cell? ⟨b, 32, none⟩ = some (.string (mk d.ui)) ∧ W'.cell? ⟨b, 33, none⟩ = some (.string (mk d.gi)) ∧ W'.cell? ⟨b, 34, none⟩ = some (.string (mk d.mu))) (first | exact hx.out _ HBd.out | exact hx.out _ HQ.out) (first | (go_at_call 67; refine (hN.out _ HG.out).mono ?_; rintro e W2 ⟨rfl, hB2⟩; have HQ := Lib.hid (HBd.out.trans (hB2.mono HBd.out.size)); clear hB2))
  all_goals go_wp2
  all_goals go_ret2
  all_goals exact ⟨rfl, HQ.out⟩

set_option maxRecDepth 100000 in
set_option maxHeartbeats 3200000 in
theorem look_19 (m : MM) (_hm : inM m) (b : Nat) (w : World) (hK : BlkM w b m) :
    Calls Tryd.prog 42 #[.pointer (some ⟨b, 0, none⟩), .int .i64 19] w fun e w' => e = .returned (.tuple #[.bool (zeroB m 19), .int .i64 (faultP m 19)]) ∧ Below w.heap.size w w' := by
  have hN := Lib.hid (fun W => checkErr_any m.er W)
  have x : w.cell? ⟨b, 35, none⟩ = some (.int .i64 m.er) := hK.cell 35
  rw [show zeroB m 19 = (m.er == 0) from rfl, show faultP m 19 = errI m.er from rfl]
  generalize errI m.er = z at *
  generalize m.er = n at *
  clear _hm hK
  go_enter Tryd.func42, Tryd.ntmps42
  go_wp2
  go_quiet ((go_at_call 68; with_reducible exact quiet_same (hN.out _)))
  go_wp2
  go_ret2
  exact ⟨rfl, below_drewN (Below.refl _ _) _⟩

set_option maxRecDepth 100000 in
set_option maxHeartbeats 3200000 in
theorem look_20 (m : MM) (_hm : inM m) (b : Nat) (w : World) (hK : BlkM w b m) :
    Calls Tryd.prog 42 #[.pointer (some ⟨b, 0, none⟩), .int .i64 20] w fun e w' => e = .returned (.tuple #[.bool (zeroB m 20), .int .i64 (faultP m 20)]) ∧ Below w.heap.size w w' := by
  have hN := Lib.hid (fun W => number_lit m.lz 2 2 rfl W)
  have HR : Hid ((zeroB m 20, faultP m 20) = ((m.lz == 0), numI m.lz 2)) := rfl
  have x : w.cell? ⟨b, 36, none⟩ = some (.int .i64 m.lz) := hK.cell 36
  rw [show zeroB m 20 = (m.lz == 0) from rfl, show faultP m 20 = numI m.lz 2 from rfl]
  generalize numI m.lz 2 = z at *
  generalize m.lz = n at *
  clear _hm hK HR
  go_enter Tryd.func42, Tryd.ntmps42
  go_wp2_with (go_at_call 60; refine (hN.out _).mono ?_; rintro e w' ⟨rfl, rfl⟩)
  go_ret2
  exact ⟨rfl, Below.refl _ _⟩

set_option maxRecDepth 100000 in
set_option maxHeartbeats 3200000 in
theorem look_21 (m : MM) (_hm : inM m) (b : Nat) (w : World) (hK : BlkM w b m) :
    Calls Tryd.prog 42 #[.pointer (some ⟨b, 0, none⟩), .int .i64 21] w fun e w' => e = .returned (.tuple #[.bool (zeroB m 21), .int .i64 (faultP m 21)]) ∧ Below w.heap.size w w' := by
  have hN := Lib.hid (fun W => number_lit m.te 1048576 1048576 rfl W)
  have HR : Hid ((zeroB m 21, faultP m 21) = ((m.te == 0), numI m.te 1048576)) := rfl
  have x : w.cell? ⟨b, 37, none⟩ = some (.int .i64 m.te) := hK.cell 37
  rw [show zeroB m 21 = (m.te == 0) from rfl, show faultP m 21 = numI m.te 1048576 from rfl]
  generalize numI m.te 1048576 = z at *
  generalize m.te = n at *
  clear _hm hK HR
  go_enter Tryd.func42, Tryd.ntmps42
  go_wp2_with (go_at_call 60; refine (hN.out _).mono ?_; rintro e w' ⟨rfl, rfl⟩)
  go_ret2
  exact ⟨rfl, Below.refl _ _⟩

set_option maxRecDepth 100000 in
set_option maxHeartbeats 3200000 in
theorem look_22 (m : MM) (hm : inM m) (b : Nat) (w : World) (hK : BlkM w b m) :
    Calls Tryd.prog 42 #[.pointer (some ⟨b, 0, none⟩), .int .i64 22] w fun e w' => e = .returned (.tuple #[.bool (zeroB m 22), .int .i64 (faultP m 22)]) ∧ Below w.heap.size w w' := by
  have hN := Lib.hid (fun W => text_any m.se 64 64 rfl hm.2.2.2.2.2.2.2.2.2.2 W)
  have x : w.cell? ⟨b, 38, none⟩ = some (.string (mk m.se)) := hK.cell 38
  rw [show zeroB m 22 = (m.se == []) from rfl, show faultP m 22 = txtI m.se 64 from rfl]
  generalize txtI m.se 64 = z at *
  generalize (m.se == []) = y at *
  generalize mk m.se = n at *
  clear hm hK
  go_enter Tryd.func42, Tryd.ntmps42
  go_wp2_with (go_at_call 62; refine (hN.out _).mono ?_; rintro e w' ⟨rfl, rfl⟩)
  go_ret2
  exact ⟨rfl, Below.refl _ _⟩

theorem look_any (m : MM) (f : Nat) (hf : f < 23) (hm : inM m) (b : Nat) (w : World) (hK : BlkM w b m) (hr : RowM w m) (g : G w) :
    Calls Tryd.prog 42 #[.pointer (some ⟨b, 0, none⟩), .int .i64 (f : Int)] w fun e w' => e = .returned (.tuple #[.bool (zeroB m f), .int .i64 (faultP m f)]) ∧ Below w.heap.size w w' := by
  rcases k23 hf with rfl | rfl | rfl | rfl | rfl | rfl | rfl | rfl | rfl | rfl | rfl | rfl | rfl | rfl | rfl | rfl | rfl | rfl | rfl | rfl | rfl | rfl | rfl
  · exact look_0 m hm b w hK
  · exact look_1 m hm b w hK
  · exact look_2 m hm b w hK
  · exact look_3 m hm b w hK
  · exact look_4 m hm b w hK
  · exact look_5 m hm b w hK
  · exact look_6 m hm b w hK
  · exact look_7 m hm b w hK
  · exact look_8 m hm b w hK hr
  · exact look_9 m hm b w hK hr
  · exact look_10 m hm b w hK
  · exact look_11 m hm b w hK
  · exact look_12 m hm b w hK
  · exact look_13 m hm b w hK
  · exact look_14 m hm b w hK
  · exact look_15 m hm b w hK
  · exact look_16 m hm b w hK
  · exact look_17 m hm b w hK
  · exact look_18 m hm b w hK g
  · exact look_19 m hm b w hK
  · exact look_20 m hm b w hK
  · exact look_21 m hm b w hK
  · exact look_22 m hm b w hK
end Go.Proofs.YtlfdmbfbfadifaaDoor
