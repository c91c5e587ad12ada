/-
  Walks of the reference: the error of a field.
-/
import Derived.Test.YtlfdmbfbfadifaaGreatDoorWm
namespace Go.Proofs.YtlfdmbfbfadifaaGreatDoor
open Go.RowKit


set_option maxRecDepth 100000 in
set_option maxHeartbeats 1600000 in
theorem fault_0 (m : MM) (_hm : inM m) (w : World) :
    Calls Tryz.prog 45 #[msgV m, .int .u8 102] w fun e w' => e = .returned (.int .i64 (faultQ m 0)) ∧ Below w.heap.size w w' := by
  have HB0 := Lib.hid (fun ca => (Below.refl _ w).alloc (Nat.le_refl _) (.cells ca 30))
  have hN := Lib.hid (fun W => Rnumber_any m.fi 4294967294 4294967294 rfl W)
  have HR : Hid (faultQ m 0 = numI m.fi 4294967294) := rfl
  unfold msgV
  have x : (cellsB m)[2]? = some (.int .i64 m.fi) := rfl
  generalize cellsB m = ca at *
  generalize faultQ m 0 = r at *
  generalize numI m.fi 4294967294 = z at *
  generalize m.fi = n at *
  clear _hm
  go_enter Tryz.func45, Tryz.ntmps45
  go_wp2_with (go_at_call 69; refine (hN.out _).mono ?_; rintro e w' ⟨rfl, rfl⟩)
  go_ret
  rw [HR.out]
  exact ⟨rfl, HB0.out _⟩

set_option maxRecDepth 100000 in
set_option maxHeartbeats 1600000 in
theorem fault_1 (m : MM) (_hm : inM m) (w : World) :
    Calls Tryz.prog 45 #[msgV m, .int .u8 110] w fun e w' => e = .returned (.int .i64 (faultQ m 1)) ∧ Below w.heap.size w w' := by
  have HB0 := Lib.hid (fun ca => (Below.refl _ w).alloc (Nat.le_refl _) (.cells ca 30))
  have hN := Lib.hid (fun W => Rnumber_any m.nf 4294967294 4294967294 rfl W)
  have HR : Hid (faultQ m 1 = numI m.nf 4294967294) := rfl
  unfold msgV
  have x : (cellsB m)[3]? = some (.int .i64 m.nf) := rfl
  generalize cellsB m = ca at *
  generalize faultQ m 1 = r at *
  generalize numI m.nf 4294967294 = z at *
  generalize m.nf = n at *
  clear _hm
  go_enter Tryz.func45, Tryz.ntmps45
  go_wp2_with (go_at_call 69; refine (hN.out _).mono ?_; rintro e w' ⟨rfl, rfl⟩)
  go_ret
  rw [HR.out]
  exact ⟨rfl, HB0.out _⟩

set_option maxRecDepth 100000 in
set_option maxHeartbeats 1600000 in
theorem fault_2 (m : MM) (_hm : inM m) (w : World) :
    Calls Tryz.prog 45 #[msgV m, .int .u8 97] w fun e w' => e = .returned (.int .i64 (faultQ m 2)) ∧ Below w.heap.size w w' := by
  have HB0 := Lib.hid (fun ca => (Below.refl _ w).alloc (Nat.le_refl _) (.cells ca 30))
  have HR : Hid (faultQ m 2 = numI m.af (authQ m.kd)) := rfl
  unfold msgV
  have x : (cellsB m)[4]? = some (.int .i64 m.af) := rfl
  have x0 : (cellsB m)[0]? = some (.int .i64 m.kd) := rfl
  generalize cellsB m = ca at *
  generalize faultQ m 2 = r at *
  clear _hm
  by_cases hk : m.kd = 102
  · have hN := Lib.hid (fun W => Rnumber_any m.af 4294967294 4294967294 rfl W)
    rw [hk] at HR x0
    replace HR : Hid (r = numI m.af 4294967294) := HR
    generalize numI m.af 4294967294 = z at *
    generalize m.af = n at *
    clear hk
    go_enter Tryz.func45, Tryz.ntmps45
    go_wp2_with (go_at_call 69; refine (hN.out _).mono ?_; rintro e w' ⟨rfl, rfl⟩)
    go_ret
    rw [HR.out]
    exact ⟨rfl, HB0.out _⟩
  · have hN := Lib.hid (fun W => Rnumber_any m.af 4294967295 4294967295 rfl W)
    have hA : authQ m.kd = 4294967295 := if_neg hk
    rw [hA] at HR
    have hk' : (m.kd == 102) = false := by simpa using hk
    generalize numI m.af 4294967295 = z at *
    generalize m.af = n at *
    generalize m.kd = k at *
    clear hk hA
    go_enter Tryz.func45, Tryz.ntmps45
    go_wp2_with (go_at_call 69; refine (hN.out _).mono ?_; rintro e w' ⟨rfl, rfl⟩)
    go_ret
    rw [HR.out]
    exact ⟨rfl, HB0.out _⟩

set_option maxRecDepth 100000 in
set_option maxHeartbeats 1600000 in
theorem fault_3 (m : MM) (_hm : inM m) (w : World) :
    Calls Tryz.prog 45 #[msgV m, .int .u8 111] w fun e w' => e = .returned (.int .i64 (faultQ m 3)) ∧ Below w.heap.size w w' := by
  have HB0 := Lib.hid (fun ca => (Below.refl _ w).alloc (Nat.le_refl _) (.cells ca 30))
  have hN := Lib.hid (fun W => Rnumber_any m.ot 65534 65534 rfl W)
  have HR : Hid (faultQ m 3 = numI m.ot 65534) := rfl
  unfold msgV
  have x : (cellsB m)[5]? = some (.int .i64 m.ot) := rfl
  generalize cellsB m = ca at *
  generalize faultQ m 3 = r at *
  generalize numI m.ot 65534 = z at *
  generalize m.ot = n at *
  clear _hm
  go_enter Tryz.func45, Tryz.ntmps45
  go_wp2_with (go_at_call 69; refine (hN.out _).mono ?_; rintro e w' ⟨rfl, rfl⟩)
  go_ret
  rw [HR.out]
  exact ⟨rfl, HB0.out _⟩

set_option maxRecDepth 100000 in
set_option maxHeartbeats 1600000 in
theorem fault_4 (m : MM) (_hm : inM m) (w : World) :
    Calls Tryz.prog 45 #[msgV m, .int .u8 122] w fun e w' => e = .returned (.int .i64 (faultQ m 4)) ∧ Below w.heap.size w w' := by
  have HB0 := Lib.hid (fun ca => (Below.refl _ w).alloc (Nat.le_refl _) (.cells ca 30))
  have hN := Lib.hid (fun W => Rnumber_any m.ms 4294967295 4294967295 rfl W)
  have HR : Hid (faultQ m 4 = numI m.ms 4294967295) := rfl
  unfold msgV
  have x : (cellsB m)[6]? = some (.int .i64 m.ms) := rfl
  generalize cellsB m = ca at *
  generalize faultQ m 4 = r at *
  generalize numI m.ms 4294967295 = z at *
  generalize m.ms = n at *
  clear _hm
  go_enter Tryz.func45, Tryz.ntmps45
  go_wp2_with (go_at_call 69; refine (hN.out _).mono ?_; rintro e w' ⟨rfl, rfl⟩)
  go_ret
  rw [HR.out]
  exact ⟨rfl, HB0.out _⟩

set_option maxRecDepth 100000 in
set_option maxHeartbeats 1600000 in
theorem fault_5 (m : MM) (hm : inM m) (w : World) :
    Calls Tryz.prog 45 #[msgV m, .int .u8 118] w fun e w' => e = .returned (.int .i64 (faultQ m 5)) ∧ Below w.heap.size w w' := by
  have HB0 := Lib.hid (fun ca => (Below.refl _ w).alloc (Nat.le_refl _) (.cells ca 30))
  have hN := Lib.hid (fun W => Rlength_any m.ve 64 64 rfl hm.2.2.2.2.2.1 W)
  have HR : Hid (faultQ m 5 = txtI m.ve 64) := rfl
  unfold msgV
  have x : (cellsB m)[7]? = some (.string (mk m.ve)) := rfl
  generalize cellsB m = ca at *
  generalize faultQ m 5 = r at *
  generalize txtI m.ve 64 = z at *
  generalize mk m.ve = n at *
  clear hm
  go_enter Tryz.func45, Tryz.ntmps45
  go_wp2_with (go_at_call 70; refine (hN.out _).mono ?_; rintro e w' ⟨rfl, rfl⟩)
  go_ret
  rw [HR.out]
  exact ⟨rfl, HB0.out _⟩

set_option maxRecDepth 100000 in
set_option maxHeartbeats 1600000 in
theorem fault_6 (m : MM) (hm : inM m) (w : World) :
    Calls Tryz.prog 45 #[msgV m, .int .u8 117] w fun e w' => e = .returned (.int .i64 (faultQ m 6)) ∧ Below w.heap.size w w' := by
  have HB0 := Lib.hid (fun ca => (Below.refl _ w).alloc (Nat.le_refl _) (.cells ca 30))
  have hN := Lib.hid (fun W => Rlength_any m.us 32 32 rfl hm.2.2.2.2.2.2.1 W)
  have HR : Hid (faultQ m 6 = txtI m.us 32) := rfl
  unfold msgV
  have x : (cellsB m)[8]? = some (.string (mk m.us)) := rfl
  generalize cellsB m = ca at *
  generalize faultQ m 6 = r at *
  generalize txtI m.us 32 = z at *
  generalize mk m.us = n at *
  clear hm
  go_enter Tryz.func45, Tryz.ntmps45
  go_wp2_with (go_at_call 70; refine (hN.out _).mono ?_; rintro e w' ⟨rfl, rfl⟩)
  go_ret
  rw [HR.out]
  exact ⟨rfl, HB0.out _⟩

set_option maxRecDepth 100000 in
set_option maxHeartbeats 1600000 in
theorem fault_7 (m : MM) (hm : inM m) (w : World) :
    Calls Tryz.prog 45 #[msgV m, .int .u8 116] w fun e w' => e = .returned (.int .i64 (faultQ m 7)) ∧ Below w.heap.size w w' := by
  have HB0 := Lib.hid (fun ca => (Below.refl _ w).alloc (Nat.le_refl _) (.cells ca 30))
  have hN := Lib.hid (fun W => Rlength_any m.ac 1024 1024 rfl hm.2.2.2.2.2.2.2.1 W)
  have HR : Hid (faultQ m 7 = txtI m.ac 1024) := rfl
  unfold msgV
  have x : (cellsB m)[9]? = some (.string (mk m.ac)) := rfl
  generalize cellsB m = ca at *
  generalize faultQ m 7 = r at *
  generalize txtI m.ac 1024 = z at *
  generalize mk m.ac = n at *
  clear hm
  go_enter Tryz.func45, Tryz.ntmps45
  go_wp2_with (go_at_call 70; refine (hN.out _).mono ?_; rintro e w' ⟨rfl, rfl⟩)
  go_ret
  rw [HR.out]
  exact ⟨rfl, HB0.out _⟩

set_option maxRecDepth 100000 in
set_option maxHeartbeats 1600000 in
theorem fault_8 (m : MM) (hm : inM m) (w : World) (hr : RowM w m) :
    Calls Tryz.prog 45 #[msgV m, .int .u8 78] w fun e w' => e = .returned (.int .i64 (faultQ m 8)) ∧ Below w.heap.size w w' := by
  have HB0 := Lib.hid (fun ca => (Below.refl _ w).alloc (Nat.le_refl _) (.cells ca 30))
  have hN := Lib.hid (fun W (h : SRow W m.nv m.nl) => RnamesL_any m.nv m.nl W h hm.2.2.2.2.1)
  have HS := Lib.hid (hr.1.below (HB0.out (cellsB m)))
  have HR : Hid (faultQ m 8 = wordsI m.nl) := rfl
  unfold msgV
  have x : (cellsB m)[10]? = some m.nv := rfl
  generalize cellsB m = ca at *
  generalize faultQ m 8 = r at *
  generalize wordsI m.nl = z at *
  generalize m.nv = v at *
  clear hm hr
  go_enter Tryz.func45, Tryz.ntmps45
  go_wp2_with fail
  refine (hN.out _ HS.out).mono ?_
  rintro e w' ⟨rfl, rfl⟩
  go_wp2
  go_ret
  rw [HR.out]
  exact ⟨rfl, HB0.out _⟩

set_option maxRecDepth 100000 in
set_option maxHeartbeats 1600000 in
theorem fault_9 (m : MM) (_hm : inM m) (w : World) (hr : RowM w m) :
    Calls Tryz.prog 45 #[msgV m, .int .u8 81] w fun e w' => e = .returned (.int .i64 (faultQ m 9)) ∧ Below w.heap.size w w' := by
  have HB0 := Lib.hid (fun ca => (Below.refl _ w).alloc (Nat.le_refl _) (.cells ca 30))
  have hN := Lib.hid (fun W (h : QRow W m.qv m.ql) => RqidsL_any m.qv m.ql W h (fun _ _ => True.intro))
  have HS := Lib.hid (hr.2.below (HB0.out (cellsB m)))
  have HR : Hid (faultQ m 9 = qidsI m.ql) := rfl
  unfold msgV
  have x : (cellsB m)[11]? = some m.qv := rfl
  generalize cellsB m = ca at *
  generalize faultQ m 9 = r at *
  generalize qidsI m.ql = z at *
  generalize m.qv = v at *
  clear _hm hr
  go_enter Tryz.func45, Tryz.ntmps45
  go_wp2_with fail
  refine (hN.out _ HS.out).mono ?_
  rintro e w1 ⟨rfl, hB1⟩
  have HB1 := Lib.hid ((HB0.out _).trans (hB1.mono (HB0.out _).size))
  clear hB1
  go_wp2
  go_ret
  rw [HR.out]
  exact ⟨rfl, HB1.out⟩

set_option maxRecDepth 100000 in
set_option maxHeartbeats 1600000 in
theorem fault_10 (m : MM) (_hm : inM m) (w : World) :
    Calls Tryz.prog 45 #[msgV m, .int .u8 113] w fun e w' => e = .returned (.int .i64 (faultQ m 10)) ∧ Below w.heap.size w w' := by
  have HB0 := Lib.hid (fun ca => (Below.refl _ w).alloc (Nat.le_refl _) (.cells ca 30))
  have hN := fun W => Rqid_any m.qd W
  unfold qidV at hN
  replace hN := Lib.hid hN
  have HR : Hid (faultQ m 10 = qidI m.qd) := rfl
  unfold msgV
  have x0 : (cellsB m)[12]? = some (.int .i64 m.qd.t) := rfl
  have x1 : (cellsB m)[13]? = some (.int .i64 m.qd.v) := rfl
  have x2 : (cellsB m)[14]? = some (.int .i64 m.qd.p) := rfl
  generalize cellsB m = ca at *
  generalize faultQ m 10 = r at *
  generalize qidI m.qd = z at *
  generalize m.qd.t = n0 at *
  generalize m.qd.v = n1 at *
  generalize m.qd.p = n2 at *
  clear _hm
  go_enter Tryz.func45, Tryz.ntmps45
  go_wp2_with fail
  refine (hN.out _).mono ?_
  rintro e w1 ⟨rfl, hB1⟩
  have HB1 := Lib.hid ((HB0.out _).trans (hB1.mono (HB0.out _).size))
  clear hB1
  go_wp2
  go_ret
  rw [HR.out]
  exact ⟨rfl, HB1.out⟩

set_option maxRecDepth 100000 in
set_option maxHeartbeats 1600000 in
theorem fault_11 (m : MM) (_hm : inM m) (w : World) :
    Calls Tryz.prog 45 #[msgV m, .int .u8 105] w fun e w' => e = .returned (.int .i64 (faultQ m 11)) ∧ Below w.heap.size w w' := by
  have HB0 := Lib.hid (fun ca => (Below.refl _ w).alloc (Nat.le_refl _) (.cells ca 30))
  have hN := Lib.hid (fun W => Rnumber_any m.io 8192 8192 rfl W)
  have HR : Hid (faultQ m 11 = numI m.io 8192) := rfl
  unfold msgV
  have x : (cellsB m)[15]? = some (.int .i64 m.io) := rfl
  generalize cellsB m = ca at *
  generalize faultQ m 11 = r at *
  generalize numI m.io 8192 = z at *
  generalize m.io = n at *
  clear _hm
  go_enter Tryz.func45, Tryz.ntmps45
  go_wp2_with (go_at_call 69; refine (hN.out _).mono ?_; rintro e w' ⟨rfl, rfl⟩)
  go_ret
  rw [HR.out]
  exact ⟨rfl, HB0.out _⟩

set_option maxRecDepth 100000 in
set_option maxHeartbeats 1600000 in
theorem fault_12 (m : MM) (_hm : inM m) (w : World) :
    Calls Tryz.prog 74 #[msgV m, .int .u8 109] w fun e w' => e = .returned (.int .i64 (faultQ m 12)) ∧ Below w.heap.size w w' := by
  have HB0 := Lib.hid (fun ca => (Below.refl _ w).alloc (Nat.le_refl _) (.cells ca 30))
  have hN := Lib.hid (fun W => Rnumber_any m.mo 255 255 rfl W)
  have HR : Hid (faultQ m 12 = numI m.mo 255) := rfl
  unfold msgV
  have x : (cellsB m)[16]? = some (.int .i64 m.mo) := rfl
  generalize cellsB m = ca at *
  generalize faultQ m 12 = r at *
  generalize numI m.mo 255 = z at *
  generalize m.mo = n at *
  clear _hm
  go_enter Tryz.func74, Tryz.ntmps74
  go_wp2_with (go_at_call 69; refine (hN.out _).mono ?_; rintro e w' ⟨rfl, rfl⟩)
  go_ret
  rw [HR.out]
  exact ⟨rfl, HB0.out _⟩

set_option maxRecDepth 100000 in
set_option maxHeartbeats 1600000 in
theorem fault_13 (m : MM) (_hm : inM m) (w : World) :
    Calls Tryz.prog 74 #[msgV m, .int .u8 112] w fun e w' => e = .returned (.int .i64 (faultQ m 13)) ∧ Below w.heap.size w w' := by
  have HB0 := Lib.hid (fun ca => (Below.refl _ w).alloc (Nat.le_refl _) (.cells ca 30))
  have hN := Lib.hid (fun W => Rnumber_any m.pe 4294967295 4294967295 rfl W)
  have HR : Hid (faultQ m 13 = numI m.pe 4294967295) := rfl
  unfold msgV
  have x : (cellsB m)[17]? = some (.int .i64 m.pe) := rfl
  generalize cellsB m = ca at *
  generalize faultQ m 13 = r at *
  generalize numI m.pe 4294967295 = z at *
  generalize m.pe = n at *
  clear _hm
  go_enter Tryz.func74, Tryz.ntmps74
  go_wp2_with (go_at_call 69; refine (hN.out _).mono ?_; rintro e w' ⟨rfl, rfl⟩)
  go_ret
  rw [HR.out]
  exact ⟨rfl, HB0.out _⟩

set_option maxRecDepth 100000 in
set_option maxHeartbeats 1600000 in
theorem fault_14 (m : MM) (hm : inM m) (w : World) :
    Calls Tryz.prog 74 #[msgV m, .int .u8 101] w fun e w' => e = .returned (.int .i64 (faultQ m 14)) ∧ Below w.heap.size w w' := by
  have HB0 := Lib.hid (fun ca => (Below.refl _ w).alloc (Nat.le_refl _) (.cells ca 30))
  have hN := Lib.hid (fun W => RValidM m.na hm.2.2.2.2.2.2.2.2.1 W)
  have HR : Hid (faultQ m 14 = if validL m.na then 0 else 6) := rfl
  unfold msgV
  have x : (cellsB m)[18]? = some (.string (mk m.na)) := rfl
  generalize cellsB m = ca at *
  generalize faultQ m 14 = r at *
  generalize validL m.na = z at *
  generalize mk m.na = n at *
  clear hm
  cases z
  all_goals
    go_enter Tryz.func74, Tryz.ntmps74
    go_wp2_with (go_at_call 87; refine (hN.out _).mono ?_; rintro e w' ⟨rfl, rfl⟩)
    go_ret
    rw [HR.out]
    exact ⟨rfl, HB0.out _⟩

set_option maxRecDepth 100000 in
set_option maxHeartbeats 1600000 in
theorem fault_15 (m : MM) (_hm : inM m) (w : World) :
    Calls Tryz.prog 74 #[msgV m, .int .u8 79] w fun e w' => e = .returned (.int .i64 (faultQ m 15)) ∧ Below w.heap.size w w' := by
  have HB0 := Lib.hid (fun ca => (Below.refl _ w).alloc (Nat.le_refl _) (.cells ca 30))
  have hN := Lib.hid (fun W => Rnumber_any m.os 9007199254740991 9007199254740991 rfl W)
  have HR : Hid (faultQ m 15 = numI m.os 9007199254740991) := rfl
  unfold msgV
  have x : (cellsB m)[19]? = some (.int .i64 m.os) := rfl
  generalize cellsB m = ca at *
  generalize faultQ m 15 = r at *
  generalize numI m.os 9007199254740991 = z at *
  generalize m.os = n at *
  clear _hm
  go_enter Tryz.func74, Tryz.ntmps74
  go_wp2_with (go_at_call 69; refine (hN.out _).mono ?_; rintro e w' ⟨rfl, rfl⟩)
  go_ret
  rw [HR.out]
  exact ⟨rfl, HB0.out _⟩

set_option maxRecDepth 100000 in
set_option maxHeartbeats 1600000 in
theorem fault_16 (m : MM) (_hm : inM m) (w : World) :
    Calls Tryz.prog 74 #[msgV m, .int .u8 99] w fun e w' => e = .returned (.int .i64 (faultQ m 16)) ∧ Below w.heap.size w w' := by
  have HB0 := Lib.hid (fun ca => (Below.refl _ w).alloc (Nat.le_refl _) (.cells ca 30))
  have hN := Lib.hid (fun W => Rnumber_any m.co 8192 8192 rfl W)
  have HR : Hid (faultQ m 16 = numI m.co 8192) := rfl
  unfold msgV
  have x : (cellsB m)[20]? = some (.int .i64 m.co) := rfl
  generalize cellsB m = ca at *
  generalize faultQ m 16 = r at *
  generalize numI m.co 8192 = z at *
  generalize m.co = n at *
  clear _hm
  go_enter Tryz.func74, Tryz.ntmps74
  go_wp2_with (go_at_call 69; refine (hN.out _).mono ?_; rintro e w' ⟨rfl, rfl⟩)
  go_ret
  rw [HR.out]
  exact ⟨rfl, HB0.out _⟩

set_option maxRecDepth 100000 in
set_option maxHeartbeats 1600000 in
theorem fault_17 (m : MM) (hm : inM m) (w : World) :
    Calls Tryz.prog 74 #[msgV m, .int .u8 100] w fun e w' => e = .returned (.int .i64 (faultQ m 17)) ∧ Below w.heap.size w w' := by
  have HB0 := Lib.hid (fun ca => (Below.refl _ w).alloc (Nat.le_refl _) (.cells ca 30))
  have hN := Lib.hid (fun W => Rlength_any m.da 8168 8168 rfl hm.2.2.2.2.2.2.2.2.2.1 W)
  have HR : Hid (faultQ m 17 = txtI m.da 8168) := rfl
  unfold msgV
  have x : (cellsB m)[21]? = some (.string (mk m.da)) := rfl
  generalize cellsB m = ca at *
  generalize faultQ m 17 = r at *
  generalize txtI m.da 8168 = z at *
  generalize mk m.da = n at *
  clear hm
  go_enter Tryz.func74, Tryz.ntmps74
  go_wp2_with (go_at_call 70; refine (hN.out _).mono ?_; rintro e w' ⟨rfl, rfl⟩)
  go_ret
  rw [HR.out]
  exact ⟨rfl, HB0.out _⟩

set_option maxRecDepth 100000 in
set_option maxHeartbeats 1600000 in
theorem fault_18 (m : MM) (hm : inM m) (w : World) :
    Calls Tryz.prog 74 #[msgV m, .int .u8 115] w fun e w' => e = .returned (.int .i64 (faultQ m 18)) ∧ Below w.heap.size w w' := by
  have HB0 := Lib.hid (fun ca => (Below.refl _ w).alloc (Nat.le_refl _) (.cells ca 30))
  have hN := fun W => RCheck_any m.st hm.2.1 hm.2.2.1 W
  have hV : dirV m.st = .agg (cellsD m.st).toArray := rfl
  rw [hV] at hN
  replace hN := Lib.hid hN
  have HR : Hid (faultQ m 18 = checkR m.st) := rfl
  have hK := Lib.hid (BlkM.new w m).stat
  have hI := Lib.hid (info_dirL m.st)
  unfold msgV
  generalize cellsB m = ca at *
  generalize faultQ m 18 = r at *
  generalize checkR m.st = z at *
  generalize cellsD m.st = cd at *
  clear hm hV
  go_enter Tryz.func74, Tryz.ntmps74
  go_wp2_with (refine wpList_load_mid rfl 27 _ rfl w.heap.size 22 rfl cd _ hK.out Tryz.underlying27 rfl hI.out ?_)
  refine (hN.out _).mono ?_
  rintro e w1 ⟨rfl, hB1⟩
  have HB1 := Lib.hid ((HB0.out _).trans (hB1.mono (HB0.out _).size))
  clear hB1
  go_wp2
  go_ret
  rw [HR.out]
  exact ⟨rfl, HB1.out⟩

set_option maxRecDepth 100000 in
set_option maxHeartbeats 1600000 in
theorem fault_19 (m : MM) (_hm : inM m) (w : World) :
    Calls Tryz.prog 74 #[msgV m, .int .u8 69] w fun e w' => e = .returned (.int .i64 (faultQ m 19)) ∧ Below w.heap.size w w' := by
  have HB0 := Lib.hid (fun ca => (Below.refl _ w).alloc (Nat.le_refl _) (.cells ca 30))
  have HR : Hid (faultQ m 19 = if 1 ≤ m.er ∧ m.er ≤ 59 then 0 else 5) := rfl
  unfold msgV
  have x : (cellsB m)[35]? = some (.int .i64 m.er) := rfl
  generalize cellsB m = ca at *
  generalize faultQ m 19 = r at *
  generalize m.er = n at *
  clear _hm
  go_enter Tryz.func74, Tryz.ntmps74
  go_wp2
  all_goals go_ret
  all_goals (rw [HR.out]; refine ⟨ret1 ?_, HB0.out _⟩; split <;> (try rfl) <;> exfalso <;> omega)

set_option maxRecDepth 100000 in
set_option maxHeartbeats 1600000 in
theorem fault_20 (m : MM) (_hm : inM m) (w : World) :
    Calls Tryz.prog 74 #[msgV m, .int .u8 108] w fun e w' => e = .returned (.int .i64 (faultQ m 20)) ∧ Below w.heap.size w w' := by
  have HB0 := Lib.hid (fun ca => (Below.refl _ w).alloc (Nat.le_refl _) (.cells ca 30))
  have hN := Lib.hid (fun W => Rnumber_any m.lz 2 2 rfl W)
  have HR : Hid (faultQ m 20 = numI m.lz 2) := rfl
  unfold msgV
  have x : (cellsB m)[36]? = some (.int .i64 m.lz) := rfl
  generalize cellsB m = ca at *
  generalize faultQ m 20 = r at *
  generalize numI m.lz 2 = z at *
  generalize m.lz = n at *
  clear _hm
  go_enter Tryz.func74, Tryz.ntmps74
  go_wp2_with (go_at_call 69; refine (hN.out _).mono ?_; rintro e w' ⟨rfl, rfl⟩)
  go_ret
  rw [HR.out]
  exact ⟨rfl, HB0.out _⟩

set_option maxRecDepth 100000 in
set_option maxHeartbeats 1600000 in
theorem fault_21 (m : MM) (_hm : inM m) (w : World) :
    Calls Tryz.prog 74 #[msgV m, .int .u8 84] w fun e w' => e = .returned (.int .i64 (faultQ m 21)) ∧ Below w.heap.size w w' := by
  have HB0 := Lib.hid (fun ca => (Below.refl _ w).alloc (Nat.le_refl _) (.cells ca 30))
  have hN := Lib.hid (fun W => Rnumber_any m.te 1048576 1048576 rfl W)
  have HR : Hid (faultQ m 21 = numI m.te 1048576) := rfl
  unfold msgV
  have x : (cellsB m)[37]? = some (.int .i64 m.te) := rfl
  generalize cellsB m = ca at *
  generalize faultQ m 21 = r at *
  generalize numI m.te 1048576 = z at *
  generalize m.te = n at *
  clear _hm
  go_enter Tryz.func74, Tryz.ntmps74
  go_wp2_with (go_at_call 69; refine (hN.out _).mono ?_; rintro e w' ⟨rfl, rfl⟩)
  go_ret
  rw [HR.out]
  exact ⟨rfl, HB0.out _⟩

set_option maxRecDepth 100000 in
set_option maxHeartbeats 1600000 in
theorem fault_22 (m : MM) (hm : inM m) (w : World) :
    Calls Tryz.prog 74 #[msgV m, .int .u8 83] w fun e w' => e = .returned (.int .i64 (faultQ m 22)) ∧ Below w.heap.size w w' := by
  have HB0 := Lib.hid (fun ca => (Below.refl _ w).alloc (Nat.le_refl _) (.cells ca 30))
  have hN := Lib.hid (fun W => Rlength_any m.se 64 64 rfl hm.2.2.2.2.2.2.2.2.2.2 W)
  have HR : Hid (faultQ m 22 = txtI m.se 64) := rfl
  unfold msgV
  have x : (cellsB m)[38]? = some (.string (mk m.se)) := rfl
  generalize cellsB m = ca at *
  generalize faultQ m 22 = r at *
  generalize txtI m.se 64 = z at *
  generalize mk m.se = n at *
  clear hm
  go_enter Tryz.func74, Tryz.ntmps74
  go_wp2_with (go_at_call 70; refine (hN.out _).mono ?_; rintro e w' ⟨rfl, rfl⟩)
  go_ret
  rw [HR.out]
  exact ⟨rfl, HB0.out _⟩

set_option maxRecDepth 100000 in
set_option maxHeartbeats 1600000 in
theorem fault_late (m : MM) (f : Nat) (c : Int) (hc : c = 109 ∨ c = 112 ∨ c = 101 ∨ c = 79 ∨ c = 99 ∨ c = 100 ∨ c = 115 ∨ c = 69 ∨ c = 108 ∨ c = 84 ∨ c = 83) (h : ∀ W, Calls Tryz.prog 74 #[msgV m, .int .u8 c] W fun e w' => e = .returned (.int .i64 (faultQ m f)) ∧ Below W.heap.size W w') (w : World) :
    Calls Tryz.prog 45 #[msgV m, .int .u8 c] w fun e w' => e = .returned (.int .i64 (faultQ m f)) ∧ Below w.heap.size w w' := by
  have HB0 := Lib.hid ((Below.refl _ w).alloc (Nat.le_refl _) (.cells (cellsB m) 30))
  have HK := Lib.hid (BlkM.new w m)
  unfold msgV at h ⊢
  replace h := Lib.hid h
  rcases hc with rfl | rfl | rfl | rfl | rfl | rfl | rfl | rfl | rfl | rfl | rfl
  all_goals
    go_enter Tryz.func45, Tryz.ntmps45
    go_wp2_with (refine wpList_load_row rfl 30 _ rfl w.heap.size rfl 30 (cellsB m) (0, 0) _ HK.out Tryz.underlying30 rfl (by kernel_rfl) ?_)
    refine (h.out _).mono ?_
    rintro e w1 ⟨rfl, hB1⟩
    have HB1 := Lib.hid (HB0.out.trans (hB1.mono HB0.out.size))
    clear hB1
    go_wp2
    go_ret
    exact ⟨rfl, HB1.out⟩
theorem fault_any (m : MM) (f : Nat) (hf : f < 23) (hm : inM m) (w : World) (hr : RowM w m) :
    Calls Tryz.prog 45 #[msgV m, .int .u8 ((letN f).toNat : Int)] w fun e w' => e = .returned (.int .i64 (faultQ m f)) ∧ Below w.heap.size w w' := by
  rcases k23 hf with rfl | rfl | rfl | rfl | rfl | rfl | rfl | rfl | rfl | rfl | rfl | rfl | rfl | rfl | rfl | rfl | rfl | rfl | rfl | rfl | rfl | rfl | rfl
  · exact fault_0 m hm w
  · exact fault_1 m hm w
  · exact fault_2 m hm w
  · exact fault_3 m hm w
  · exact fault_4 m hm w
  · exact fault_5 m hm w
  · exact fault_6 m hm w
  · exact fault_7 m hm w
  · exact fault_8 m hm w hr
  · exact fault_9 m hm w hr
  · exact fault_10 m hm w
  · exact fault_11 m hm w
  · exact fault_late m 12 109 (by decide) (fun W => fault_12 m hm W) w
  · exact fault_late m 13 112 (by decide) (fun W => fault_13 m hm W) w
  · exact fault_late m 14 101 (by decide) (fun W => fault_14 m hm W) w
  · exact fault_late m 15 79 (by decide) (fun W => fault_15 m hm W) w
  · exact fault_late m 16 99 (by decide) (fun W => fault_16 m hm W) w
  · exact fault_late m 17 100 (by decide) (fun W => fault_17 m hm W) w
  · exact fault_late m 18 115 (by decide) (fun W => fault_18 m hm W) w
  · exact fault_late m 19 69 (by decide) (fun W => fault_19 m hm W) w
  · exact fault_late m 20 108 (by decide) (fun W => fault_20 m hm W) w
  · exact fault_late m 21 84 (by decide) (fun W => fault_21 m hm W) w
  · exact fault_late m 22 83 (by decide) (fun W => fault_22 m hm W) w
end Go.Proofs.YtlfdmbfbfadifaaGreatDoor
