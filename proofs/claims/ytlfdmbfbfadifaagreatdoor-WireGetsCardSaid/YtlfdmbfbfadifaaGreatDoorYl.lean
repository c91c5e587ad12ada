/-
  The pass over a message, for any coder: passQid, passField.
  The pass over a field, for any coder: the fields 0 to 5.
  The pass over a field, for any coder: the fields 6 to 11.
  The pass over a field, for any coder: the fields 12 to 17.
  The pass over a field, for any coder: the fields 18 to 22.
  The writer as a coder: its methods behind the interface; a qid, qids.
-/
import Derived.Test.YtlfdmbfbfadifaaGreatDoorWb
import Derived.StillTailTactics
import Derived.Test.YtlfdmbfbfadifaaGreatDoorYh
namespace Go.Proofs.YtlfdmbfbfadifaaGreatDoor
open Go.RowKit

set_option maxHeartbeats 2000000 in
set_option maxRecDepth 100000 in
theorem passQid_any {T : TypeId} {K : FuncId} {c : Value} (hn : ∀ n W, (nilAhead (n + 1) T c "filespace/wire.number").run Tryz.prog W = .ok (some false) W) (hm : ∀ n W, (method (n + 1) T c "filespace/wire.number").run Tryz.prog W = .ok (K, c) W)
    (hcf : ∀ args W, (callFunc K args).run Tryz.prog W = .ok (.enter K args) W) (g o : Nat) (P0 P1 P2 P3 : World → Prop)
    (hd0 : ∀ W, P0 W → P0 W.drew) (hd1 : ∀ W, P1 W → P1 W.drew) (hd2 : ∀ W, P2 W → P2 W.drew)
    (h0 : ∀ W, P0 W → Calls Tryz.prog K #[c, .pointer (some ⟨g, o, none⟩), .int .i64 1] W fun e W' => e = .returned (.tuple #[]) ∧ P1 W')
    (h1 : ∀ W, P1 W → Calls Tryz.prog K #[c, .pointer (some ⟨g, o + 1, none⟩), .int .i64 4] W fun e W' => e = .returned (.tuple #[]) ∧ P2 W')
    (h2 : ∀ W, P2 W → Calls Tryz.prog K #[c, .pointer (some ⟨g, o + 2, none⟩), .int .i64 8] W fun e W' => e = .returned (.tuple #[]) ∧ P3 W') (w : World) (hw : P0 w) :
    Calls Tryz.prog 66 #[.iface T c, .pointer (some ⟨g, o, none⟩)] w fun e w' => e = .returned (.tuple #[]) ∧ P3 w' := by
  replace hd0 := Lib.hid hd0
  replace hd1 := Lib.hid hd1
  replace hd2 := Lib.hid hd2
  replace h0 := Lib.hid h0
  replace h1 := Lib.hid h1
  replace h2 := Lib.hid h2
  replace hw := Lib.hid hw
  go_enter Tryz.func66, Tryz.ntmps66
  go_wp2
  go_still_tail 7, (by kernel_rfl)
  change wpList _ _ _ _ _ w.drew
  have hw0 := Lib.hid (hd0.out _ hw.out)
  generalize w.drew = w1 at *
  go_wp2_with fail
  refine (h0.out _ hw0.out).mono ?_
  rintro e w2 ⟨rfl, hp⟩
  have hw2 := Lib.hid (hd1.out _ hp)
  clear hp
  go_wp2
  go_still_tail 7, (by kernel_rfl)
  change wpList _ _ _ _ _ w2.drew
  generalize w2.drew = w3 at *
  go_wp2_with fail
  refine (h1.out _ hw2.out).mono ?_
  rintro e w4 ⟨rfl, hp⟩
  have hw4 := Lib.hid (hd2.out _ hp)
  clear hp
  go_wp2
  go_still_tail 7, (by kernel_rfl)
  change wpList _ _ _ _ _ w4.drew
  generalize w4.drew = w5 at *
  go_wp2_with fail
  refine (h2.out _ hw4.out).mono ?_
  rintro e w6 ⟨rfl, hp⟩
  have hw6 := Lib.hid hp
  clear hp
  go_wp2
  go_end0
  exact ⟨rfl, hw6.out⟩
end Go.Proofs.YtlfdmbfbfadifaaGreatDoor

namespace Go.Proofs.YtlfdmbfbfadifaaGreatDoor
open Go.RowKit

set_option maxHeartbeats 4000000 in
set_option maxRecDepth 100000 in
theorem pf_0 {T : TypeId} {K : FuncId} {c : Value} (hn : ∀ n W, (nilAhead (n + 1) T c "filespace/wire.number").run Tryz.prog W = .ok (some false) W) (hm : ∀ n W, (method (n + 1) T c "filespace/wire.number").run Tryz.prog W = .ok (K, c) W)
    (hcf : ∀ args W, (callFunc K args).run Tryz.prog W = .ok (.enter K args) W) (g : Nat) (P Q : World → Prop) (hd : ∀ W, P W → P W.drew)
    (h : ∀ W, P W → Calls Tryz.prog K #[c, .pointer (some ⟨g, 2, none⟩), .int .i64 4] W fun e W' => e = .returned (.tuple #[]) ∧ Q W') (w : World) (hw : P w) :
    Calls Tryz.prog 38 #[.iface T c, .pointer (some ⟨g, 0, none⟩), .int .i64 0] w fun e w' => e = .returned (.tuple #[]) ∧ Q w' := by
  replace hd := Lib.hid hd
  replace h := Lib.hid h
  replace hw := Lib.hid hw
  go_enter Tryz.func38, Tryz.ntmps38
  go_wp2
  go_still_tail 7, (by kernel_rfl)
  change wpList _ _ _ _ _ w.drew
  have hw0 := Lib.hid (hd.out _ hw.out)
  generalize w.drew = w1 at *
  go_wp2_with fail
  refine (h.out _ hw0.out).mono ?_
  rintro e w2 ⟨rfl, hp⟩
  have hw2 := Lib.hid hp
  clear hp
  go_wp2
  go_end0
  exact ⟨rfl, hw2.out⟩

set_option maxHeartbeats 4000000 in
set_option maxRecDepth 100000 in
theorem pf_1 {T : TypeId} {K : FuncId} {c : Value} (hn : ∀ n W, (nilAhead (n + 1) T c "filespace/wire.number").run Tryz.prog W = .ok (some false) W) (hm : ∀ n W, (method (n + 1) T c "filespace/wire.number").run Tryz.prog W = .ok (K, c) W)
    (hcf : ∀ args W, (callFunc K args).run Tryz.prog W = .ok (.enter K args) W) (g : Nat) (P Q : World → Prop) (hd : ∀ W, P W → P W.drew)
    (h : ∀ W, P W → Calls Tryz.prog K #[c, .pointer (some ⟨g, 3, none⟩), .int .i64 4] W fun e W' => e = .returned (.tuple #[]) ∧ Q W') (w : World) (hw : P w) :
    Calls Tryz.prog 38 #[.iface T c, .pointer (some ⟨g, 0, none⟩), .int .i64 1] w fun e w' => e = .returned (.tuple #[]) ∧ Q w' := by
  replace hd := Lib.hid hd
  replace h := Lib.hid h
  replace hw := Lib.hid hw
  go_enter Tryz.func38, Tryz.ntmps38
  go_wp2
  go_still_tail 7, (by kernel_rfl)
  change wpList _ _ _ _ _ w.drew
  have hw0 := Lib.hid (hd.out _ hw.out)
  generalize w.drew = w1 at *
  go_wp2_with fail
  refine (h.out _ hw0.out).mono ?_
  rintro e w2 ⟨rfl, hp⟩
  have hw2 := Lib.hid hp
  clear hp
  go_wp2
  go_end0
  exact ⟨rfl, hw2.out⟩

set_option maxHeartbeats 4000000 in
set_option maxRecDepth 100000 in
theorem pf_2 {T : TypeId} {K : FuncId} {c : Value} (hn : ∀ n W, (nilAhead (n + 1) T c "filespace/wire.number").run Tryz.prog W = .ok (some false) W) (hm : ∀ n W, (method (n + 1) T c "filespace/wire.number").run Tryz.prog W = .ok (K, c) W)
    (hcf : ∀ args W, (callFunc K args).run Tryz.prog W = .ok (.enter K args) W) (g : Nat) (P Q : World → Prop) (hd : ∀ W, P W → P W.drew)
    (h : ∀ W, P W → Calls Tryz.prog K #[c, .pointer (some ⟨g, 4, none⟩), .int .i64 4] W fun e W' => e = .returned (.tuple #[]) ∧ Q W') (w : World) (hw : P w) :
    Calls Tryz.prog 38 #[.iface T c, .pointer (some ⟨g, 0, none⟩), .int .i64 2] w fun e w' => e = .returned (.tuple #[]) ∧ Q w' := by
  replace hd := Lib.hid hd
  replace h := Lib.hid h
  replace hw := Lib.hid hw
  go_enter Tryz.func38, Tryz.ntmps38
  go_wp2
  go_still_tail 7, (by kernel_rfl)
  change wpList _ _ _ _ _ w.drew
  have hw0 := Lib.hid (hd.out _ hw.out)
  generalize w.drew = w1 at *
  go_wp2_with fail
  refine (h.out _ hw0.out).mono ?_
  rintro e w2 ⟨rfl, hp⟩
  have hw2 := Lib.hid hp
  clear hp
  go_wp2
  go_end0
  exact ⟨rfl, hw2.out⟩

set_option maxHeartbeats 4000000 in
set_option maxRecDepth 100000 in
theorem pf_3 {T : TypeId} {K : FuncId} {c : Value} (hn : ∀ n W, (nilAhead (n + 1) T c "filespace/wire.number").run Tryz.prog W = .ok (some false) W) (hm : ∀ n W, (method (n + 1) T c "filespace/wire.number").run Tryz.prog W = .ok (K, c) W)
    (hcf : ∀ args W, (callFunc K args).run Tryz.prog W = .ok (.enter K args) W) (g : Nat) (P Q : World → Prop) (hd : ∀ W, P W → P W.drew)
    (h : ∀ W, P W → Calls Tryz.prog K #[c, .pointer (some ⟨g, 5, none⟩), .int .i64 2] W fun e W' => e = .returned (.tuple #[]) ∧ Q W') (w : World) (hw : P w) :
    Calls Tryz.prog 38 #[.iface T c, .pointer (some ⟨g, 0, none⟩), .int .i64 3] w fun e w' => e = .returned (.tuple #[]) ∧ Q w' := by
  replace hd := Lib.hid hd
  replace h := Lib.hid h
  replace hw := Lib.hid hw
  go_enter Tryz.func38, Tryz.ntmps38
  go_wp2
  go_still_tail 7, (by kernel_rfl)
  change wpList _ _ _ _ _ w.drew
  have hw0 := Lib.hid (hd.out _ hw.out)
  generalize w.drew = w1 at *
  go_wp2_with fail
  refine (h.out _ hw0.out).mono ?_
  rintro e w2 ⟨rfl, hp⟩
  have hw2 := Lib.hid hp
  clear hp
  go_wp2
  go_end0
  exact ⟨rfl, hw2.out⟩

set_option maxHeartbeats 4000000 in
set_option maxRecDepth 100000 in
theorem pf_4 {T : TypeId} {K : FuncId} {c : Value} (hn : ∀ n W, (nilAhead (n + 1) T c "filespace/wire.number").run Tryz.prog W = .ok (some false) W) (hm : ∀ n W, (method (n + 1) T c "filespace/wire.number").run Tryz.prog W = .ok (K, c) W)
    (hcf : ∀ args W, (callFunc K args).run Tryz.prog W = .ok (.enter K args) W) (g : Nat) (P Q : World → Prop) (hd : ∀ W, P W → P W.drew)
    (h : ∀ W, P W → Calls Tryz.prog K #[c, .pointer (some ⟨g, 6, none⟩), .int .i64 4] W fun e W' => e = .returned (.tuple #[]) ∧ Q W') (w : World) (hw : P w) :
    Calls Tryz.prog 38 #[.iface T c, .pointer (some ⟨g, 0, none⟩), .int .i64 4] w fun e w' => e = .returned (.tuple #[]) ∧ Q w' := by
  replace hd := Lib.hid hd
  replace h := Lib.hid h
  replace hw := Lib.hid hw
  go_enter Tryz.func38, Tryz.ntmps38
  go_wp2
  go_still_tail 7, (by kernel_rfl)
  change wpList _ _ _ _ _ w.drew
  have hw0 := Lib.hid (hd.out _ hw.out)
  generalize w.drew = w1 at *
  go_wp2_with fail
  refine (h.out _ hw0.out).mono ?_
  rintro e w2 ⟨rfl, hp⟩
  have hw2 := Lib.hid hp
  clear hp
  go_wp2
  go_end0
  exact ⟨rfl, hw2.out⟩

set_option maxHeartbeats 4000000 in
set_option maxRecDepth 100000 in
theorem pf_5 {T : TypeId} {K : FuncId} {c : Value} (hn : ∀ n W, (nilAhead (n + 1) T c "filespace/wire.text").run Tryz.prog W = .ok (some false) W) (hm : ∀ n W, (method (n + 1) T c "filespace/wire.text").run Tryz.prog W = .ok (K, c) W)
    (hcf : ∀ args W, (callFunc K args).run Tryz.prog W = .ok (.enter K args) W) (g : Nat) (P Q : World → Prop) (hd : ∀ W, P W → P W.drew)
    (h : ∀ W, P W → Calls Tryz.prog K #[c, .pointer (some ⟨g, 7, none⟩)] W fun e W' => e = .returned (.tuple #[]) ∧ Q W') (w : World) (hw : P w) :
    Calls Tryz.prog 38 #[.iface T c, .pointer (some ⟨g, 0, none⟩), .int .i64 5] w fun e w' => e = .returned (.tuple #[]) ∧ Q w' := by
  replace hd := Lib.hid hd
  replace h := Lib.hid h
  replace hw := Lib.hid hw
  go_enter Tryz.func38, Tryz.ntmps38
  go_wp2
  go_still_tail 7, (by kernel_rfl)
  change wpList _ _ _ _ _ w.drew
  have hw0 := Lib.hid (hd.out _ hw.out)
  generalize w.drew = w1 at *
  go_wp2_with fail
  refine (h.out _ hw0.out).mono ?_
  rintro e w2 ⟨rfl, hp⟩
  have hw2 := Lib.hid hp
  clear hp
  go_wp2
  go_end0
  exact ⟨rfl, hw2.out⟩
end Go.Proofs.YtlfdmbfbfadifaaGreatDoor

namespace Go.Proofs.YtlfdmbfbfadifaaGreatDoor
open Go.RowKit

set_option maxHeartbeats 4000000 in
set_option maxRecDepth 100000 in
theorem pf_6 {T : TypeId} {K : FuncId} {c : Value} (hn : ∀ n W, (nilAhead (n + 1) T c "filespace/wire.text").run Tryz.prog W = .ok (some false) W) (hm : ∀ n W, (method (n + 1) T c "filespace/wire.text").run Tryz.prog W = .ok (K, c) W)
    (hcf : ∀ args W, (callFunc K args).run Tryz.prog W = .ok (.enter K args) W) (g : Nat) (P Q : World → Prop) (hd : ∀ W, P W → P W.drew)
    (h : ∀ W, P W → Calls Tryz.prog K #[c, .pointer (some ⟨g, 8, none⟩)] W fun e W' => e = .returned (.tuple #[]) ∧ Q W') (w : World) (hw : P w) :
    Calls Tryz.prog 38 #[.iface T c, .pointer (some ⟨g, 0, none⟩), .int .i64 6] w fun e w' => e = .returned (.tuple #[]) ∧ Q w' := by
  replace hd := Lib.hid hd
  replace h := Lib.hid h
  replace hw := Lib.hid hw
  go_enter Tryz.func38, Tryz.ntmps38
  go_wp2
  go_still_tail 7, (by kernel_rfl)
  change wpList _ _ _ _ _ w.drew
  have hw0 := Lib.hid (hd.out _ hw.out)
  generalize w.drew = w1 at *
  go_wp2_with fail
  refine (h.out _ hw0.out).mono ?_
  rintro e w2 ⟨rfl, hp⟩
  have hw2 := Lib.hid hp
  clear hp
  go_wp2
  go_end0
  exact ⟨rfl, hw2.out⟩

set_option maxHeartbeats 4000000 in
set_option maxRecDepth 100000 in
theorem pf_7 {T : TypeId} {K : FuncId} {c : Value} (hn : ∀ n W, (nilAhead (n + 1) T c "filespace/wire.text").run Tryz.prog W = .ok (some false) W) (hm : ∀ n W, (method (n + 1) T c "filespace/wire.text").run Tryz.prog W = .ok (K, c) W)
    (hcf : ∀ args W, (callFunc K args).run Tryz.prog W = .ok (.enter K args) W) (g : Nat) (P Q : World → Prop) (hd : ∀ W, P W → P W.drew)
    (h : ∀ W, P W → Calls Tryz.prog K #[c, .pointer (some ⟨g, 9, none⟩)] W fun e W' => e = .returned (.tuple #[]) ∧ Q W') (w : World) (hw : P w) :
    Calls Tryz.prog 38 #[.iface T c, .pointer (some ⟨g, 0, none⟩), .int .i64 7] w fun e w' => e = .returned (.tuple #[]) ∧ Q w' := by
  replace hd := Lib.hid hd
  replace h := Lib.hid h
  replace hw := Lib.hid hw
  go_enter Tryz.func38, Tryz.ntmps38
  go_wp2
  go_still_tail 7, (by kernel_rfl)
  change wpList _ _ _ _ _ w.drew
  have hw0 := Lib.hid (hd.out _ hw.out)
  generalize w.drew = w1 at *
  go_wp2_with fail
  refine (h.out _ hw0.out).mono ?_
  rintro e w2 ⟨rfl, hp⟩
  have hw2 := Lib.hid hp
  clear hp
  go_wp2
  go_end0
  exact ⟨rfl, hw2.out⟩

set_option maxHeartbeats 4000000 in
set_option maxRecDepth 100000 in
theorem pf_8 {T : TypeId} {K : FuncId} {c : Value} (hn : ∀ n W, (nilAhead (n + 1) T c "filespace/wire.names").run Tryz.prog W = .ok (some false) W) (hm : ∀ n W, (method (n + 1) T c "filespace/wire.names").run Tryz.prog W = .ok (K, c) W)
    (hcf : ∀ args W, (callFunc K args).run Tryz.prog W = .ok (.enter K args) W) (g : Nat) (P Q : World → Prop) (hd : ∀ W, P W → P W.drew)
    (h : ∀ W, P W → Calls Tryz.prog K #[c, .pointer (some ⟨g, 10, none⟩)] W fun e W' => e = .returned (.tuple #[]) ∧ Q W') (w : World) (hw : P w) :
    Calls Tryz.prog 38 #[.iface T c, .pointer (some ⟨g, 0, none⟩), .int .i64 8] w fun e w' => e = .returned (.tuple #[]) ∧ Q w' := by
  replace hd := Lib.hid hd
  replace h := Lib.hid h
  replace hw := Lib.hid hw
  go_enter Tryz.func38, Tryz.ntmps38
  go_wp2
  go_still_tail 7, (by kernel_rfl)
  change wpList _ _ _ _ _ w.drew
  have hw0 := Lib.hid (hd.out _ hw.out)
  generalize w.drew = w1 at *
  go_wp2_with fail
  refine (h.out _ hw0.out).mono ?_
  rintro e w2 ⟨rfl, hp⟩
  have hw2 := Lib.hid hp
  clear hp
  go_wp2
  go_end0
  exact ⟨rfl, hw2.out⟩

set_option maxHeartbeats 4000000 in
set_option maxRecDepth 100000 in
theorem pf_9 {T : TypeId} {K : FuncId} {c : Value} (hn : ∀ n W, (nilAhead (n + 1) T c "filespace/wire.qids").run Tryz.prog W = .ok (some false) W) (hm : ∀ n W, (method (n + 1) T c "filespace/wire.qids").run Tryz.prog W = .ok (K, c) W)
    (hcf : ∀ args W, (callFunc K args).run Tryz.prog W = .ok (.enter K args) W) (g : Nat) (P Q : World → Prop) (hd : ∀ W, P W → P W.drew)
    (h : ∀ W, P W → Calls Tryz.prog K #[c, .pointer (some ⟨g, 11, none⟩)] W fun e W' => e = .returned (.tuple #[]) ∧ Q W') (w : World) (hw : P w) :
    Calls Tryz.prog 38 #[.iface T c, .pointer (some ⟨g, 0, none⟩), .int .i64 9] w fun e w' => e = .returned (.tuple #[]) ∧ Q w' := by
  replace hd := Lib.hid hd
  replace h := Lib.hid h
  replace hw := Lib.hid hw
  go_enter Tryz.func38, Tryz.ntmps38
  go_wp2
  go_still_tail 7, (by kernel_rfl)
  change wpList _ _ _ _ _ w.drew
  have hw0 := Lib.hid (hd.out _ hw.out)
  generalize w.drew = w1 at *
  go_wp2_with fail
  refine (h.out _ hw0.out).mono ?_
  rintro e w2 ⟨rfl, hp⟩
  have hw2 := Lib.hid hp
  clear hp
  go_wp2
  go_end0
  exact ⟨rfl, hw2.out⟩

set_option maxHeartbeats 4000000 in
set_option maxRecDepth 100000 in
theorem pf_10 {T : TypeId} {c : Value} (g : Nat) (P Q : World → Prop)
    (h : ∀ W, P W → Calls Tryz.prog 66 #[.iface T c, .pointer (some ⟨g, 12, none⟩)] W fun e W' => e = .returned (.tuple #[]) ∧ Q W') (w : World) (hw : P w) :
    Calls Tryz.prog 38 #[.iface T c, .pointer (some ⟨g, 0, none⟩), .int .i64 10] w fun e w' => e = .returned (.tuple #[]) ∧ Q w' := by
  replace h := Lib.hid h
  replace hw := Lib.hid hw
  go_enter Tryz.func38, Tryz.ntmps38
  go_wp2_with fail
  refine (h.out _ hw.out).mono ?_
  rintro e w2 ⟨rfl, hp⟩
  have hw2 := Lib.hid hp
  clear hp
  go_wp2
  go_end0
  exact ⟨rfl, hw2.out⟩

set_option maxHeartbeats 4000000 in
set_option maxRecDepth 100000 in
theorem pf_11 {T : TypeId} {K : FuncId} {c : Value} (hn : ∀ n W, (nilAhead (n + 1) T c "filespace/wire.number").run Tryz.prog W = .ok (some false) W) (hm : ∀ n W, (method (n + 1) T c "filespace/wire.number").run Tryz.prog W = .ok (K, c) W)
    (hcf : ∀ args W, (callFunc K args).run Tryz.prog W = .ok (.enter K args) W) (g : Nat) (P Q : World → Prop) (hd : ∀ W, P W → P W.drew)
    (h : ∀ W, P W → Calls Tryz.prog K #[c, .pointer (some ⟨g, 15, none⟩), .int .i64 4] W fun e W' => e = .returned (.tuple #[]) ∧ Q W') (w : World) (hw : P w) :
    Calls Tryz.prog 38 #[.iface T c, .pointer (some ⟨g, 0, none⟩), .int .i64 11] w fun e w' => e = .returned (.tuple #[]) ∧ Q w' := by
  replace hd := Lib.hid hd
  replace h := Lib.hid h
  replace hw := Lib.hid hw
  go_enter Tryz.func38, Tryz.ntmps38
  go_wp2
  go_still_tail 7, (by kernel_rfl)
  change wpList _ _ _ _ _ w.drew
  have hw0 := Lib.hid (hd.out _ hw.out)
  generalize w.drew = w1 at *
  go_wp2_with fail
  refine (h.out _ hw0.out).mono ?_
  rintro e w2 ⟨rfl, hp⟩
  have hw2 := Lib.hid hp
  clear hp
  go_wp2
  go_end0
  exact ⟨rfl, hw2.out⟩
end Go.Proofs.YtlfdmbfbfadifaaGreatDoor

namespace Go.Proofs.YtlfdmbfbfadifaaGreatDoor
open Go.RowKit

set_option maxHeartbeats 4000000 in
set_option maxRecDepth 100000 in
theorem pf_12 {T : TypeId} {K : FuncId} {c : Value} (hn : ∀ n W, (nilAhead (n + 1) T c "filespace/wire.number").run Tryz.prog W = .ok (some false) W) (hm : ∀ n W, (method (n + 1) T c "filespace/wire.number").run Tryz.prog W = .ok (K, c) W)
    (hcf : ∀ args W, (callFunc K args).run Tryz.prog W = .ok (.enter K args) W) (g : Nat) (P Q : World → Prop) (hd : ∀ W, P W → P W.drew)
    (h : ∀ W, P W → Calls Tryz.prog K #[c, .pointer (some ⟨g, 16, none⟩), .int .i64 1] W fun e W' => e = .returned (.tuple #[]) ∧ Q W') (w : World) (hw : P w) :
    Calls Tryz.prog 38 #[.iface T c, .pointer (some ⟨g, 0, none⟩), .int .i64 12] w fun e w' => e = .returned (.tuple #[]) ∧ Q w' := by
  replace hd := Lib.hid hd
  replace h := Lib.hid h
  replace hw := Lib.hid hw
  go_enter Tryz.func38, Tryz.ntmps38
  go_wp2
  go_still_tail 7, (by kernel_rfl)
  change wpList _ _ _ _ _ w.drew
  have hw0 := Lib.hid (hd.out _ hw.out)
  generalize w.drew = w1 at *
  go_wp2_with fail
  refine (h.out _ hw0.out).mono ?_
  rintro e w2 ⟨rfl, hp⟩
  have hw2 := Lib.hid hp
  clear hp
  go_wp2
  go_end0
  exact ⟨rfl, hw2.out⟩

set_option maxHeartbeats 4000000 in
set_option maxRecDepth 100000 in
theorem pf_13 {T : TypeId} {K : FuncId} {c : Value} (hn : ∀ n W, (nilAhead (n + 1) T c "filespace/wire.number").run Tryz.prog W = .ok (some false) W) (hm : ∀ n W, (method (n + 1) T c "filespace/wire.number").run Tryz.prog W = .ok (K, c) W)
    (hcf : ∀ args W, (callFunc K args).run Tryz.prog W = .ok (.enter K args) W) (g : Nat) (P Q : World → Prop) (hd : ∀ W, P W → P W.drew)
    (h : ∀ W, P W → Calls Tryz.prog K #[c, .pointer (some ⟨g, 17, none⟩), .int .i64 4] W fun e W' => e = .returned (.tuple #[]) ∧ Q W') (w : World) (hw : P w) :
    Calls Tryz.prog 38 #[.iface T c, .pointer (some ⟨g, 0, none⟩), .int .i64 13] w fun e w' => e = .returned (.tuple #[]) ∧ Q w' := by
  replace hd := Lib.hid hd
  replace h := Lib.hid h
  replace hw := Lib.hid hw
  go_enter Tryz.func38, Tryz.ntmps38
  go_wp2
  go_still_tail 7, (by kernel_rfl)
  change wpList _ _ _ _ _ w.drew
  have hw0 := Lib.hid (hd.out _ hw.out)
  generalize w.drew = w1 at *
  go_wp2_with fail
  refine (h.out _ hw0.out).mono ?_
  rintro e w2 ⟨rfl, hp⟩
  have hw2 := Lib.hid hp
  clear hp
  go_wp2
  go_end0
  exact ⟨rfl, hw2.out⟩

set_option maxHeartbeats 4000000 in
set_option maxRecDepth 100000 in
theorem pf_14 {T : TypeId} {K : FuncId} {c : Value} (hn : ∀ n W, (nilAhead (n + 1) T c "filespace/wire.text").run Tryz.prog W = .ok (some false) W) (hm : ∀ n W, (method (n + 1) T c "filespace/wire.text").run Tryz.prog W = .ok (K, c) W)
    (hcf : ∀ args W, (callFunc K args).run Tryz.prog W = .ok (.enter K args) W) (g : Nat) (P Q : World → Prop) (hd : ∀ W, P W → P W.drew)
    (h : ∀ W, P W → Calls Tryz.prog K #[c, .pointer (some ⟨g, 18, none⟩)] W fun e W' => e = .returned (.tuple #[]) ∧ Q W') (w : World) (hw : P w) :
    Calls Tryz.prog 38 #[.iface T c, .pointer (some ⟨g, 0, none⟩), .int .i64 14] w fun e w' => e = .returned (.tuple #[]) ∧ Q w' := by
  replace hd := Lib.hid hd
  replace h := Lib.hid h
  replace hw := Lib.hid hw
  go_enter Tryz.func38, Tryz.ntmps38
  go_wp2
  go_still_tail 7, (by kernel_rfl)
  change wpList _ _ _ _ _ w.drew
  have hw0 := Lib.hid (hd.out _ hw.out)
  generalize w.drew = w1 at *
  go_wp2_with fail
  refine (h.out _ hw0.out).mono ?_
  rintro e w2 ⟨rfl, hp⟩
  have hw2 := Lib.hid hp
  clear hp
  go_wp2
  go_end0
  exact ⟨rfl, hw2.out⟩

set_option maxHeartbeats 4000000 in
set_option maxRecDepth 100000 in
theorem pf_15 {T : TypeId} {K : FuncId} {c : Value} (hn : ∀ n W, (nilAhead (n + 1) T c "filespace/wire.number").run Tryz.prog W = .ok (some false) W) (hm : ∀ n W, (method (n + 1) T c "filespace/wire.number").run Tryz.prog W = .ok (K, c) W)
    (hcf : ∀ args W, (callFunc K args).run Tryz.prog W = .ok (.enter K args) W) (g : Nat) (P Q : World → Prop) (hd : ∀ W, P W → P W.drew)
    (h : ∀ W, P W → Calls Tryz.prog K #[c, .pointer (some ⟨g, 19, none⟩), .int .i64 8] W fun e W' => e = .returned (.tuple #[]) ∧ Q W') (w : World) (hw : P w) :
    Calls Tryz.prog 38 #[.iface T c, .pointer (some ⟨g, 0, none⟩), .int .i64 15] w fun e w' => e = .returned (.tuple #[]) ∧ Q w' := by
  replace hd := Lib.hid hd
  replace h := Lib.hid h
  replace hw := Lib.hid hw
  go_enter Tryz.func38, Tryz.ntmps38
  go_wp2
  go_still_tail 7, (by kernel_rfl)
  change wpList _ _ _ _ _ w.drew
  have hw0 := Lib.hid (hd.out _ hw.out)
  generalize w.drew = w1 at *
  go_wp2_with fail
  refine (h.out _ hw0.out).mono ?_
  rintro e w2 ⟨rfl, hp⟩
  have hw2 := Lib.hid hp
  clear hp
  go_wp2
  go_end0
  exact ⟨rfl, hw2.out⟩

set_option maxHeartbeats 4000000 in
set_option maxRecDepth 100000 in
theorem pf_16 {T : TypeId} {K : FuncId} {c : Value} (hn : ∀ n W, (nilAhead (n + 1) T c "filespace/wire.number").run Tryz.prog W = .ok (some false) W) (hm : ∀ n W, (method (n + 1) T c "filespace/wire.number").run Tryz.prog W = .ok (K, c) W)
    (hcf : ∀ args W, (callFunc K args).run Tryz.prog W = .ok (.enter K args) W) (g : Nat) (P Q : World → Prop) (hd : ∀ W, P W → P W.drew)
    (h : ∀ W, P W → Calls Tryz.prog K #[c, .pointer (some ⟨g, 20, none⟩), .int .i64 4] W fun e W' => e = .returned (.tuple #[]) ∧ Q W') (w : World) (hw : P w) :
    Calls Tryz.prog 38 #[.iface T c, .pointer (some ⟨g, 0, none⟩), .int .i64 16] w fun e w' => e = .returned (.tuple #[]) ∧ Q w' := by
  replace hd := Lib.hid hd
  replace h := Lib.hid h
  replace hw := Lib.hid hw
  go_enter Tryz.func38, Tryz.ntmps38
  go_wp2
  go_still_tail 7, (by kernel_rfl)
  change wpList _ _ _ _ _ w.drew
  have hw0 := Lib.hid (hd.out _ hw.out)
  generalize w.drew = w1 at *
  go_wp2_with fail
  refine (h.out _ hw0.out).mono ?_
  rintro e w2 ⟨rfl, hp⟩
  have hw2 := Lib.hid hp
  clear hp
  go_wp2
  go_end0
  exact ⟨rfl, hw2.out⟩

set_option maxHeartbeats 4000000 in
set_option maxRecDepth 100000 in
theorem pf_17 {T : TypeId} {K : FuncId} {c : Value} (hn : ∀ n W, (nilAhead (n + 1) T c "filespace/wire.data").run Tryz.prog W = .ok (some false) W) (hm : ∀ n W, (method (n + 1) T c "filespace/wire.data").run Tryz.prog W = .ok (K, c) W)
    (hcf : ∀ args W, (callFunc K args).run Tryz.prog W = .ok (.enter K args) W) (g : Nat) (P Q : World → Prop) (hd : ∀ W, P W → P W.drew)
    (h : ∀ W, P W → Calls Tryz.prog K #[c, .pointer (some ⟨g, 21, none⟩)] W fun e W' => e = .returned (.tuple #[]) ∧ Q W') (w : World) (hw : P w) :
    Calls Tryz.prog 38 #[.iface T c, .pointer (some ⟨g, 0, none⟩), .int .i64 17] w fun e w' => e = .returned (.tuple #[]) ∧ Q w' := by
  replace hd := Lib.hid hd
  replace h := Lib.hid h
  replace hw := Lib.hid hw
  go_enter Tryz.func38, Tryz.ntmps38
  go_wp2
  go_still_tail 7, (by kernel_rfl)
  change wpList _ _ _ _ _ w.drew
  have hw0 := Lib.hid (hd.out _ hw.out)
  generalize w.drew = w1 at *
  go_wp2_with fail
  refine (h.out _ hw0.out).mono ?_
  rintro e w2 ⟨rfl, hp⟩
  have hw2 := Lib.hid hp
  clear hp
  go_wp2
  go_end0
  exact ⟨rfl, hw2.out⟩
end Go.Proofs.YtlfdmbfbfadifaaGreatDoor

namespace Go.Proofs.YtlfdmbfbfadifaaGreatDoor
open Go.RowKit

set_option maxHeartbeats 4000000 in
set_option maxRecDepth 100000 in
theorem pf_18 {T : TypeId} {K : FuncId} {c : Value} (hn : ∀ n W, (nilAhead (n + 1) T c "filespace/wire.dir").run Tryz.prog W = .ok (some false) W) (hm : ∀ n W, (method (n + 1) T c "filespace/wire.dir").run Tryz.prog W = .ok (K, c) W)
    (hcf : ∀ args W, (callFunc K args).run Tryz.prog W = .ok (.enter K args) W) (g : Nat) (P Q : World → Prop) (hd : ∀ W, P W → P W.drew)
    (h : ∀ W, P W → Calls Tryz.prog K #[c, .pointer (some ⟨g, 22, none⟩)] W fun e W' => e = .returned (.tuple #[]) ∧ Q W') (w : World) (hw : P w) :
    Calls Tryz.prog 38 #[.iface T c, .pointer (some ⟨g, 0, none⟩), .int .i64 18] w fun e w' => e = .returned (.tuple #[]) ∧ Q w' := by
  replace hd := Lib.hid hd
  replace h := Lib.hid h
  replace hw := Lib.hid hw
  go_enter Tryz.func38, Tryz.ntmps38
  go_wp2
  go_still_tail 7, (by kernel_rfl)
  change wpList _ _ _ _ _ w.drew
  have hw0 := Lib.hid (hd.out _ hw.out)
  generalize w.drew = w1 at *
  go_wp2_with fail
  refine (h.out _ hw0.out).mono ?_
  rintro e w2 ⟨rfl, hp⟩
  have hw2 := Lib.hid hp
  clear hp
  go_wp2
  go_end0
  exact ⟨rfl, hw2.out⟩

set_option maxHeartbeats 4000000 in
set_option maxRecDepth 100000 in
theorem pf_19 {T : TypeId} {K : FuncId} {c : Value} (hn : ∀ n W, (nilAhead (n + 1) T c "filespace/wire.errno").run Tryz.prog W = .ok (some false) W) (hm : ∀ n W, (method (n + 1) T c "filespace/wire.errno").run Tryz.prog W = .ok (K, c) W)
    (hcf : ∀ args W, (callFunc K args).run Tryz.prog W = .ok (.enter K args) W) (g : Nat) (P Q : World → Prop) (hd : ∀ W, P W → P W.drew)
    (h : ∀ W, P W → Calls Tryz.prog K #[c, .pointer (some ⟨g, 35, none⟩)] W fun e W' => e = .returned (.tuple #[]) ∧ Q W') (w : World) (hw : P w) :
    Calls Tryz.prog 38 #[.iface T c, .pointer (some ⟨g, 0, none⟩), .int .i64 19] w fun e w' => e = .returned (.tuple #[]) ∧ Q w' := by
  replace hd := Lib.hid hd
  replace h := Lib.hid h
  replace hw := Lib.hid hw
  go_enter Tryz.func38, Tryz.ntmps38
  go_wp2
  go_still_tail 7, (by kernel_rfl)
  change wpList _ _ _ _ _ w.drew
  have hw0 := Lib.hid (hd.out _ hw.out)
  generalize w.drew = w1 at *
  go_wp2_with fail
  refine (h.out _ hw0.out).mono ?_
  rintro e w2 ⟨rfl, hp⟩
  have hw2 := Lib.hid hp
  clear hp
  go_wp2
  go_end0
  exact ⟨rfl, hw2.out⟩

set_option maxHeartbeats 4000000 in
set_option maxRecDepth 100000 in
theorem pf_20 {T : TypeId} {K : FuncId} {c : Value} (hn : ∀ n W, (nilAhead (n + 1) T c "filespace/wire.number").run Tryz.prog W = .ok (some false) W) (hm : ∀ n W, (method (n + 1) T c "filespace/wire.number").run Tryz.prog W = .ok (K, c) W)
    (hcf : ∀ args W, (callFunc K args).run Tryz.prog W = .ok (.enter K args) W) (g : Nat) (P Q : World → Prop) (hd : ∀ W, P W → P W.drew)
    (h : ∀ W, P W → Calls Tryz.prog K #[c, .pointer (some ⟨g, 36, none⟩), .int .i64 1] W fun e W' => e = .returned (.tuple #[]) ∧ Q W') (w : World) (hw : P w) :
    Calls Tryz.prog 38 #[.iface T c, .pointer (some ⟨g, 0, none⟩), .int .i64 20] w fun e w' => e = .returned (.tuple #[]) ∧ Q w' := by
  replace hd := Lib.hid hd
  replace h := Lib.hid h
  replace hw := Lib.hid hw
  go_enter Tryz.func38, Tryz.ntmps38
  go_wp2
  go_still_tail 7, (by kernel_rfl)
  change wpList _ _ _ _ _ w.drew
  have hw0 := Lib.hid (hd.out _ hw.out)
  generalize w.drew = w1 at *
  go_wp2_with fail
  refine (h.out _ hw0.out).mono ?_
  rintro e w2 ⟨rfl, hp⟩
  have hw2 := Lib.hid hp
  clear hp
  go_wp2
  go_end0
  exact ⟨rfl, hw2.out⟩

set_option maxHeartbeats 4000000 in
set_option maxRecDepth 100000 in
theorem pf_21 {T : TypeId} {K : FuncId} {c : Value} (hn : ∀ n W, (nilAhead (n + 1) T c "filespace/wire.number").run Tryz.prog W = .ok (some false) W) (hm : ∀ n W, (method (n + 1) T c "filespace/wire.number").run Tryz.prog W = .ok (K, c) W)
    (hcf : ∀ args W, (callFunc K args).run Tryz.prog W = .ok (.enter K args) W) (g : Nat) (P Q : World → Prop) (hd : ∀ W, P W → P W.drew)
    (h : ∀ W, P W → Calls Tryz.prog K #[c, .pointer (some ⟨g, 37, none⟩), .int .i64 4] W fun e W' => e = .returned (.tuple #[]) ∧ Q W') (w : World) (hw : P w) :
    Calls Tryz.prog 38 #[.iface T c, .pointer (some ⟨g, 0, none⟩), .int .i64 21] w fun e w' => e = .returned (.tuple #[]) ∧ Q w' := by
  replace hd := Lib.hid hd
  replace h := Lib.hid h
  replace hw := Lib.hid hw
  go_enter Tryz.func38, Tryz.ntmps38
  go_wp2
  go_still_tail 7, (by kernel_rfl)
  change wpList _ _ _ _ _ w.drew
  have hw0 := Lib.hid (hd.out _ hw.out)
  generalize w.drew = w1 at *
  go_wp2_with fail
  refine (h.out _ hw0.out).mono ?_
  rintro e w2 ⟨rfl, hp⟩
  have hw2 := Lib.hid hp
  clear hp
  go_wp2
  go_end0
  exact ⟨rfl, hw2.out⟩

set_option maxHeartbeats 4000000 in
set_option maxRecDepth 100000 in
theorem pf_22 {T : TypeId} {K : FuncId} {c : Value} (hn : ∀ n W, (nilAhead (n + 1) T c "filespace/wire.text").run Tryz.prog W = .ok (some false) W) (hm : ∀ n W, (method (n + 1) T c "filespace/wire.text").run Tryz.prog W = .ok (K, c) W)
    (hcf : ∀ args W, (callFunc K args).run Tryz.prog W = .ok (.enter K args) W) (g : Nat) (P Q : World → Prop) (hd : ∀ W, P W → P W.drew)
    (h : ∀ W, P W → Calls Tryz.prog K #[c, .pointer (some ⟨g, 38, none⟩)] W fun e W' => e = .returned (.tuple #[]) ∧ Q W') (w : World) (hw : P w) :
    Calls Tryz.prog 38 #[.iface T c, .pointer (some ⟨g, 0, none⟩), .int .i64 22] w fun e w' => e = .returned (.tuple #[]) ∧ Q w' := by
  replace hd := Lib.hid hd
  replace h := Lib.hid h
  replace hw := Lib.hid hw
  go_enter Tryz.func38, Tryz.ntmps38
  go_wp2
  go_still_tail 7, (by kernel_rfl)
  change wpList _ _ _ _ _ w.drew
  have hw0 := Lib.hid (hd.out _ hw.out)
  generalize w.drew = w1 at *
  go_wp2_with fail
  refine (h.out _ hw0.out).mono ?_
  rintro e w2 ⟨rfl, hp⟩
  have hw2 := Lib.hid hp
  clear hp
  go_wp2
  go_end0
  exact ⟨rfl, hw2.out⟩
end Go.Proofs.YtlfdmbfbfadifaaGreatDoor

namespace Go.Proofs.YtlfdmbfbfadifaaGreatDoor
open Go.RowKit

section
variable (k n : Nat) (W : World)
theorem nilW_number : (nilAhead (n + 1) 49 (.pointer (some ⟨k, 0, none⟩)) "filespace/wire.number").run Tryz.prog W = .ok (some false) W := by kernel_rfl
theorem metW_number : (method (n + 1) 49 (.pointer (some ⟨k, 0, none⟩)) "filespace/wire.number").run Tryz.prog W = .ok (116, .pointer (some ⟨k, 0, none⟩)) W := by kernel_rfl
theorem nilW_text : (nilAhead (n + 1) 49 (.pointer (some ⟨k, 0, none⟩)) "filespace/wire.text").run Tryz.prog W = .ok (some false) W := by kernel_rfl
theorem metW_text : (method (n + 1) 49 (.pointer (some ⟨k, 0, none⟩)) "filespace/wire.text").run Tryz.prog W = .ok (118, .pointer (some ⟨k, 0, none⟩)) W := by kernel_rfl
theorem nilW_data : (nilAhead (n + 1) 49 (.pointer (some ⟨k, 0, none⟩)) "filespace/wire.data").run Tryz.prog W = .ok (some false) W := by kernel_rfl
theorem metW_data : (method (n + 1) 49 (.pointer (some ⟨k, 0, none⟩)) "filespace/wire.data").run Tryz.prog W = .ok (112, .pointer (some ⟨k, 0, none⟩)) W := by kernel_rfl
theorem nilW_names : (nilAhead (n + 1) 49 (.pointer (some ⟨k, 0, none⟩)) "filespace/wire.names").run Tryz.prog W = .ok (some false) W := by kernel_rfl
theorem metW_names : (method (n + 1) 49 (.pointer (some ⟨k, 0, none⟩)) "filespace/wire.names").run Tryz.prog W = .ok (115, .pointer (some ⟨k, 0, none⟩)) W := by kernel_rfl
theorem nilW_qids : (nilAhead (n + 1) 49 (.pointer (some ⟨k, 0, none⟩)) "filespace/wire.qids").run Tryz.prog W = .ok (some false) W := by kernel_rfl
theorem metW_qids : (method (n + 1) 49 (.pointer (some ⟨k, 0, none⟩)) "filespace/wire.qids").run Tryz.prog W = .ok (117, .pointer (some ⟨k, 0, none⟩)) W := by kernel_rfl
theorem nilW_dir : (nilAhead (n + 1) 49 (.pointer (some ⟨k, 0, none⟩)) "filespace/wire.dir").run Tryz.prog W = .ok (some false) W := by kernel_rfl
theorem metW_dir : (method (n + 1) 49 (.pointer (some ⟨k, 0, none⟩)) "filespace/wire.dir").run Tryz.prog W = .ok (113, .pointer (some ⟨k, 0, none⟩)) W := by kernel_rfl
theorem nilW_errno : (nilAhead (n + 1) 49 (.pointer (some ⟨k, 0, none⟩)) "filespace/wire.errno").run Tryz.prog W = .ok (some false) W := by kernel_rfl
theorem metW_errno : (method (n + 1) 49 (.pointer (some ⟨k, 0, none⟩)) "filespace/wire.errno").run Tryz.prog W = .ok (114, .pointer (some ⟨k, 0, none⟩)) W := by kernel_rfl
variable (args : Array Value)
theorem cfW_number : (callFunc 116 args).run Tryz.prog W = .ok (.enter 116 args) W := by kernel_rfl
theorem cfW_text : (callFunc 118 args).run Tryz.prog W = .ok (.enter 118 args) W := by kernel_rfl
theorem cfW_data : (callFunc 112 args).run Tryz.prog W = .ok (.enter 112 args) W := by kernel_rfl
theorem cfW_names : (callFunc 115 args).run Tryz.prog W = .ok (.enter 115 args) W := by kernel_rfl
theorem cfW_qids : (callFunc 117 args).run Tryz.prog W = .ok (.enter 117 args) W := by kernel_rfl
theorem cfW_dir : (callFunc 113 args).run Tryz.prog W = .ok (.enter 113 args) W := by kernel_rfl
theorem cfW_errno : (callFunc 114 args).run Tryz.prog W = .ok (.enter 114 args) W := by kernel_rfl
end
theorem WrAt.drew {B k : Nat} {bs : List UInt8} {w : World} (h : WrAt B k bs w) : WrAt B k bs w.drew := h
theorem Wrote.drew {B k : Nat} {a w : World} (h : Wrote B k a w) : Wrote B k a w.drew := ⟨below_drew h.1, h.2.drew⟩
theorem i64_in {n : Int} (h : 0 ≤ n ∧ n ≤ 4294967295) : inI n := ⟨by omega, by omega⟩

theorem wPassQid (B k : Nat) (bs : List UInt8) (g o : Nat) (q : QQ) (w : World) (hq : qidB q = true) (h : WrAt B k bs w) (hlen : bs.length ≤ 800000) (hBw : B ≤ w.heap.size)
    (hg : ∃ cs t, w.heap[g]? = some (.cells cs t (0, 0)) ∧ g ≠ k ∧ t ≠ 5)
    (c0 : w.cell? ⟨g, o, none⟩ = some (.int .i64 q.t)) (c1 : w.cell? ⟨g, o + 1, none⟩ = some (.int .i64 q.v)) (c2 : w.cell? ⟨g, o + 2, none⟩ = some (.int .i64 q.p)) :
    Calls Tryz.prog 66 #[.iface 49 (.pointer (some ⟨k, 0, none⟩)), .pointer (some ⟨g, o, none⟩)] w fun e w' => e = .returned (.tuple #[]) ∧ WrAt B k (bs ++ encQ q) w' ∧ Wrote B k w w' := by
  obtain ⟨⟨t1, t2⟩, ⟨v1, v2⟩, p1, p2⟩ := qidB_in hq
  have key := passQid_any (nilW_number k) (metW_number k) (fun args W => cfW_number W args) g o
    (fun W => WrAt B k bs W ∧ Wrote B k w W) (fun W => WrAt B k (bs ++ le 1 q.t.toNat) W ∧ Wrote B k w W) (fun W => WrAt B k (bs ++ le 1 q.t.toNat ++ le 4 q.v.toNat) W ∧ Wrote B k w W)
    (fun W => WrAt B k (bs ++ le 1 q.t.toNat ++ le 4 q.v.toNat ++ le 8 q.p.toNat) W ∧ Wrote B k w W)
    (fun W h => ⟨h.1.drew, h.2.drew⟩) (fun W h => ⟨h.1.drew, h.2.drew⟩) (fun W h => ⟨h.1.drew, h.2.drew⟩)
    (fun W h => (wNumber B k bs g o q.t 1 W (by omega) ⟨by omega, by omega⟩ ⟨t1, by omega⟩ h.1 (by omega) (Nat.le_trans hBw h.2.1.size) ((wrote_cell h.2 hg o).trans c0)).mono fun e w' ⟨e1, e2, e3⟩ => ⟨e1, e2, h.2.trans e3⟩)
    (fun W h => (wNumber B k _ g (o + 1) q.v 4 W (by omega) ⟨by omega, by omega⟩ ⟨v1, by omega⟩ h.1 (by rw [List.length_append, le_len]; omega) (Nat.le_trans hBw h.2.1.size) ((wrote_cell h.2 hg (o + 1)).trans c1)).mono fun e w' ⟨e1, e2, e3⟩ => ⟨e1, e2, h.2.trans e3⟩)
    (fun W h => (wNumber B k _ g (o + 2) q.p 8 W (by omega) ⟨by omega, by omega⟩ ⟨p1, by omega⟩ h.1 (by rw [List.length_append, List.length_append, le_len, le_len]; omega) (Nat.le_trans hBw h.2.1.size) ((wrote_cell h.2 hg (o + 2)).trans c2)).mono fun e w' ⟨e1, e2, e3⟩ => ⟨e1, e2, h.2.trans e3⟩)
    w ⟨h, Wrote.refl _ _ _⟩
  refine key.mono fun e w' ⟨e1, e2, e3⟩ => ⟨e1, ?_, e3⟩
  have : bs ++ encQ q = bs ++ le 1 q.t.toNat ++ le 4 q.v.toNat ++ le 8 q.p.toNat := by simp [encQ, List.append_assoc]
  rw [this]; exact e2

/-- The bytes of the qids up to the k-th. -/
def qidsTo (L : List QQ) (j : Nat) : List UInt8 := le 2 L.length ++ (L.take j).flatMap encQ
theorem qidsTo_zero (L : List QQ) : qidsTo L 0 = le 2 L.length := by simp [qidsTo]
theorem qidsTo_succ {L : List QQ} {j : Nat} (h : j < L.length) : qidsTo L j ++ encQ (atQ L j) = qidsTo L (j + 1) := by
  unfold qidsTo atQ
  rw [List.take_succ_eq_append_getElem h, List.flatMap_append, List.append_assoc, List.getD_eq_getElem?_getD, List.getElem?_eq_getElem h]; simp
theorem qidsTo_all (L : List QQ) : qidsTo L L.length = le 2 L.length ++ L.flatMap encQ := by simp [qidsTo]
theorem qidsTo_le {L : List QQ} (h : L.length ≤ 16) (j : Nat) : (qidsTo L j).length ≤ 1100 := by
  unfold qidsTo
  have := flatMap_le (L := L.take j) (g := encQ) (n := 13) fun l hl => by rw [encQ_len]; omega
  have : (L.take j).length ≤ L.length := List.length_take_le' ..
  rw [List.length_append, le_len]; omega
theorem atQ_mem {L : List QQ} {j : Nat} (h : j < L.length) : atQ L j ∈ L := by
  unfold atQ; rw [List.getD_eq_getElem?_getD, List.getElem?_eq_getElem h]; exact List.getElem_mem h

set_option maxHeartbeats 2000000 in
set_option maxRecDepth 100000 in
theorem wQids (B k : Nat) (bs : List UInt8) (g o : Nat) (v : Value) (L : List QQ) (w0 w : World) (hL : L.length ≤ 16 ∧ ∀ q ∈ L, qidB q = true) (hr : QRow w0 v L) (hB0 : w0.heap.size = B) (hb : Below B w0 w) (h : WrAt B k bs w) (hlen : bs.length ≤ 700000)
    (hc : w.cell? ⟨g, o, none⟩ = some v) (hg : ∃ cs t, w.heap[g]? = some (.cells cs t (0, 0)) ∧ g ≠ k ∧ t ≠ 5) :
    Calls Tryz.prog 117 #[.pointer (some ⟨k, 0, none⟩), .pointer (some ⟨g, o, none⟩)] w fun e w' => e = .returned (.tuple #[]) ∧ WrAt B k (bs ++ (le 2 L.length ++ L.flatMap encQ)) w' ∧ Wrote B k w w' := by
  subst hB0
  have hBw := hb.size
  obtain ⟨p, cap, rfl, hcap, hcm, -⟩ := id hr
  have hP0 := fun W => oPut (L.length : Int) 2 ⟨by omega, by omega⟩ W
  have ep := putR_fit (n := (L.length : Int)) (wd := 2) (by omega) (by omega) (by simp; omega)
  rw [show ((2 : Nat) : Int) = 2 from rfl] at ep
  rw [ep] at hP0
  dsimp only at hP0
  rw [Int.toNat_natCast] at hP0
  have HP := Lib.hid hP0
  have HA := Lib.hid (fun W (hb : Below w.heap.size w W) => add_any w0.heap.size k bs (le 2 L.length) W (h.below hb) (by rw [mk_len, le_len]; omega) (Nat.le_trans hBw hb.size))
  have HW := Lib.hid (fun W (hb : Below w.heap.size w W) => Wrote.of_below (k := k) hBw hb)
  have HC := Lib.hid (fun W (h : Wrote w0.heap.size k w W) => (wrote_cell h hg o).trans hc)
  have HT := Lib.hid (fun j (hj : j < L.length) gg W (hwr : WrAt w0.heap.size k (bs ++ qidsTo L j) W) (hz : w0.heap.size ≤ W.heap.size) (hgg : ∃ cs t, W.heap[gg]? = some (.cells cs t (0, 0)) ∧ gg ≠ k ∧ t ≠ 5) (d0 : W.cell? ⟨gg, 0, none⟩ = some (.int .i64 (atQ L j).t)) (d1 : W.cell? ⟨gg, 1, none⟩ = some (.int .i64 (atQ L j).v)) (d2 : W.cell? ⟨gg, 2, none⟩ = some (.int .i64 (atQ L j).p)) =>
    wPassQid w0.heap.size k (bs ++ qidsTo L j) gg 0 (atQ L j) W (hL.2 _ (atQ_mem hj)) hwr (by have := qidsTo_le hL.1 j; rw [List.length_append]; omega) hz hgg d0 d1 d2)
  have HS := Lib.hid (fun j (hj : j < L.length) => (by rw [List.append_assoc, qidsTo_succ hj] : bs ++ qidsTo L j ++ encQ (atQ L j) = bs ++ qidsTo L (j + 1)))
  have HZ : Hid (bs ++ le 2 L.length = bs ++ qidsTo L 0) := by rw [qidsTo_zero]; exact rfl
  have HX : Hid (bs ++ qidsTo L L.length = bs ++ (le 2 L.length ++ L.flatMap encQ)) := by rw [qidsTo_all]; exact rfl
  have HR := Lib.hid hr
  have HB := Lib.hid hb
  have hl0 : (L.length : Int) ≤ (cap : Int) := by omega
  have hk0 := Lib.hid (Array.getElem?_eq_some_iff.1 h.2.choose_spec.1).1
  unfold maxLen at hcm
  clear hP0 ep hlen hL hg h hr hb
  go_enter Tryz.func117, Tryz.ntmps117
  go_wp2_with fail
  refine (HP.out w).mono ?_
  rintro e w1 ⟨rfl, hb1⟩
  have HB1 := Lib.hid hb1
  clear hb1
  go_wp2_with fail
  refine (HA.out w1 HB1.out).mono ?_
  rintro e w2 ⟨rfl, h2, h3⟩
  rw [HZ.out] at h2
  have H2 := Lib.hid h2
  have H3 := Lib.hid ((HW.out w1 HB1.out).trans h3)
  have hc2 := HC.out w2 H3.out
  clear h2 h3
  go_wp2
  go_loopw [19] (fun vj wr => ∃ j : Nat, vj = .int .i64 (j : Int) ∧ j ≤ L.length ∧ Hid (WrAt w0.heap.size k (bs ++ qidsTo L j) wr) ∧ Hid (Wrote w0.heap.size k w wr)) (fun vj _ => L.length - (intOf vj).toNat)
  case atStart => exact ⟨0, rfl, by omega, H2, H3⟩
  case round =>
    obtain ⟨j, rfl, hj, hw1, hw2⟩ := hrel
    by_cases hlt : j < L.length
    · obtain ⟨b, o', cap', q, hqe, hv, hbb, hcl, x0, x1, x2⟩ := HR.out.at_ (HB.out.trans hw2.out.1) hlt
      obtain ⟨rfl, rfl⟩ : p = some ⟨b, o', none⟩ ∧ cap = cap' := by injection hv with a1 a2 a3; exact ⟨a1, a3⟩
      clear hv hbb
      have HTj := HT.out j hlt
      have HSj := HS.out j hlt
      rw [hqe] at HTj HSj
      replace HTj := Lib.hid HTj
      replace HSj := Lib.hid HSj
      clear hqe
      have k0 : (0 : Int) ≤ (j : Int) := by omega
      have k1 : (j : Int) < (L.length : Int) := by omega
      have hBal := Lib.hid ((Below.refl wr.heap.size wr).alloc (Nat.le_refl _) (.cells #[.int .i64 q.t, .int .i64 q.v, .int .i64 q.p] 25))
      have hnew : (wr.alloc (.cells #[.int .i64 q.t, .int .i64 q.v, .int .i64 q.p] 25)).heap[wr.heap.size]? = some (.cells #[.int .i64 q.t, .int .i64 q.v, .int .i64 q.p] 25 (0, 0)) := heap_alloc_new wr _
      have hcn0 := Lib.hid ((Lib.cell_of_heap hnew 0).trans (show _ = some (.int .i64 q.t) from rfl))
      have hcn1 := Lib.hid ((Lib.cell_of_heap hnew 1).trans (show _ = some (.int .i64 q.v) from rfl))
      have hcn2 := Lib.hid ((Lib.cell_of_heap hnew 2).trans (show _ = some (.int .i64 q.p) from rfl))
      have hgn : Hid (∃ cs t, (wr.alloc (.cells #[.int .i64 q.t, .int .i64 q.v, .int .i64 q.p] 25)).heap[wr.heap.size]? = some (.cells cs t (0, 0)) ∧ wr.heap.size ≠ k ∧ t ≠ 5) :=
        ⟨_, _, hnew, fun e => by have := hk0.out; have := hw2.out.1.size; omega, by decide⟩
      have hWal := Lib.hid (hw2.out.trans (Wrote.of_below (k := k) (Nat.le_trans hBw hw2.out.1.size) hBal.out))
      have hWa := Lib.hid (hw1.out.alloc (.cells #[.int .i64 q.t, .int .i64 q.v, .int .i64 q.p] 25))
      clear hnew
      go_wp2_with fail
      refine (HTj.out wr.heap.size _ hWa.out (Nat.le_trans hBw hWal.out.1.size) hgn.out hcn0.out hcn1.out hcn2.out).mono ?_
      rintro e w3 ⟨rfl, h2, h3⟩
      rw [HSj.out] at h2
      have H4 := Lib.hid h2
      have H5 := Lib.hid (hWal.out.trans h3)
      clear h2 h3
      go_wp2
      exact ⟨⟨j + 1, by go_num, by omega, H4, H5⟩, by simp [intOf]; omega⟩
    · obtain rfl : j = L.length := by omega
      have h4 := hw1.out
      rw [HX.out] at h4
      have H4 := Lib.hid h4
      clear h4
      go_wp2
      go_end0
      exact ⟨rfl, H4.out, hw2.out⟩
end Go.Proofs.YtlfdmbfbfadifaaGreatDoor
