/-
  Walks: small, the answers at its first tests.
-/
import Derived.Test.YtlfdmbfbfadifaaDoorWt
namespace Go.Proofs.YtlfdmbfbfadifaaDoor
open Go.RowKit

/-- A Bool is handed back. -/
def SomeB (e : Ending) : Prop := ∃ b, e = .returned (.bool b)
set_option maxRecDepth 100000 in
set_option maxHeartbeats 3200000 in
theorem small_0 (w : World) (ca : Array Value) (p1 : Option Addr) (nl c1 : Nat) (x10 : ca[10]? = some (.slice p1 nl c1)) (d0 : decide ((100 : Int) < (nl : Int)) = true) :
    Calls Tryd.prog 20 #[.agg ca] w fun e w' => SomeB e ∧ Below w.heap.size w w' := by
  have hB : Hid (Below w.heap.size w (w.alloc (.cells ca 35))) := (Below.refl _ w).alloc (Nat.le_refl _) _
  go_enter Tryd.func20, Tryd.ntmps20
  go_wp2
  go_ret
  exact ⟨⟨_, rfl⟩, hB.out⟩

set_option maxRecDepth 100000 in
set_option maxHeartbeats 3200000 in
theorem small_1 (w : World) (ca : Array Value) (p1 : Option Addr) (nl c1 : Nat) (x10 : ca[10]? = some (.slice p1 nl c1)) (p2 : Option Addr) (ql c2 : Nat) (x11 : ca[11]? = some (.slice p2 ql c2)) (d0 : decide ((100 : Int) < (nl : Int)) = false) (d1 : decide ((100 : Int) < (ql : Int)) = true) :
    Calls Tryd.prog 20 #[.agg ca] w fun e w' => SomeB e ∧ Below w.heap.size w w' := by
  have hB : Hid (Below w.heap.size w (w.alloc (.cells ca 35))) := (Below.refl _ w).alloc (Nat.le_refl _) _
  go_enter Tryd.func20, Tryd.ntmps20
  go_wp2
  go_ret
  exact ⟨⟨_, rfl⟩, hB.out⟩

set_option maxRecDepth 100000 in
set_option maxHeartbeats 3200000 in
theorem small_2 (w : World) (ca : Array Value) (p1 : Option Addr) (nl c1 : Nat) (x10 : ca[10]? = some (.slice p1 nl c1)) (p2 : Option Addr) (ql c2 : Nat) (x11 : ca[11]? = some (.slice p2 ql c2)) (s7 : ByteArray) (x7 : ca[7]? = some (.string s7)) (d0 : decide ((100 : Int) < (nl : Int)) = false) (d1 : decide ((100 : Int) < (ql : Int)) = false) (d2 : decide ((5000 : Int) < (s7.size : Int)) = true) :
    Calls Tryd.prog 20 #[.agg ca] w fun e w' => SomeB e ∧ Below w.heap.size w w' := by
  have hB : Hid (Below w.heap.size w (w.alloc (.cells ca 35))) := (Below.refl _ w).alloc (Nat.le_refl _) _
  go_enter Tryd.func20, Tryd.ntmps20
  go_wp2
  go_ret
  exact ⟨⟨_, rfl⟩, hB.out⟩

set_option maxRecDepth 100000 in
set_option maxHeartbeats 3200000 in
theorem small_3 (w : World) (ca : Array Value) (p1 : Option Addr) (nl c1 : Nat) (x10 : ca[10]? = some (.slice p1 nl c1)) (p2 : Option Addr) (ql c2 : Nat) (x11 : ca[11]? = some (.slice p2 ql c2)) (s7 : ByteArray) (x7 : ca[7]? = some (.string s7)) (s8 : ByteArray) (x8 : ca[8]? = some (.string s8)) (d0 : decide ((100 : Int) < (nl : Int)) = false) (d1 : decide ((100 : Int) < (ql : Int)) = false) (d2 : decide ((5000 : Int) < (s7.size : Int)) = false) (d3 : decide ((5000 : Int) < (s8.size : Int)) = true) :
    Calls Tryd.prog 20 #[.agg ca] w fun e w' => SomeB e ∧ Below w.heap.size w w' := by
  have hB : Hid (Below w.heap.size w (w.alloc (.cells ca 35))) := (Below.refl _ w).alloc (Nat.le_refl _) _
  go_enter Tryd.func20, Tryd.ntmps20
  go_wp2
  go_ret
  exact ⟨⟨_, rfl⟩, hB.out⟩

end Go.Proofs.YtlfdmbfbfadifaaDoor
