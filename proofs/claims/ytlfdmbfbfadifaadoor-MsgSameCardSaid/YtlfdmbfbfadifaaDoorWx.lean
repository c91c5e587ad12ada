/-
  Walks: small, the answers at its last tests.
-/
import Derived.Test.YtlfdmbfbfadifaaDoorWw
namespace Go.Proofs.YtlfdmbfbfadifaaDoor
open Go.RowKit

set_option maxRecDepth 100000 in
set_option maxHeartbeats 3200000 in
theorem small_8 (w : World) (ca : Array Value) (p1 : Option Addr) (nl c1 : Nat) (x10 : ca[10]? = some (.slice p1 nl c1)) (p2 : Option Addr) (ql c2 : Nat) (x11 : ca[11]? = some (.slice p2 ql c2)) (s7 : ByteArray) (x7 : ca[7]? = some (.string s7)) (s8 : ByteArray) (x8 : ca[8]? = some (.string s8)) (s9 : ByteArray) (x9 : ca[9]? = some (.string s9)) (s18 : ByteArray) (x18 : ca[18]? = some (.string s18)) (s38 : ByteArray) (x38 : ca[38]? = some (.string s38)) (s21 : ByteArray) (x21 : ca[21]? = some (.string s21)) (s31 s32 : ByteArray) (x31 : ca[31]? = some (.string s31)) (x32 : ca[32]? = some (.string s32)) (d0 : decide ((100 : Int) < (nl : Int)) = false) (d1 : decide ((100 : Int) < (ql : Int)) = false) (d2 : decide ((5000 : Int) < (s7.size : Int)) = false) (d3 : decide ((5000 : Int) < (s8.size : Int)) = false) (d4 : decide ((5000 : Int) < (s9.size : Int)) = false) (d5 : decide ((5000 : Int) < (s18.size : Int)) = false) (d6 : decide ((5000 : Int) < (s38.size : Int)) = false) (d7 : decide ((20000 : Int) < (s21.size : Int)) = false) (d8 : decide ((5000 : Int) < wrap64 ((s31.size : Int) + (s32.size : Int))) = true) :
    Calls Tryd.prog 20 #[.agg ca] w fun e w' => SomeB e ∧ Below w.heap.size w w' := by
  have hB : Hid (Below w.heap.size w (w.alloc (.cells ca 35))) := (Below.refl _ w).alloc (Nat.le_refl _) _
  go_enter Tryd.func20, Tryd.ntmps20
  go_wp2
  go_ret
  exact ⟨⟨_, rfl⟩, hB.out⟩

set_option maxRecDepth 100000 in
set_option maxHeartbeats 3200000 in
theorem small_9 (w : World) (ca : Array Value) (p1 : Option Addr) (nl c1 : Nat) (x10 : ca[10]? = some (.slice p1 nl c1)) (p2 : Option Addr) (ql c2 : Nat) (x11 : ca[11]? = some (.slice p2 ql c2)) (s7 : ByteArray) (x7 : ca[7]? = some (.string s7)) (s8 : ByteArray) (x8 : ca[8]? = some (.string s8)) (s9 : ByteArray) (x9 : ca[9]? = some (.string s9)) (s18 : ByteArray) (x18 : ca[18]? = some (.string s18)) (s38 : ByteArray) (x38 : ca[38]? = some (.string s38)) (s21 : ByteArray) (x21 : ca[21]? = some (.string s21)) (s31 s32 : ByteArray) (x31 : ca[31]? = some (.string s31)) (x32 : ca[32]? = some (.string s32)) (s33 s34 : ByteArray) (x33 : ca[33]? = some (.string s33)) (x34 : ca[34]? = some (.string s34)) (d0 : decide ((100 : Int) < (nl : Int)) = false) (d1 : decide ((100 : Int) < (ql : Int)) = false) (d2 : decide ((5000 : Int) < (s7.size : Int)) = false) (d3 : decide ((5000 : Int) < (s8.size : Int)) = false) (d4 : decide ((5000 : Int) < (s9.size : Int)) = false) (d5 : decide ((5000 : Int) < (s18.size : Int)) = false) (d6 : decide ((5000 : Int) < (s38.size : Int)) = false) (d7 : decide ((20000 : Int) < (s21.size : Int)) = false) (d8 : decide ((5000 : Int) < wrap64 ((s31.size : Int) + (s32.size : Int))) = false) (d9 : decide ((5000 : Int) < wrap64 ((s33.size : Int) + (s34.size : Int))) = true) :
    Calls Tryd.prog 20 #[.agg ca] w fun e w' => SomeB e ∧ Below w.heap.size w w' := by
  have hB : Hid (Below w.heap.size w (w.alloc (.cells ca 35))) := (Below.refl _ w).alloc (Nat.le_refl _) _
  go_enter Tryd.func20, Tryd.ntmps20
  go_wp2
  go_ret
  exact ⟨⟨_, rfl⟩, hB.out⟩

end Go.Proofs.YtlfdmbfbfadifaaDoor
