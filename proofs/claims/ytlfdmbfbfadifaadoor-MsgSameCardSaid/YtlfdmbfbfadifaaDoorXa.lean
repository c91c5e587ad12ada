/-
  Walks: small, its loop; small.
-/
import Derived.Test.YtlfdmbfbfadifaaDoorWx
namespace Go.Proofs.YtlfdmbfbfadifaaDoor
open Go.RowKit

set_option maxRecDepth 100000 in
set_option maxHeartbeats 6400000 in
theorem small_t (w : World) (ca : Array Value) (p1 : Option Addr) (nl c1 : Nat) (x10 : ca[10]? = some (.slice p1 nl c1)) (p2 : Option Addr) (ql c2 : Nat) (x11 : ca[11]? = some (.slice p2 ql c2)) (s7 : ByteArray) (x7 : ca[7]? = some (.string s7)) (s8 : ByteArray) (x8 : ca[8]? = some (.string s8)) (s9 : ByteArray) (x9 : ca[9]? = some (.string s9)) (s18 : ByteArray) (x18 : ca[18]? = some (.string s18)) (s38 : ByteArray) (x38 : ca[38]? = some (.string s38)) (s21 : ByteArray) (x21 : ca[21]? = some (.string s21)) (s31 s32 : ByteArray) (x31 : ca[31]? = some (.string s31)) (x32 : ca[32]? = some (.string s32)) (s33 s34 : ByteArray) (x33 : ca[33]? = some (.string s33)) (x34 : ca[34]? = some (.string s34)) (d0 : decide ((100 : Int) < (nl : Int)) = false) (d1 : decide ((100 : Int) < (ql : Int)) = false) (d2 : decide ((5000 : Int) < (s7.size : Int)) = false) (d3 : decide ((5000 : Int) < (s8.size : Int)) = false) (d4 : decide ((5000 : Int) < (s9.size : Int)) = false) (d5 : decide ((5000 : Int) < (s18.size : Int)) = false) (d6 : decide ((5000 : Int) < (s38.size : Int)) = false) (d7 : decide ((20000 : Int) < (s21.size : Int)) = false) (d8 : decide ((5000 : Int) < wrap64 ((s31.size : Int) + (s32.size : Int))) = false) (d9 : decide ((5000 : Int) < wrap64 ((s33.size : Int) + (s34.size : Int))) = false)
    (hnl : nl ≤ 9223372036854775807) (hel : ∀ k, k < nl → ∃ b o s, p1 = some ⟨b, o, none⟩ ∧ (nl : Int) ≤ (c1 : Int) ∧ (w.alloc (.cells ca 35)).cell? ⟨w.heap.size, 10, none⟩ = some (.slice p1 nl c1) ∧ (w.alloc (.cells ca 35)).cell? ⟨b, o + k, none⟩ = some (.string s)) :
    Calls Tryd.prog 20 #[.agg ca] w fun e w' => SomeB e ∧ Below w.heap.size w w' := by
  have hB : Hid (Below w.heap.size w (w.alloc (.cells ca 35))) := (Below.refl _ w).alloc (Nat.le_refl _) _
  have HE := Lib.hid hel
  clear hel
  go_enter Tryd.func20, Tryd.ntmps20
  go_wp2
  clear x11 x7 x8 x9 x18 x38 x21 x31 x32 x33 x34 d0 d1 d2 d3 d4 d5 d6 d7 d8 d9
  obtain ⟨W, hW⟩ : ∃ W, w.alloc (.cells ca 35) = W := ⟨_, rfl⟩
  rw [hW] at HE hB ⊢
  clear hW
  go_loop [77] (fun vi => ∃ k : Nat, vi = .int .i64 (k : Int) ∧ k ≤ nl) (fun vi => nl - (intOf vi).toNat)
  case atStart => exact ⟨0, rfl, by omega⟩
  case round =>
    obtain ⟨k, rfl, hk⟩ := hrel
    by_cases hlt : k < nl
    · obtain ⟨b, o, s, rfl, hcl, hc, hs⟩ := HE.out k hlt
      have k0 : (0 : Int) ≤ (k : Int) := by omega
      have k1 : (k : Int) < (nl : Int) := by omega
      cases hd : decide ((5000 : Int) < (s.size : Int))
      · go_wp2
        exact ⟨⟨k + 1, by go_num, by omega⟩, by simp [intOf]; omega⟩
      · go_wp2
        go_ret
        exact ⟨⟨_, rfl⟩, hB.out⟩
    · obtain rfl : k = nl := by omega
      go_wp2
      go_ret
      exact ⟨⟨_, rfl⟩, hB.out⟩

theorem small_any (m : MM) (w : World) (hr : RowM w m) :
    Calls Tryd.prog 20 #[msgV m] w fun e w' => SomeB e ∧ Below w.heap.size w w' := by
  have hB : Below w.heap.size w (w.alloc (.cells (cellsB m) 35)) := (Below.refl _ w).alloc (Nat.le_refl _) _
  obtain ⟨p1, c1, e1, l1, m1, -⟩ := id hr.1
  obtain ⟨p2, c2, e2, l2, m2, -⟩ := id hr.2
  have hS := hr.1.below hB
  have hc : (w.alloc (.cells (cellsB m) 35)).cell? ⟨w.heap.size, 10, none⟩ = some (.slice p1 m.nl.length c1) := ((BlkM.new w m).cell 10).trans (congrArg some e1)
  rw [e1] at hS
  have hel : ∀ k, k < m.nl.length → ∃ b o s, p1 = some ⟨b, o, none⟩ ∧ (m.nl.length : Int) ≤ (c1 : Int) ∧ (w.alloc (.cells (cellsB m) 35)).cell? ⟨w.heap.size, 10, none⟩ = some (.slice p1 m.nl.length c1) ∧ (w.alloc (.cells (cellsB m) 35)).cell? ⟨b, o + k, none⟩ = some (.string s) := fun k hk => by
    obtain ⟨b, o, cap, hv, hb, hcl, hs⟩ := hS.at_ (Below.refl _ _) hk
    obtain ⟨rfl, rfl⟩ : p1 = some ⟨b, o, none⟩ ∧ c1 = cap := by injection hv with a1 a2 a3; exact ⟨a1, a3⟩
    exact ⟨b, o, _, rfl, hcl, hc, hs⟩
  have hnl : m.nl.length ≤ 9223372036854775807 := by unfold maxLen at m1; omega
  have x10 : (cellsB m)[10]? = some (.slice p1 m.nl.length c1) := congrArg some e1
  have x11 : (cellsB m)[11]? = some (.slice p2 m.ql.length c2) := congrArg some e2
  have x7 : (cellsB m)[7]? = some (.string (mk m.ve)) := rfl
  have x8 : (cellsB m)[8]? = some (.string (mk m.us)) := rfl
  have x9 : (cellsB m)[9]? = some (.string (mk m.ac)) := rfl
  have x18 : (cellsB m)[18]? = some (.string (mk m.na)) := rfl
  have x38 : (cellsB m)[38]? = some (.string (mk m.se)) := rfl
  have x21 : (cellsB m)[21]? = some (.string (mk m.da)) := rfl
  have x31 : (cellsB m)[31]? = some (.string (mk m.st.nm)) := rfl
  have x32 : (cellsB m)[32]? = some (.string (mk m.st.ui)) := rfl
  have x33 : (cellsB m)[33]? = some (.string (mk m.st.gi)) := rfl
  have x34 : (cellsB m)[34]? = some (.string (mk m.st.mu)) := rfl
  unfold msgV
  clear hS e1 e2 hr hc l1 l2 m1 m2 hB
  generalize mk m.ve = s7 at *
  generalize mk m.us = s8 at *
  generalize mk m.ac = s9 at *
  generalize mk m.na = s18 at *
  generalize mk m.se = s38 at *
  generalize mk m.da = s21 at *
  generalize mk m.st.nm = s31 at *
  generalize mk m.st.ui = s32 at *
  generalize mk m.st.gi = s33 at *
  generalize mk m.st.mu = s34 at *
  generalize cellsB m = ca at *
  generalize m.ql.length = ql at *
  generalize m.nl.length = nl at *
  cases d0 : decide ((100 : Int) < (nl : Int))
  case true => exact small_0 w ca p1 nl c1 x10 d0
  cases d1 : decide ((100 : Int) < (ql : Int))
  case true => exact small_1 w ca p1 nl c1 x10 p2 ql c2 x11 d0 d1
  cases d2 : decide ((5000 : Int) < (s7.size : Int))
  case true => exact small_2 w ca p1 nl c1 x10 p2 ql c2 x11 s7 x7 d0 d1 d2
  cases d3 : decide ((5000 : Int) < (s8.size : Int))
  case true => exact small_3 w ca p1 nl c1 x10 p2 ql c2 x11 s7 x7 s8 x8 d0 d1 d2 d3
  cases d4 : decide ((5000 : Int) < (s9.size : Int))
  case true => exact small_4 w ca p1 nl c1 x10 p2 ql c2 x11 s7 x7 s8 x8 s9 x9 d0 d1 d2 d3 d4
  cases d5 : decide ((5000 : Int) < (s18.size : Int))
  case true => exact small_5 w ca p1 nl c1 x10 p2 ql c2 x11 s7 x7 s8 x8 s9 x9 s18 x18 d0 d1 d2 d3 d4 d5
  cases d6 : decide ((5000 : Int) < (s38.size : Int))
  case true => exact small_6 w ca p1 nl c1 x10 p2 ql c2 x11 s7 x7 s8 x8 s9 x9 s18 x18 s38 x38 d0 d1 d2 d3 d4 d5 d6
  cases d7 : decide ((20000 : Int) < (s21.size : Int))
  case true => exact small_7 w ca p1 nl c1 x10 p2 ql c2 x11 s7 x7 s8 x8 s9 x9 s18 x18 s38 x38 s21 x21 d0 d1 d2 d3 d4 d5 d6 d7
  cases d8 : decide ((5000 : Int) < wrap64 ((s31.size : Int) + (s32.size : Int)))
  case true => exact small_8 w ca p1 nl c1 x10 p2 ql c2 x11 s7 x7 s8 x8 s9 x9 s18 x18 s38 x38 s21 x21 s31 s32 x31 x32 d0 d1 d2 d3 d4 d5 d6 d7 d8
  cases d9 : decide ((5000 : Int) < wrap64 ((s33.size : Int) + (s34.size : Int)))
  case true => exact small_9 w ca p1 nl c1 x10 p2 ql c2 x11 s7 x7 s8 x8 s9 x9 s18 x18 s38 x38 s21 x21 s31 s32 x31 x32 s33 s34 x33 x34 d0 d1 d2 d3 d4 d5 d6 d7 d8 d9
  exact small_t w ca p1 nl c1 x10 p2 ql c2 x11 s7 x7 s8 x8 s9 x9 s18 x18 s38 x38 s21 x21 s31 s32 x31 x32 s33 s34 x33 x34 d0 d1 d2 d3 d4 d5 d6 d7 d8 d9 hnl hel
end Go.Proofs.YtlfdmbfbfadifaaDoor
