/-
  The reference's little, counted and Put.
-/
import Derived.Test.YtinjnbcikoejkaaDoorSf
import Derived.Deep.RegionHeld3
namespace Go.Proofs.YtinjnbcikoejkaaDoor
open Go.RowKit

theorem shrZ (n : Int) (j : Nat) : n / 2 ^ (8 * j) = n / ((256 ^ j : Nat) : Int) := by
  congr 1
  rw [show (256 : Nat) = 2 ^ 8 from rfl, ← Nat.pow_mul]; simp
theorem byteZ (x : Int) : x % 256 = ((UInt8.ofNat (x % 256).toNat).toNat : Int) := by
  simp; omega

set_option maxRecDepth 100000 in
set_option maxHeartbeats 800000 in
theorem little_any (n : Int) (hn : inI n) (k : Nat) (hk8 : k ≤ 8) (w : World) :
    Calls Tryd.prog 34 #[.int .i64 n, .int .i64 (k : Int)] w fun e w' => e = .returned (.string (mk (leZ k n))) ∧ Below w.heap.size w w' := by
  obtain ⟨hn1, hn2⟩ := hn
  go_enter Tryd.func34, Tryd.ntmps34
  go_wp2
  go_loopw [5, 6] (fun vs vj wr => ∃ (j : Nat) (l : List UInt8), vj = .int .i64 (j : Int) ∧ vs = .string (mk l) ∧ j ≤ k ∧ (mk l).size ≤ 8 ∧ Hid (l = leZ j n) ∧ Hid (Below w.heap.size w wr)) (fun _ vj _ => k - (intOf vj).toNat)
  case atStart => exact ⟨0, [], rfl, rfl, by omega, by simp [mk_size], (rfl : [] = leZ 0 n), Below.refl _ _⟩
  case round =>
    obtain ⟨j, l, rfl, rfl, hj, hl8, hl, hb⟩ := hrel
    by_cases hjk : j < k
    · have h1 := string_one wr (UInt8.ofNat (n / 2 ^ (8 * j) % 256).toNat) (n / 2 ^ (8 * j) % 256) (byteZ _)
      go_wp2
      refine ⟨⟨j + 1, l ++ [UInt8.ofNat (n / 2 ^ (8 * j) % 256).toNat], by go_num, ?_, by omega, ?_, ?_, hb.out.alloc hb.out.size _⟩, by simp [intOf]; omega⟩
      · exact congrArg Value.string (mk_app l [UInt8.ofNat (n / 2 ^ (8 * j) % 256).toNat])
      · have h := hl.out; subst h; rw [mk_size]; simp [leZ_len]; omega
      · rw [Hid, leZ_snoc, hl.out, shrZ]
    · obtain rfl : j = k := by omega
      go_wp2
      go_ret
      rw [hl.out]
      exact ⟨rfl, hb.out⟩

theorem leZ_2 (l : List UInt8) : leZ 2 (l.length : Int) = le 2 l.length := leZ_nat 2 l.length
set_option maxHeartbeats 800000 in
theorem counted_any (l : List UInt8) (hl : l.length ≤ 9223372036854775805) (w : World) :
    Calls Tryd.prog 35 #[.string (mk l)] w fun e w' => e = .returned (.string (mk (counted l))) ∧ Below w.heap.size w w' := by
  have hs := mk_size l
  have hL := little_any ((mk l).size : Int) ⟨by omega, by omega⟩ 2 (by omega) w
  rw [hs, leZ_2] at hL
  rw [← hs] at hL
  have hz : (mk (le 2 (mk l).size)).size = 2 := by rw [mk_size, le_len]
  have hR : mk (le 2 (mk l).size) ++ mk l = mk (counted l) := by rw [mk_app, hs]; rfl
  replace hL := Lib.hid hL
  replace hR := Lib.hid hR
  rw [← hs] at hl
  clear hs
  generalize mk (counted l) = res at hR ⊢
  generalize mk (le 2 (mk l).size) = a at hL hz hR
  go_enter Tryd.func35, Tryd.ntmps35
  go_wp2_with fail
  refine hL.out.mono ?_
  rintro e w1 ⟨rfl, hB⟩
  replace hB := Lib.hid hB
  go_wp2
  go_ret
  rw [hR.out]
  exact ⟨rfl, hB.out⟩
