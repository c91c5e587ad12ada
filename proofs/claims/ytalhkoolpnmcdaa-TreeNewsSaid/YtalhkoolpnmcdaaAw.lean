/-
  Walks: resized, overwritten.
-/
import Derived.Test.YtalhkoolpnmcdaaAv
import Derived.Deep.RegionHeld3
import Derived.Deep.CutRange
import Derived.Lib.Repeat
namespace Go.Proofs.Ytalhkoolpnmcdaa
open Go.RowKit

theorem add_mk {a b c : List UInt8} (h : a.length + b.length ≤ 100000000) (e : a ++ b = c) (W : World) : (Op.stringOp .add (mk a) (mk b)).run Try.prog W = .ok (.string (mk c)) W := by
  have h1 := mk_size a
  have h2 := mk_size b
  exact (run_string_add_sum W (mk a) (mk b) (by omega)).trans (by rw [mk_app, e])
theorem repeat_zero (n : Nat) : Lib.repeatL [0] n = zerosL n := by
  have := Lib.repeatL_replicate 0 1 n
  simpa [zerosL] using this
set_option maxHeartbeats 1600000 in
theorem resized_any (old : List UInt8) (n : Nat) (ho : old.length ≤ 100000) (hn : n ≤ 200000) (w : World) :
    Calls Try.prog 91 #[.string (mk old), .int .i64 (n : Int)] w fun e w' => e = .returned (.string (mk (resL old n))) ∧ Below w.heap.size w w' := by
  have hs := mk_size old
  have hsz : (mk old).size ≤ 100000 := by omega
  by_cases h : n ≤ (mk old).size
  · have hx : Hid ((mk old).extract 0 n = mk (resL old n)) := by
      show _ = _
      rw [mk_extract, List.drop_zero, Nat.sub_zero]
      unfold resL
      rw [show n - old.length = 0 by omega]
      simp [zerosL]
    clear hs ho
    go_enter Try.func91, Try.ntmps91
    go_wp2
    go_ret
    rw [← hx.out]
    exact ⟨rfl, Below.refl _ _⟩
  · have hR := Try.strings_Repeat ⟨#[0]⟩ (n - (mk old).size) w (by omega) (by show 1 * _ ≤ _; omega)
    rw [show Lib.repeatL (⟨#[0]⟩ : ByteArray).data.toList (n - (mk old).size) = zerosL (n - (mk old).size) from repeat_zero _] at hR
    rw [show ByteArray.mk (zerosL (n - (mk old).size)).toArray = mk (zerosL (n - (mk old).size)) from rfl] at hR
    have hcast : (((n - (mk old).size : Nat)) : Int) = (n : Int) - ((mk old).size : Int) := by omega
    rw [hcast] at hR
    have hadd : ∀ W, (Op.stringOp .add (mk old) (mk (zerosL (n - (mk old).size)))).run Try.prog W = .ok (.string (mk (resL old n))) W := add_mk (by rw [zerosL_len]; omega) (by unfold resL; rw [List.take_of_length_le (by omega), hs])
    replace hR := Lib.hid hR
    have hz : (mk (zerosL (n - (mk old).size))).size ≤ 200000 := by rw [mk_size, zerosL_len]; omega
    generalize zerosL (n - (mk old).size) = z at *
    clear hs ho hcast
    go_enter Try.func91, Try.ntmps91
    go_wp2_with fail
    refine hR.out.mono ?_
    rintro e w' ⟨rfl, hB⟩
    have HB := Lib.hid hB
    clear hB
    go_wp2
    go_ret
    exact ⟨rfl, HB.out⟩

theorem below_of_drew {w w1 : World} (h : Below w.drew.heap.size w.drew w1) : Below w.heap.size w w1 := (below_drew (Below.refl w.heap.size w)).trans h
set_option maxHeartbeats 3200000 in
theorem overwritten_any (old s : List UInt8) (p : Nat) (ho : old.length ≤ 100000) (hs : s.length ≤ 100000) (hp : p ≤ 100000) (w : World) :
    Calls Try.prog 68 #[.string (mk old), .int .i64 (p : Int), .string (mk s)] w fun e w' => e = .returned (.string (mk (overL old p s))) ∧ Below w.heap.size w w' := by
  have h1 := mk_size old
  have h2 := mk_size s
  have hR := Lib.hid (fun W => resized_any old p ho (by omega) W)
  have hlen := resL_len old p
  have hm : ∃ k : Nat, min ((p : Int) + ((mk s).size : Int)) ((mk old).size : Int) = (k : Int) ∧ k ≤ (mk old).size ∧ (mk old).extract k (mk old).size = mk (old.drop (p + s.length)) := by
    by_cases hle : p + s.length ≤ old.length
    · refine ⟨p + s.length, by omega, by omega, ?_⟩
      rw [mk_extract, List.take_of_length_le (by simp; omega)]
    · refine ⟨old.length, by omega, by omega, ?_⟩
      rw [mk_extract, List.drop_eq_nil_of_le (Nat.le_refl _), List.drop_eq_nil_of_le (by omega), List.take_nil]
  obtain ⟨k, hk1, hk2, hk3⟩ := hm
  have hadd1 : ∀ W, (Op.stringOp .add (mk (resL old p)) (mk s)).run Try.prog W = .ok (.string (mk (resL old p ++ s))) W := add_mk (by omega) rfl
  have hadd2 : ∀ W, (Op.stringOp .add (mk (resL old p ++ s)) (mk (old.drop (p + s.length)))).run Try.prog W = .ok (.string (mk (overL old p s))) W := add_mk (by rw [List.length_append, List.length_drop]; omega) rfl
  rw [← hk3] at hadd2
  generalize overL old p s = r at *
  generalize resL old p ++ s = q at *
  generalize resL old p = q0 at *
  have b1 : (mk old).size ≤ 100000 := by omega
  have b2 : (mk s).size ≤ 100000 := by omega
  have k0 : (0 : Int) ≤ (k : Int) := by omega
  have k1 : (k : Int) ≤ ((mk old).size : Int) := by omega
  clear h1 h2 ho hs hlen hk3
  go_enter Try.func68, Try.ntmps68
  go_wp2
  go_region_held3 (fun W => Below w.heap.size w W) (first | exact (below_drew (Below.refl _ _)) | exact HB1.out) ((go_at_call 91; refine (hR.out _).mono ?_; rintro e W1 ⟨rfl, hB1⟩; have HB1 := Lib.hid (below_of_drew hB1); clear hB1))
  all_goals (go_wp2; go_ret; exact ⟨rfl, HB1.out⟩)
end Go.Proofs.Ytalhkoolpnmcdaa
