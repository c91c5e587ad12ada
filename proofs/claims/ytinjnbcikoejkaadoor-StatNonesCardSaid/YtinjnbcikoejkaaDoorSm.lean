/-
  Walks: getNumber and decode.
-/
import Derived.Test.YtinjnbcikoejkaaDoorSg
namespace Go.Proofs.YtinjnbcikoejkaaDoor
open Go.RowKit

theorem ff_cut {n : Nat} (h : n ≤ 8) : ((⟨#[255, 255, 255, 255, 255, 255, 255, 255]⟩ : ByteArray).extract 0 n).toList = List.replicate n 255 := by
  have h : n = 0 ∨ n = 1 ∨ n = 2 ∨ n = 3 ∨ n = 4 ∨ n = 5 ∨ n = 6 ∨ n = 7 ∨ n = 8 := by omega
  rw [Lib.toList_data]
  rcases h with rfl | rfl | rfl | rfl | rfl | rfl | rfl | rfl | rfl <;> rfl
theorem getR_all {l : List UInt8} (h1 : 1 ≤ l.length) (h8 : l.length ≤ 8) : getR l 0 (l.length : Int) = if 9223372036854775808 ≤ val l then (0, 0, 5) else (((val l : Nat) : Int), (l.length : Int), 0) := by
  rw [getR, if_neg (by omega), if_neg (by omega)]
  simp

set_option maxHeartbeats 1600000 in
theorem getNumber_any (l : List UInt8) (h1 : 1 ≤ l.length) (h8 : l.length ≤ 8) (w : World) :
    Calls Tryd.prog 47 #[.string (mk l)] w fun e w' => e = .returned (.int .i64 (numP l)) ∧ w = w' := by
  have hs := mk_size l
  have hG := Lib.hid (fun W => GetM l 0 (l.length : Int) (by unfold maxLen; omega) W)
  rw [getR_all h1 h8, ← hs] at hG
  have hq : ((mk l).toList == ((⟨#[255, 255, 255, 255, 255, 255, 255, 255]⟩ : ByteArray).extract 0 (mk l).size).toList) = decide (l = List.replicate l.length 255) := by
    rw [hs, ff_cut h8, mk_toList]; rw [Bool.eq_iff_iff]; simp
  have hn : numP l = if decide (l = List.replicate l.length 255) then -1 else if 9223372036854775808 ≤ val l then -2 else ((val l : Nat) : Int) := by unfold numP; simp
  generalize numP l = r at hn ⊢
  generalize decide (l = List.replicate l.length 255) = b at hq hn
  rw [← hs] at h1 h8
  clear hs
  cases b
  · by_cases hv : 9223372036854775808 ≤ val l
    · rw [if_pos hv] at hG hn
      have hr : Hid (r = -2) := hn
      clear hn hv
      go_enter Tryd.func47, Tryd.ntmps47
      go_wp2_with fail
      refine (hG.out _).mono ?_
      rintro e w1 ⟨rfl, rfl⟩
      go_wp2
      go_ret
      rw [hr.out]
      exact ⟨rfl, rfl⟩
    · rw [if_neg hv] at hG hn
      have hr : Hid (r = ((val l : Nat) : Int)) := hn
      clear hn hv
      go_enter Tryd.func47, Tryd.ntmps47
      go_wp2_with fail
      refine (hG.out _).mono ?_
      rintro e w1 ⟨rfl, rfl⟩
      go_wp2
      go_ret
      rw [hr.out]
      exact ⟨rfl, rfl⟩
  · have hr : Hid (r = -1) := hn
    clear hn hG
    go_enter Tryd.func47, Tryd.ntmps47
    go_wp2
    go_ret
    rw [hr.out]
    exact ⟨rfl, rfl⟩
end Go.Proofs.YtinjnbcikoejkaaDoor
