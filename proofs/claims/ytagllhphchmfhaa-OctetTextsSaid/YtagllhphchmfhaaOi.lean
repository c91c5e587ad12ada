/-
  The reference's Hex.
-/
import Derived.Test.YtagllhphchmfhaaOh
import Derived.Deep.QuietTactic
import Derived.BigQuiet
namespace Go.Proofs.Ytagllhphchmfhaa
open Go.RowKit

theorem below_dn (w : World) (n : Nat) : Below w.heap.size w (w.drewN n) := ⟨rfl, rfl, rfl, Nat.le_refl _, fun _ _ => rfl⟩
theorem ex_dig (d : Nat) (hd : d < 16) : digS.extract d (d + 1) = ⟨[dch d].toArray⟩ := by
  have : ∀ d : Fin 16, (digS.extract d.val (d.val + 1)) = ⟨[dch d.val].toArray⟩ := by decide
  exact this ⟨d, hd⟩
theorem app_lists (a b : List UInt8) : (⟨a.toArray⟩ : ByteArray) ++ ⟨b.toArray⟩ = ⟨(a ++ b).toArray⟩ := by
  apply ByteArray.ext
  simp [ByteArray.data_append]

set_option maxRecDepth 100000 in
set_option maxHeartbeats 800000 in
theorem RHex_any (s : ByteArray) (hs : s.size ≤ 100000000) (w : World) :
    Calls Try.prog 20 #[.string s] w fun e w' => e = .returned (.string ⟨(hexL s.data.toList).toArray⟩) ∧ Below w.heap.size w w' := by
  have hlen : s.data.toList.length = s.size := Array.length_toList
  have HL := Lib.hid hlen
  clear hlen
  go_enter Try.func20, Try.ntmps20
  go_wp2
  go_loopw [3, 4] (fun vt vj wr => ∃ (j : Nat) (l : List UInt8), vj = .int .i64 (j : Int) ∧ vt = .string ⟨l.toArray⟩ ∧ j ≤ s.size ∧ l.length = 2 * j ∧ Hid (l = hexL (s.data.toList.take j)) ∧ (∃ n, wr = w.drewN n)) (fun _ vj _ => s.size - (intOf vj).toNat)
  case atStart => exact ⟨0, [], rfl, rfl, by omega, rfl, rfl, 0, by rw [World.drewN_zero]⟩
  case round =>
    obtain ⟨j, l, rfl, rfl, hj, hl, hle, n, rfl⟩ := hrel
    by_cases hjs : j < s.size
    · have g0 := s[j].toNat_lt
      generalize hc : s[j] = c at g0
      have HC := Lib.hid hc
      have g1 : 0 ≤ (c.toNat : Int) / 16 ∧ (c.toNat : Int) / 16 < 16 := by omega
      have g2 : 0 ≤ (c.toNat : Int) % 16 ∧ (c.toNat : Int) % 16 < 16 := by omega
      go_wp2
      go_quiet (fail)
      have e : (⟨l.toArray⟩ : ByteArray) ++ digS.extract (c.toNat / 16) (c.toNat / 16 + 1) ++ digS.extract (c.toNat % 16) (c.toNat % 16 + 1) = ⟨(l ++ [dch (c.toNat / 16), dch (c.toNat % 16)]).toArray⟩ := by
        rw [ex_dig _ (by omega), ex_dig _ (by omega), app_lists, app_lists]; simp
      unfold digS at e
      rw [e]
      clear e
      go_wp2
      refine ⟨⟨j + 1, _, by go_num, rfl, by omega, by simp; omega, ?_, n + nq, by first | rfl | rw [World.drewN_drewN]⟩, by simp [intOf]; omega⟩
      show _ = _
      rw [take_get s j hjs, HC.out, hexL_snoc, hle.out]
    · obtain rfl : j = s.size := by omega
      have h := hle.out
      rw [List.take_of_length_le (by rw [HL.out]; exact Nat.le_refl _)] at h
      go_wp2
      go_ret
      rw [h]
      exact ⟨rfl, below_dn _ _⟩
end Go.Proofs.Ytagllhphchmfhaa
