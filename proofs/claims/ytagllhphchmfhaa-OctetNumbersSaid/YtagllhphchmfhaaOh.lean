/-
  Hex, package octet's and the reference's.
-/
import Derived.Test.YtagllhphchmfhaaOg
import Derived.Test.YtagllhphchmfhaaL
namespace Go.Proofs.Ytagllhphchmfhaa
open Go.RowKit

theorem take_get (s : ByteArray) (k : Nat) (h : k < s.size) : s.data.toList.take (k + 1) = s.data.toList.take k ++ [s[k]] := by
  rw [List.take_succ_eq_append_getElem (by simpa using h)]; rfl

theorem and15 (c : UInt8) : bits .and .u8 (c.toNat : Int) 15 = (c.toNat : Int) % 16 := by
  have h := u8_and_nat c.toNat 15 c.toNat_lt (by decide)
  rw [show ((15 : Nat) : Int) = 15 from rfl] at h
  rw [h, show (15 : Nat) = 2 ^ 4 - 1 from rfl, Nat.and_two_pow_sub_one_eq_mod]
  omega

set_option maxRecDepth 100000 in
set_option maxHeartbeats 800000 in
theorem Hex_any (s : ByteArray) (hs : s.size ≤ 100000000) (w : World) :
    Calls Try.prog 19 #[.string s] w fun e w' => e = .returned (.string ⟨(hexL s.data.toList).toArray⟩) ∧ Below w.heap.size w w' := by
  have hlen : s.data.toList.length = s.size := Array.length_toList
  have HL := Lib.hid hlen
  clear hlen
  obtain ⟨i0, hi, hz0, hz1, hz2⟩ := info_parts info_u8
  go_enter Try.func19, Try.ntmps19
  go_wp2_with (at_make; refine wpList_make_own _ rfl _ _ 39 rfl w.heap.size 5 i0 (.int .u8 0) 1 Try.underlying39 hi hz0 hz1 _ _ _ (2 * s.size) rfl rfl (by omega) (by rw [hz2]; omega) (by unfold maxLen; omega) (Nat.le_refl _) ?_)
  intro w0 hown hgrow
  have hB := (Below.refl w.heap.size w).grown hgrow (Nat.le_refl _) (fun _ h => by cases h)
  have HO := Lib.hid hown
  have HB := Lib.hid hB
  clear hown hgrow hB
  go_wp2
  go_loopw [3, 11] (fun vt vj wr => ∃ j : Nat, vj = .int .i64 (j : Int) ∧ j ≤ s.size ∧ Hid (wr.ownsRow w.heap.size 5 1 vt (2 * j) (bv (hexL (s.data.toList.take j)))) ∧ Hid (Below w.heap.size w wr)) (fun _ vj _ => s.size - (intOf vj).toNat)
  case atStart => exact ⟨0, rfl, by omega, HO, HB⟩
  case round =>
    obtain ⟨j, rfl, hj, ho, hb⟩ := hrel
    by_cases hjs : j < s.size
    · have g0 := s[j].toNat_lt
      have g3 := and15 s[j]
      have hbs := hb.out.size
      have g1 : 0 ≤ (s[j].toNat : Int) / 16 ∧ (s[j].toNat : Int) / 16 < 16 := by omega
      have g2 : 0 ≤ (s[j].toNat : Int) % 16 ∧ (s[j].toNat : Int) % 16 < 16 := by omega
      have hx1 := at_dig ((s[j].toNat : Int) / 16).toNat (by omega)
      have hx2 := at_dig ((s[j].toNat : Int) % 16).toNat (by omega)
      unfold digS at hx1 hx2
      go_wp2
      go_region_law (refine step_append_own rfl (.tmp 14) (.tmp 25) 39 rfl w.heap.size 5 i0 (.int .u8 0) 1 1 Try.underlying39 hi hz0 hz1 hz2 rfl (by decide) _ _ _ rfl (ho.out.drew.alloc _) ⟨wr.heap.size, 0, none⟩ 2 2 _ rfl rfl (cells_new2 _ _ _ _) (by simp [Value.oneCell']) (by unfold maxLen; omega) (by omega) (by simp; omega) ?_; intro v' w1 hown1 hgrow1)
      all_goals
        have HO1 := Lib.hid hown1
        have HB1 := Lib.hid ((hb.out.drew.alloc hbs _).grown hgrow1 (by simp; omega) (fun k' hk' => (ho.out.lt k' hk').1))
        clear hown1 hgrow1
        go_wp2
        refine ⟨⟨j + 1, by go_num, by omega, ?_, HB1⟩, by simp [intOf]; omega⟩
        have h := HO1.out
        have e : bv (hexL (s.data.toList.take j)) ++ [.int .u8 ((dch ((s[j].toNat : Int) / 16).toNat).toNat : Int), .int .u8 ((dch ((s[j].toNat : Int) % 16).toNat).toNat : Int)] = bv (hexL (s.data.toList.take (j + 1))) := by
          rw [take_get s j hjs, hexL_snoc, show ((s[j].toNat : Int) / 16).toNat = s[j].toNat / 16 by omega, show ((s[j].toNat : Int) % 16).toNat = s[j].toNat % 16 by omega]
          simp [bv, byteV]
        rw [e, show 2 * j + 2 = 2 * (j + 1) by omega] at h
        exact h
    · obtain rfl : j = s.size := by omega
      have hst := string_own (l := hexL s.data.toList) (n := 2 * s.size) (by rw [hexL_len, HL.out]) (by have h := ho.out; rwa [List.take_of_length_le (by rw [HL.out]; exact Nat.le_refl _)] at h)
      go_wp2
      go_ret
      exact ⟨rfl, hb.out⟩
end Go.Proofs.Ytagllhphchmfhaa
