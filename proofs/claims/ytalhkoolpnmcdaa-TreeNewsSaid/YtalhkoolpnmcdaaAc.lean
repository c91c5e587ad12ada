/-
  Names: package path's Valid and the reference's.
-/
import Derived.Test.YtalhkoolpnmcdaaProg
import Derived.Test.YtalhkoolpnmcdaaRows
import Derived.Test.YtalhkoolpnmcdaaAb
import Derived.WalkKit
import Derived.WalkSmall
import Derived.Lib.Hide
import Derived.LoopTactic
namespace Go.Proofs.Ytalhkoolpnmcdaa
open Go.RowKit

def mk (l : List UInt8) : ByteArray := ⟨l.toArray⟩
theorem mk_toList (l : List UInt8) : (mk l).toList = l := by rw [Lib.toList_data]; simp [mk]
theorem mk_data (l : List UInt8) : (mk l).data.toList = l := by simp [mk]
theorem mk_of (s : ByteArray) : mk s.data.toList = s := by apply ByteArray.ext; simp [mk]
theorem mk_size (l : List UInt8) : (mk l).size = l.length := by simp [mk, ByteArray.size]
theorem mk_inj {a b : List UInt8} (h : mk a = mk b) : a = b := by rw [← mk_data a, ← mk_data b, h]

theorem isNameByte_any (c : UInt8) (w : World) :
    Calls Try.prog 73 #[.int .u8 (c.toNat : Int)] w fun e w' => e = .returned (.bool (nameB c)) ∧ w = w' := by
  have hc := c.toNat_lt
  by_cases h1 : 33 ≤ c.toNat
  · by_cases h2 : c.toNat ≤ 126
    · have hr : nameB c = ((c.toNat : Int) != 47) := by
        unfold nameB; rw [Bool.eq_iff_iff]; simp; omega
      rw [hr]
      clear hr
      go_enter Try.func73, Try.ntmps73
      go_wp2
      go_ret
      exact ⟨rfl, rfl⟩
    · have hr : nameB c = false := by unfold nameB; simp; omega
      rw [hr]
      clear hr
      go_enter Try.func73, Try.ntmps73
      go_wp2
      go_ret
      exact ⟨rfl, rfl⟩
  · have hr : nameB c = false := by unfold nameB; simp; omega
    rw [hr]
    clear hr
    go_enter Try.func73, Try.ntmps73
    go_wp2
    go_ret
    exact ⟨rfl, rfl⟩

theorem validL_bad {s : ByteArray} (h : s.toList = [] ∨ 64 < s.size ∨ s.toList = [46] ∨ s.toList = [46, 46]) : validL s.data.toList = false := by
  rw [Lib.toList_data] at h
  have hl : s.data.toList.length = s.size := Array.length_toList
  unfold validL
  rw [Bool.and_eq_false_iff]
  left
  rw [decide_eq_false_iff_not]
  rintro ⟨a, b, c, d⟩
  rcases h with h | h | h | h
  · exact a h
  · omega
  · exact c h
  · exact d h
theorem validL_good {s : ByteArray} (h1 : s.toList ≠ []) (h2 : s.size ≤ 64) (h3 : s.toList ≠ [46]) (h4 : s.toList ≠ [46, 46]) : validL s.data.toList = s.data.toList.all nameB := by
  rw [Lib.toList_data] at h1 h3 h4
  have hl : s.data.toList.length = s.size := Array.length_toList
  unfold validL
  rw [decide_eq_true ⟨h1, by omega, h3, h4⟩, Bool.true_and]
theorem take_all (s : ByteArray) (k : Nat) (h : k < s.size) (ha : (s.data.toList.take k).all nameB = true) (hb : nameB s[k] = true) : (s.data.toList.take (k + 1)).all nameB = true := by
  have hl : s.data.toList.length = s.size := Array.length_toList
  rw [List.take_succ_eq_append_getElem (by omega), List.all_append, ha]
  simp
  exact hb
theorem take_none (s : ByteArray) (k : Nat) (h : k < s.size) (hb : nameB s[k] = false) : s.data.toList.all nameB = false := by
  have hl : s.data.toList.length = s.size := Array.length_toList
  rw [List.all_eq_false]
  refine ⟨s[k], ?_, by simp [hb]⟩
  rw [show s[k] = s.data.toList[k]'(by omega) from by simp [Array.getElem_toList]; rfl]
  exact List.getElem_mem _

set_option maxHeartbeats 800000 in
theorem Valid_any (s : ByteArray) (hs : s.size ≤ 100000) (w : World) :
    Calls Try.prog 39 #[.string s] w fun e w' => e = .returned (.bool (validL s.data.toList)) ∧ w = w' := by
  have hl : s.data.toList.length = s.size := Array.length_toList
  have HL := Lib.hid hl
  clear hl
  by_cases hbad : s.toList = [] ∨ 64 < s.size ∨ s.toList = [46] ∨ s.toList = [46, 46]
  · have HR := Lib.hid (validL_bad hbad)
    rw [HR.out]
    rcases hbad with h | h | h | h
    · have g2 : (s.toList == [46]) = false := by rw [h]; decide
      go_enter Try.func39, Try.ntmps39
      go_wp2
      go_ret
      exact ⟨rfl, rfl⟩
    · have g1 : s.toList ≠ [] := by
        intro e; rw [Lib.toList_data] at e; have := HL.out; rw [e] at this; simp at this; omega
      go_enter Try.func39, Try.ntmps39
      go_wp2
      go_ret
      exact ⟨rfl, rfl⟩
    · have g1 : s.toList ≠ [] := by rw [h]; simp
      have g3 : s.size ≤ 64 := by have := HL.out; rw [← Lib.toList_data, h] at this; simp at this; omega
      go_enter Try.func39, Try.ntmps39
      go_wp2
      go_ret
      exact ⟨rfl, rfl⟩
    · have g1 : s.toList ≠ [] := by rw [h]; simp
      have g2 : (s.toList == [46]) = false := by rw [h]; decide
      have g3 : s.size ≤ 64 := by have := HL.out; rw [← Lib.toList_data, h] at this; simp at this; omega
      have g4 : (s.toList == [46, 46]) = true := by rw [h]; decide
      go_enter Try.func39, Try.ntmps39
      go_wp2
      go_ret
      exact ⟨rfl, rfl⟩
  · simp only [not_or] at hbad
    obtain ⟨h1, h2, h3, h4⟩ := hbad
    have hr := validL_good h1 (by omega) h3 h4
    generalize validL s.data.toList = r at hr ⊢
    have HR := Lib.hid hr
    clear hr
    have g0 : s.toList.isEmpty = false := by simp [h1]
    have g2 : (s.toList == [46]) = false := by simpa using h3
    have g4 : (s.toList == [46, 46]) = false := by simpa using h4
    have g3 : s.size ≤ 64 := by omega
    go_enter Try.func39, Try.ntmps39
    go_wp2
    go_loop [21] (fun vi => ∃ k : Nat, vi = .int .i64 (k : Int) ∧ k ≤ s.size ∧ Hid ((s.data.toList.take k).all nameB = true)) (fun vi => s.size - (intOf vi).toNat)
    case atStart => exact ⟨0, rfl, by omega, by simp [Hid]⟩
    case round =>
      obtain ⟨k, rfl, hk, ha⟩ := hrel
      by_cases hlt : k < s.size
      · have N := isNameByte_any s[k] w
        by_cases hb : nameB s[k] = true
        · rw [hb] at N
          have HN := Lib.hid N
          have HA := Lib.hid (take_all s k hlt ha.out hb)
          clear N hb
          go_wp2_with (go_at_call 73; refine HN.out.mono ?_; rintro e w' ⟨rfl, rfl⟩)
          exact ⟨⟨k + 1, by go_num, by omega, HA⟩, by simp [intOf]; omega⟩
        · have hb : nameB s[k] = false := by simpa using hb
          rw [hb] at N
          have HN := Lib.hid N
          have HA := Lib.hid (take_none s k hlt hb)
          clear N hb
          go_wp2_with (go_at_call 73; refine HN.out.mono ?_; rintro e w' ⟨rfl, rfl⟩)
          go_ret
          rw [HR.out, HA.out]
          exact ⟨rfl, rfl⟩
      · have hkn : k = s.size := by omega
        have ha' := ha.out
        rw [hkn, ← HL.out, List.take_length] at ha'
        have HA := Lib.hid ha'
        clear ha'
        go_wp2
        go_ret
        rw [HR.out, HA.out]
        exact ⟨rfl, rfl⟩

theorem nameB_eq (c : UInt8) : nameB c = (!decide ((c.toNat : Int) < 33) && (!decide (126 < (c.toNat : Int)) && !((c.toNat : Int) == 47))) := by
  unfold nameB; rw [Bool.eq_iff_iff]; simp; omega
theorem validL_long {s : ByteArray} (h : s.data.toList.all nameB = true) : validL s.data.toList = decide (1 ≤ s.size ∧ s.size ≤ 64 ∧ s.toList ≠ [46] ∧ s.toList ≠ [46, 46]) := by
  have hl : s.data.toList.length = s.size := Array.length_toList
  unfold validL
  rw [h, Bool.and_true, Lib.toList_data, ← hl]
  congr 1
  apply propext
  constructor
  · rintro ⟨a, b, c⟩; exact ⟨List.length_pos_iff.2 a, b, c⟩
  · rintro ⟨a, b, c⟩; exact ⟨List.length_pos_iff.1 a, b, c⟩
theorem validL_not {s : ByteArray} (h : s.data.toList.all nameB = false) : validL s.data.toList = false := by
  unfold validL; rw [h, Bool.and_false]

set_option maxHeartbeats 1600000 in
theorem RValid_any (s : ByteArray) (hs : s.size ≤ 100000) (w : World) :
    Calls Try.prog 43 #[.string s] w fun e w' => e = .returned (.bool (validL s.data.toList)) ∧ w = w' := by
  have hl : s.data.toList.length = s.size := Array.length_toList
  have HL := Lib.hid hl
  clear hl
  have HG := Lib.hid (fun h => validL_long (s := s) h)
  have HN := Lib.hid (fun h => validL_not (s := s) h)
  generalize validL s.data.toList = r at HG HN ⊢
  go_enter Try.func43, Try.ntmps43
  go_wp2
  go_loop [3] (fun vi => ∃ k : Nat, vi = .int .i64 (k : Int) ∧ k ≤ s.size ∧ Hid ((s.data.toList.take k).all nameB = true)) (fun vi => s.size - (intOf vi).toNat)
  case atStart => exact ⟨0, rfl, by omega, by simp [Hid]⟩
  case round =>
    obtain ⟨k, rfl, hk, ha⟩ := hrel
    by_cases hlt : k < s.size
    · have hc := s[k].toNat_lt
      have hn := nameB_eq s[k]
      have HA := fun h => Lib.hid (take_all s k hlt ha.out h)
      have HB := fun h => Lib.hid (HN.out (take_none s k hlt h))
      by_cases h1 : (s[k].toNat : Int) < 33
      · have HB' := HB (by rw [hn]; simp [h1])
        clear HA HB hn
        go_wp2
        go_ret
        rw [HB'.out]
        exact ⟨rfl, rfl⟩
      by_cases h2 : 126 < (s[k].toNat : Int)
      · have HB' := HB (by rw [hn]; simp [h2])
        clear HA HB hn
        go_wp2
        go_ret
        rw [HB'.out]
        exact ⟨rfl, rfl⟩
      have h3' : ((s[k].toNat : Int) == 47) = decide ((s[k].toNat : Int) = 47) := rfl
      by_cases h3 : (s[k].toNat : Int) = 47
      · have HB' := HB (by rw [hn]; simp [h3])
        have h4 : ((s[k].toNat : Int) == 47) = true := by rw [h3]; rfl
        clear HA HB hn h3 h3'
        go_wp2
        go_ret
        rw [HB'.out]
        exact ⟨rfl, rfl⟩
      · have HA' := HA (by rw [hn]; simp [h1, h2, h3])
        have h4 : ((s[k].toNat : Int) == 47) = false := by simpa using h3
        clear HA HB hn h3 h3'
        go_wp2
        exact ⟨⟨k + 1, by go_num, by omega, HA'⟩, by simp [intOf]; omega⟩
    · have hkn : k = s.size := by omega
      have ha' := ha.out
      rw [hkn, ← HL.out, List.take_length] at ha'
      have hr := HG.out ha'
      clear ha'
      by_cases h1 : 1 ≤ s.size
      · by_cases h2 : s.size ≤ 64
        · by_cases h3 : s.toList = [46]
          · have h4 : (s.toList == [46]) = true := by rw [h3]; decide
            have HA : Hid (r = false) := by rw [hr]; simp [Hid, h3]
            clear hr h3
            go_wp2
            go_ret
            rw [HA.out]
            exact ⟨rfl, rfl⟩
          · have h4 : (s.toList == [46]) = false := by simpa using h3
            have HA : Hid (r = !(s.toList == [46, 46])) := by
              rw [hr]; show _ = _; rw [Bool.eq_iff_iff]; simp [h1, h2, h3]
            clear hr h3
            go_wp2
            go_ret
            rw [HA.out]
            exact ⟨rfl, rfl⟩
        · have HA : Hid (r = false) := by rw [hr]; simp [Hid, h2]
          clear hr
          go_wp2
          go_ret
          rw [HA.out]
          exact ⟨rfl, rfl⟩
      · have HA : Hid (r = false) := by rw [hr]; simp [Hid, h1]
        clear hr
        go_wp2
        go_ret
        rw [HA.out]
        exact ⟨rfl, rfl⟩
end Go.Proofs.Ytalhkoolpnmcdaa
