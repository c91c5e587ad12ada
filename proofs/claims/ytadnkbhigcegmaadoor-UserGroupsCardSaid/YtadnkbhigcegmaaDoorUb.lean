/-
  Names: package user's Valid and the reference's.
-/
import Derived.Test.YtadnkbhigcegmaaDoorProg
import Derived.Test.YtadnkbhigcegmaaDoorRows
import Derived.Test.YtadnkbhigcegmaaDoorUa
import Derived.WalkKit
import Derived.WalkSmall
import Derived.Lib.Hide
import Derived.LoopTactic
namespace Go.Proofs.YtadnkbhigcegmaaDoor
open Go.RowKit

def mk (l : List UInt8) : ByteArray := ⟨l.toArray⟩
theorem mk_toList (l : List UInt8) : (mk l).toList = l := by rw [Lib.toList_data]; simp [mk]
theorem mk_data (l : List UInt8) : (mk l).data.toList = l := by simp [mk]
theorem mk_of (s : ByteArray) : mk s.data.toList = s := by apply ByteArray.ext; simp [mk]
theorem mk_size (l : List UInt8) : (mk l).size = l.length := by simp [mk, ByteArray.size]
theorem mk_inj {a b : List UInt8} (h : mk a = mk b) : a = b := by rw [← mk_data a, ← mk_data b, h]
theorem mk_app (a b : List UInt8) : mk a ++ mk b = mk (a ++ b) := by
  apply ByteArray.ext
  simp [mk, ByteArray.data_append]
theorem mk_get (l : List UInt8) (k : Nat) (h : k < (mk l).size) : (mk l)[k] = l[k]'(by rw [mk_size] at h; exact h) := by
  simp only [mk]; rfl
def sv (x : List UInt8) : Value := .string (mk x)
theorem add_at (b o j : Nat) : (⟨b, o, none⟩ : Addr).add j = ⟨b, o + j, none⟩ := by
  unfold Addr.add
  split
  · rename_i h; subst h; rfl
  · rfl

theorem isLower_any (c : UInt8) (w : World) :
    Calls Tryd.prog 29 #[.int .u8 (c.toNat : Int)] w fun e w' => e = .returned (.bool (lowerB c)) ∧ w = w' := by
  have hc := c.toNat_lt
  by_cases h1 : (97 : Int) ≤ (c.toNat : Int)
  · have hr : lowerB c = decide ((c.toNat : Int) ≤ 122) := by
      unfold lowerB; rw [Bool.eq_iff_iff]; simp; omega
    rw [hr]
    clear hr
    go_enter Tryd.func29, Tryd.ntmps29
    go_wp2
    go_ret
    exact ⟨rfl, rfl⟩
  · have hr : lowerB c = false := by unfold lowerB; simp; omega
    rw [hr]
    clear hr
    go_enter Tryd.func29, Tryd.ntmps29
    go_wp2
    go_ret
    exact ⟨rfl, rfl⟩

theorem isNameByte_any (c : UInt8) (w : World) :
    Calls Tryd.prog 30 #[.int .u8 (c.toNat : Int)] w fun e w' => e = .returned (.bool (nameB c)) ∧ w = w' := by
  have hc := c.toNat_lt
  have L := isLower_any c w
  have hn : nameB c = (lowerB c || (decide ((48 : Int) ≤ (c.toNat : Int)) && decide ((c.toNat : Int) ≤ 57)) || ((c.toNat : Int) == 45) || ((c.toNat : Int) == 95)) := by
    unfold nameB; generalize lowerB c = b; cases b
    · rw [Bool.eq_iff_iff]; simp; omega
    · simp
  have HN := Lib.hid hn
  generalize nameB c = r at hn HN ⊢
  clear hn
  by_cases hl : lowerB c = true
  · have hr : r = true := by rw [HN.out, hl]; simp
    rw [hl] at L
    have HL := Lib.hid L
    have HR := Lib.hid hr
    clear L hl hr HN
    go_enter Tryd.func30, Tryd.ntmps30
    go_wp2_with (go_at_call 29; refine HL.out.mono ?_; rintro e w' ⟨rfl, rfl⟩)
    go_ret
    rw [HR.out]
    exact ⟨rfl, rfl⟩
  · have hl : lowerB c = false := by simpa using hl
    rw [hl] at L
    have HL := Lib.hid L
    have HF := Lib.hid hl
    clear L hl
    by_cases h1 : (48 : Int) ≤ (c.toNat : Int)
    · by_cases h2 : (c.toNat : Int) ≤ 57
      · have HR : Hid (r = true) := by rw [Hid, HN.out, HF.out]; simp [h1, h2]
        clear HN
        go_enter Tryd.func30, Tryd.ntmps30
        go_wp2_with (go_at_call 29; refine HL.out.mono ?_; rintro e w' ⟨rfl, rfl⟩)
        go_ret
        rw [HR.out]
        exact ⟨rfl, rfl⟩
      · have HR : Hid (r = ((c.toNat : Int) == 95)) := by
          rw [Hid, HN.out, HF.out, Bool.eq_iff_iff]; simp; omega
        have h3 : ((c.toNat : Int) == 45) = false := by simp; omega
        have h4 : decide ((c.toNat : Int) ≤ 57) = false := decide_eq_false h2
        clear HN
        go_enter Tryd.func30, Tryd.ntmps30
        go_wp2_with (go_at_call 29; refine HL.out.mono ?_; rintro e w' ⟨rfl, rfl⟩)
        go_ret
        rw [HR.out]
        exact ⟨rfl, rfl⟩
    · by_cases h3 : ((c.toNat : Int) == 45) = true
      · have HR : Hid (r = true) := by rw [Hid, HN.out, HF.out, h3]; simp
        clear HN
        go_enter Tryd.func30, Tryd.ntmps30
        go_wp2_with (go_at_call 29; refine HL.out.mono ?_; rintro e w' ⟨rfl, rfl⟩)
        go_ret
        rw [HR.out]
        exact ⟨rfl, rfl⟩
      · have h3 : ((c.toNat : Int) == 45) = false := by simpa using h3
        have HR : Hid (r = ((c.toNat : Int) == 95)) := by
          rw [Hid, HN.out, HF.out, h3]; simp [h1]
        clear HN
        go_enter Tryd.func30, Tryd.ntmps30
        go_wp2_with (go_at_call 29; refine HL.out.mono ?_; rintro e w' ⟨rfl, rfl⟩)
        go_ret
        rw [HR.out]
        exact ⟨rfl, rfl⟩

theorem take_all (s : List UInt8) (k : Nat) (h : k < (mk s).size) (ha : (s.take k).all nameB = true) (hb : nameB (mk s)[k] = true) : (s.take (k + 1)).all nameB = true := by
  have hl := mk_size s
  rw [mk_get] at hb
  rw [List.take_succ_eq_append_getElem (by omega), List.all_append, ha]
  simp [hb]
theorem take_none (s : List UInt8) (k : Nat) (h : k < (mk s).size) (hb : nameB (mk s)[k] = false) : s.all nameB = false := by
  have hl := mk_size s
  rw [mk_get] at hb
  rw [List.all_eq_false]
  exact ⟨s[k]'(by omega), List.getElem_mem _, by simp [hb]⟩
theorem firstB_at (s : List UInt8) (h : 0 < (mk s).size) : firstB s = lowerB (mk s)[0] := by
  rw [mk_get]
  cases s with
  | nil => rw [mk_size] at h; simp at h
  | cons c s => rfl

set_option maxHeartbeats 800000 in
theorem Valid_any (s : List UInt8) (hs : s.length ≤ 100000) (w : World) :
    Calls Tryd.prog 11 #[.string (mk s)] w fun e w' => e = .returned (.bool (validL s)) ∧ w = w' := by
  have hz := mk_size s
  by_cases h0 : s = []
  · subst h0
    go_enter Tryd.func11, Tryd.ntmps11
    have g0 : (mk []).toList = [] := mk_toList []
    go_wp2
    go_ret
    exact ⟨rfl, rfl⟩
  · have g1 : (mk s).toList ≠ [] := by rw [mk_toList]; exact h0
    have g0 : (mk s).toList.isEmpty = false := by simp [g1]
    have hp : 0 < (mk s).size := by rw [hz]; exact List.length_pos_iff.2 h0
    have hsz : (mk s).size ≤ 100000 := by omega
    have hv : validL s = (decide ((mk s).size ≤ 32) && lowerB (mk s)[0] && s.all nameB) := by
      unfold validL; rw [firstB_at s hp, hz]
    have HV := Lib.hid hv
    have HZ := Lib.hid hz
    clear hv hz hs h0
    generalize validL s = r at HV ⊢
    by_cases h32 : (mk s).size ≤ 32
    · have L := isLower_any (mk s)[0] w
      by_cases hl : lowerB (mk s)[0] = true
      · rw [hl] at L
        have HL := Lib.hid L
        have HV2 : Hid (r = s.all nameB) := by rw [Hid, HV.out, hl, decide_eq_true h32]; simp
        clear L hl HV
        go_enter Tryd.func11, Tryd.ntmps11
        go_wp2_with (go_at_call 29; refine HL.out.mono ?_; rintro e w' ⟨rfl, rfl⟩)
        go_loop [19] (fun vi => ∃ k : Nat, vi = .int .i64 (k : Int) ∧ k ≤ (mk s).size ∧ Hid ((s.take k).all nameB = true)) (fun vi => (mk s).size - (intOf vi).toNat)
        case atStart => exact ⟨0, rfl, by omega, by simp [Hid]⟩
        case round =>
          obtain ⟨k, rfl, hk, ha⟩ := hrel
          by_cases hlt : k < (mk s).size
          · have N := isNameByte_any (mk s)[k] w
            by_cases hb : nameB (mk s)[k] = true
            · rw [hb] at N
              have HN := Lib.hid N
              have HA := Lib.hid (take_all s k hlt ha.out hb)
              clear N hb
              go_wp2_with (go_at_call 30; refine HN.out.mono ?_; rintro e w' ⟨rfl, rfl⟩)
              exact ⟨⟨k + 1, by go_num, by omega, HA⟩, by simp [intOf]; omega⟩
            · have hb : nameB (mk s)[k] = false := by simpa using hb
              rw [hb] at N
              have HN := Lib.hid N
              have HA := Lib.hid (take_none s k hlt hb)
              clear N hb
              go_wp2_with (go_at_call 30; refine HN.out.mono ?_; rintro e w' ⟨rfl, rfl⟩)
              go_ret
              rw [HV2.out, HA.out]
              exact ⟨rfl, rfl⟩
          · have hkn : k = (mk s).size := by omega
            have ha' := ha.out
            rw [hkn, HZ.out, List.take_length] at ha'
            have HA := Lib.hid ha'
            clear ha'
            go_wp2
            go_ret
            rw [HV2.out, HA.out]
            exact ⟨rfl, rfl⟩
      · have hl : lowerB (mk s)[0] = false := by simpa using hl
        rw [hl] at L
        have HL := Lib.hid L
        have HV2 : Hid (r = false) := by rw [Hid, HV.out, hl]; simp
        clear L hl HV
        go_enter Tryd.func11, Tryd.ntmps11
        go_wp2_with (go_at_call 29; refine HL.out.mono ?_; rintro e w' ⟨rfl, rfl⟩)
        go_ret
        rw [HV2.out]
        exact ⟨rfl, rfl⟩
    · have HV2 : Hid (r = false) := by rw [Hid, HV.out, decide_eq_false h32]; simp
      clear HV
      go_enter Tryd.func11, Tryd.ntmps11
      go_wp2
      go_ret
      rw [HV2.out]
      exact ⟨rfl, rfl⟩
end Go.Proofs.YtadnkbhigcegmaaDoor
