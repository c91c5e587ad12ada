/-
  Walks: the program's Parse; the reference's Parse.
-/
import Derived.Test.YtogjkkijejgggaaDoorMj
import Derived.Deep.QuietTactic
import Derived.BigQuiet
import Derived.IntWalk
namespace Go.Proofs.YtogjkkijejgggaaDoor
open Go.RowKit

def parseI (l : List UInt8) : Int × Int := if l.length = 11 ∧ textI (modeK l 12) = l then (modeK l 12, 0) else (0, 2)
theorem below_drewN {B : Nat} {a w : World} (h : Below B a w) (n : Nat) : Below B a (w.drewN n) := ⟨h.os, h.tape, h.output, h.size, h.block⟩

set_option maxHeartbeats 3200000 in
theorem Parse_any (l : List UInt8) (hl : l.length ≤ 1000) (w : World) (g : G w) :
    Calls Tryd.prog 10 #[.string (mk l)] w fun e w' => e = .returned (.tuple #[.int .i64 (parseI l).1, .int .i64 (parseI l).2]) ∧ Below w.heap.size w w' := by
  have hsz : (mk l).size = l.length := mk_size l
  by_cases h11 : l.length = 11
  · have hs : (mk l).size = 11 := by rw [hsz, h11]
    have hget : ∀ k, k < 12 → ((mk l)[plc k]'(by rw [hs]; exact plc_lt k)) = l.getD (plc k) 0 := fun k hk => by
      rw [mk_get]; simp [List.getD_eq_getElem?_getD, List.getElem?_eq_getElem (show plc k < l.length by rw [h11]; exact plc_lt k)]
    have HP : Hid (parseI l = if textI (modeK l 12) = l then (modeK l 12, 0) else (0, 2)) := by unfold Hid parseI; simp [h11]
    have HG := Lib.hid g
    have HS := Lib.hid hs
    have HGet := Lib.hid hget
    clear g hget hsz h11
    go_enter Tryd.func10, Tryd.ntmps10
    go_wp2_with (refine wpList_load_mid rfl 44 (.global 0) rfl 0 0 rfl marksL _ HG.out.2 Tryd.underlying44 rfl marks_info ?_)
    go_loopw [4, 11] (fun vm vk wr => ∃ k : Nat, vk = .int .i64 (k : Int) ∧ k ≤ 12 ∧ vm = .int .i64 (modeK l k) ∧ Hid (Below w.heap.size w wr)) (fun _ vk _ => 12 - (intOf vk).toNat)
    case atStart => exact ⟨0, rfl, by omega, rfl, Below.refl _ _⟩
    case round =>
      obtain ⟨k, rfl, hk, rfl, hB⟩ := hrel
      by_cases hlt : k < 12
      · have hix := marks_index k hlt
        have hp := plc_lt k
        have hpi : (plc k : Int) < 11 := by omega
        have hgk := HGet.out k hlt
        have hlp := modeK_mul l k (by omega)
        have hor := or_modeK l hlt
        have hbt := bt_le k hlt
        have hW := fun o => Lib.hid (hB.out.alloc hB.out.size o)
        have hmK : Hid (modeK l (k + 1) = modeK l k + if l.getD (plc k) 0 = ltr k then bt k else 0) := rfl
        replace hgk := Lib.hid hgk
        have hq := (ltr k).toNat_lt
        cases ht : ((((mk l)[plc k]'(by rw [HS.out]; exact hp)).toNat : Int) == ((ltr k).toNat : Int))
        · have hm : Hid (modeK l (k + 1) = modeK l k) := by
            have hne : ¬ l.getD (plc k) 0 = ltr k := by
              rw [← hgk.out]; intro e; rw [e] at ht; simp at ht
            rw [Hid, hmK.out, if_neg hne]; omega
          clear hmK
          go_wp2
          go_quiet (fail)
          go_wp2
          exact ⟨⟨k + 1, by go_num, by omega, by rw [hm.out], below_drewN (hW _).out _⟩, by simp [intOf]; omega⟩
        · have hm : Hid (modeK l (k + 1) = modeK l k + bt k) := by
            have he : l.getD (plc k) 0 = ltr k := by
              rw [← hgk.out]; apply UInt8.toNat_inj.1; have ht2 := beq_iff_eq.1 ht; exact Int.natCast_inj.1 ht2
            rw [Hid, hmK.out, if_pos he]
          clear hmK
          go_wp2
          go_quiet (fail)
          go_wp2
          exact ⟨⟨k + 1, by go_num, by omega, by rw [hm.out], below_drewN (hW _).out _⟩, by simp [intOf]; omega⟩
      · obtain rfl : k = 12 := by omega
        have hlp : 0 ≤ modeK l 12 ∧ modeK l 12 ≤ 4294967296 := by
          have h1 := modeK_mul l 11 (by omega)
          have e : modeK l 12 = modeK l 11 + if l.getD (plc 11) 0 = ltr 11 then bt 11 else 0 := rfl
          have e1 : bt 11 = 1 := rfl
          rw [e]
          rw [e1] at h1 ⊢
          split <;> omega
        have T := Text_any (modeK l 12) ⟨by omega, by omega⟩ wr (HG.out.below hB.out)
        generalize modeK l 12 = m at *
        have HT := Lib.hid T
        clear T
        generalize hT : textI m = t at HT HP
        clear hT
        by_cases he : t = l
        · subst he
          have HP2 : Hid ((m, 0) = parseI t) := by rw [Hid, HP.out, if_pos rfl]
          have hq1 : ((mk t).toList != (mk t).toList) = false := by simp
          clear HP
          go_wp2_with fail
          refine HT.out.mono ?_
          rintro e w2 ⟨rfl, hB2⟩
          have HB2 := Lib.hid (hB.out.trans (hB2.mono hB.out.size))
          clear hB2
          go_wp2
          go_ret2
          exact ⟨ret_two HP2.out, HB2.out⟩
        · have HP2 : Hid ((0, 2) = parseI l) := by rw [Hid, HP.out, if_neg he]
          have hq1 : ((mk t).toList == (mk l).toList) = false := by rw [mk_toList, mk_toList]; simpa using he
          clear HP he
          go_wp2_with fail
          refine HT.out.mono ?_
          rintro e w2 ⟨rfl, hB2⟩
          have HB2 := Lib.hid (hB.out.trans (hB2.mono hB.out.size))
          clear hB2
          go_wp2
          go_ret2
          exact ⟨ret_two HP2.out, HB2.out⟩
  · have HP : Hid (parseI l = (0, 2)) := by unfold Hid parseI; simp [h11]
    have hs1 : ((mk l).size : Int) ≠ 11 := by rw [hsz]; omega
    have hs2 : (((mk l).size : Int) == 11) = false := by simpa using hs1
    clear h11 hsz g
    go_enter Tryd.func10, Tryd.ntmps10
    go_wp2
    go_ret2
    exact ⟨ret_two HP.out.symm, Below.refl _ _⟩
end Go.Proofs.YtogjkkijejgggaaDoor
