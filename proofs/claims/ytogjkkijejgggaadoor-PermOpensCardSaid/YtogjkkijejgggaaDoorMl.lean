/-
  Walks: the reference's Parse.
-/
import Derived.Test.YtogjkkijejgggaaDoorMk
namespace Go.Proofs.YtogjkkijejgggaaDoor
open Go.RowKit

theorem hb_bd (k : Nat) (hk : k ≤ 9) : 0 ≤ hb k ∧ hb k ≤ 256 := by
  match k, hk with
  | 0, _ | 1, _ | 2, _ | 3, _ | 4, _ | 5, _ | 6, _ | 7, _ | 8, _ | 9, _ => decide
  | n + 10, h => omega
theorem hb_next (k : Nat) (hk : k < 9) : hb k / 2 = hb (k + 1) := by
  match k, hk with
  | 0, _ | 1, _ | 2, _ | 3, _ | 4, _ | 5, _ | 6, _ | 7, _ | 8, _ => decide
  | n + 9, h => omega
theorem u8_test {a b : UInt8} : ((a.toNat : Int) == (b.toNat : Int)) = decide (a = b) := by
  rw [Bool.eq_iff_iff, beq_iff_eq, decide_eq_true_eq]
  constructor
  · intro h; exact UInt8.toNat_inj.1 (Int.natCast_inj.1 h)
  · rintro rfl; rfl
/-- parseI by the reference's reading. -/
theorem parseI_ref {l : List UInt8} (h : l.length = 11) : parseI l = if textI (modeR l 9) = l then (modeR l 9, 0) else (0, 2) := by
  obtain ⟨a, b⟩ := parse_same h
  unfold parseI
  by_cases e : textI (modeK l 12) = l
  · rw [if_pos ⟨h, e⟩, if_pos (a.1 e), b e]
  · rw [if_neg (fun x => e x.2), if_neg (fun x => e (a.2 x))]

set_option maxHeartbeats 6400000 in
theorem RParse_any (l : List UInt8) (hl : l.length ≤ 1000) (w : World) :
    Calls Tryd.prog 11 #[.string (mk l)] w fun e w' => e = .returned (.tuple #[.int .i64 (parseI l).1, .int .i64 (parseI l).2]) ∧ Below w.heap.size w w' := by
  have hsz : (mk l).size = l.length := mk_size l
  by_cases h11 : l.length = 11
  · have hs : (mk l).size = 11 := by rw [hsz, h11]
    have hget : ∀ k (hk : k < (mk l).size), (mk l)[k] = l.getD k 0 := fun k hk => by
      rw [mk_get]; simp [List.getD_eq_getElem?_getD, List.getElem?_eq_getElem (show k < l.length by rw [← hsz]; exact hk)]
    have HP := Lib.hid (parseI_ref h11)
    have hbd := Lib.hid (fun k hk => modeR_le l k hk)
    have hbit := Lib.hid hb_bd
    have hnx := Lib.hid hb_next
    have T := Lib.hid (fun m hm => RText_any m hm w)
    have HH : Hid (modeR l 0 = (if l.getD 0 0 = 97 then 1073741824 else if l.getD 0 0 = 100 then 2147483648 else 0) + (if l.getD 1 0 = 108 then 536870912 else 0)) := rfl
    have HR : Hid (∀ k, modeR l (k + 1) = modeR l k + if l.getD (k + 2) 0 = 45 then 0 else hb k) := fun k => rfl
    have h0 : 0 < (mk l).size := by omega
    have h1 : 1 < (mk l).size := by omega
    have e0 := hget 0 h0
    have e1 := hget 1 h1
    have t97 : ((((mk l)[0]'h0).toNat : Int) == 97) = decide (l.getD 0 0 = 97) := by rw [← e0]; exact u8_test (b := 97)
    have t100 : ((((mk l)[0]'h0).toNat : Int) == 100) = decide (l.getD 0 0 = 100) := by rw [← e0]; exact u8_test (b := 100)
    have t108 : ((((mk l)[1]'h1).toNat : Int) == 108) = decide (l.getD 1 0 = 108) := by rw [← e1]; exact u8_test (b := 108)
    have HGet := Lib.hid hget
    have HS := Lib.hid hs
    clear hget hsz h11 e0 e1
    have h3 : ∃ x y z : Bool, decide (l.getD 0 0 = 97) = x ∧ decide (l.getD 0 0 = 100) = y ∧ decide (l.getD 1 0 = 108) = z ∧ ¬ (x = true ∧ y = true) := by
      refine ⟨_, _, _, rfl, rfl, rfl, ?_⟩
      simp only [decide_eq_true_eq]
      rintro ⟨a, b⟩
      rw [a] at b; exact absurd b (by decide)
    obtain ⟨x, y, z, ex, ey, ez, hxy⟩ := h3
    rw [ex] at t97
    rw [ey] at t100
    rw [ez] at t108
    have HV : Hid (modeR l 0 = (if x = true then 1073741824 else if y = true then 2147483648 else 0) + (if z = true then 536870912 else 0)) := by
      rw [Hid, HH.out, ← ex, ← ey, ← ez]; simp only [decide_eq_true_eq]
    clear ex ey ez HH
    cases x
    all_goals
      cases y
      all_goals
        first
        | exact absurd ⟨rfl, rfl⟩ hxy
        | skip
    all_goals
      cases z
      all_goals
        clear hxy
        go_enter Tryd.func11, Tryd.ntmps11
        go_wp2
        go_loop [4, 5, 6] (fun vm vb vi => ∃ k : Nat, k ≤ 9 ∧ vi = .int .i64 ((k : Int) + 2) ∧ vb = .int .i64 (hb k) ∧ vm = .int .i64 (modeR l k)) (fun _ _ vi => 11 - (intOf vi).toNat)
        case atStart => exact ⟨0, by omega, rfl, rfl, congrArg (Value.int .i64) (by rw [HV.out]; simp)⟩
        case round =>
          obtain ⟨k, hk, rfl, rfl, rfl⟩ := hrel
          obtain ⟨r0, r1⟩ := hbd.out k hk
          obtain ⟨q0, q1⟩ := hbit.out k hk
          by_cases hlt : k < 9
          · have hk2 : k + 2 < (mk l).size := by rw [HS.out]; omega
            have e2 := HGet.out (k + 2) hk2
            have t45 : ((((mk l)[k + 2]'hk2).toNat : Int) == 45) = decide (l.getD (k + 2) 0 = 45) := by rw [← e2]; exact u8_test (b := 45)
            have hR := HR.out k
            have hN := Lib.hid (hnx.out k hlt)
            clear e2
            by_cases h45 : l.getD (k + 2) 0 = 45
            · rw [if_pos h45] at hR
              rw [decide_eq_true h45] at t45
              replace hR := Lib.hid hR
              clear h45
              go_wp2
              go_round
              case rel => exact ⟨k + 1, by omega, congrArg (Value.int .i64) (by omega), congrArg (Value.int .i64) hN.out, congrArg (Value.int .i64) (by have := hR.out; omega)⟩
              case measure => simp [intOf]; omega
            · rw [if_neg h45] at hR
              rw [decide_eq_false h45] at t45
              replace hR := Lib.hid hR
              clear h45
              go_wp2
              go_round
              case rel => exact ⟨k + 1, by omega, congrArg (Value.int .i64) (by omega), congrArg (Value.int .i64) hN.out, congrArg (Value.int .i64) hR.out.symm⟩
              case measure => simp [intOf]; omega
          · obtain rfl : k = 9 := by omega
            have C := T.out (modeR l 9) ⟨by omega, by omega⟩
            generalize modeR l 9 = m at *
            generalize hT : textI m = t at C HP
            clear hT
            replace C := Lib.hid C
            by_cases he : t = l
            · have HP2 : Hid ((m, 0) = parseI l) := by rw [Hid, HP.out, if_pos he]
              have hq1 : ((mk t).toList == (mk l).toList) = true := by rw [he]; simp
              clear HP he
              go_wp2_with fail
              refine C.out.mono ?_
              rintro e w2 ⟨rfl, hB2⟩
              replace hB2 := Lib.hid hB2
              go_wp2
              go_ret2
              exact ⟨ret_two HP2.out, hB2.out⟩
            · have HP2 : Hid ((0, 2) = parseI l) := by rw [Hid, HP.out, if_neg he]
              have hq1 : ((mk t).toList == (mk l).toList) = false := by rw [mk_toList, mk_toList]; simpa using he
              clear HP he
              go_wp2_with fail
              refine C.out.mono ?_
              rintro e w2 ⟨rfl, hB2⟩
              replace hB2 := Lib.hid hB2
              go_wp2
              go_ret2
              exact ⟨ret_two HP2.out, hB2.out⟩
  · have HP : Hid (parseI l = (0, 2)) := by unfold Hid parseI; simp [h11]
    have hs1 : ((mk l).size : Int) ≠ 11 := by rw [hsz]; omega
    have hs2 : (((mk l).size : Int) == 11) = false := by simpa using hs1
    clear h11 hsz
    go_enter Tryd.func11, Tryd.ntmps11
    go_wp2
    go_ret2
    exact ⟨ret_two HP.out.symm, Below.refl _ _⟩
end Go.Proofs.YtogjkkijejgggaaDoor
