/-
  Walks: the reference's Text and Parse.
-/
import Derived.Test.YtogjkkijejgggaaDoorMh
namespace Go.Proofs.YtogjkkijejgggaaDoor
open Go.RowKit

theorem ret_str {a : ByteArray} {l : List UInt8} (h : a = mk l) : Ending.returned (.string a) = .returned (.string (mk l)) := by rw [h]
def cls (j : Nat) : Int := [64, 8, 1].getD j 0
theorem text_take (m : Int) (j : Nat) (hj : j < 3) : (textM m).take (2 + 3 * (j + 1)) = (textM m).take (2 + 3 * j) ++ [mrk m (4 * cls j) 114, mrk m (2 * cls j) 119, mrk m (cls j) 120] := by
  match j, hj with
  | 0, _ | 1, _ | 2, _ => rfl
  | n + 3, h => omega
theorem textM_len (m : Int) : (textM m).length = 11 := rfl

set_option maxHeartbeats 3200000 in
theorem RText_any (m : Int) (hm : inI m) (w : World) :
    Calls Tryd.prog 13 #[.int .i64 m] w fun e w' => e = .returned (.string (mk (textI m))) ∧ Below w.heap.size w w' := by
  have V := RValid_any m hm w
  have M := Lib.hid (fun p c w hp => Rmark_any m p c hm hp w)
  have hr : textI m = if vldB m then textM m else [] := rfl
  generalize textI m = t at hr ⊢
  generalize vldB m = v at V hr
  replace V := Lib.hid V
  cases v
  · obtain rfl : t = [] := by simpa using hr
    clear hr
    go_enter Tryd.func13, Tryd.ntmps13
    go_wp2_with fail
    refine V.out.mono ?_
    rintro e w1 ⟨rfl, hB⟩
    replace hB := Lib.hid hB
    go_wp2
    go_ret
    exact ⟨rfl, hB.out⟩
  · obtain rfl : t = textM m := by simpa using hr
    clear hr
    have H0 : Hid (textM m = (if bitB m 2147483648 then 100 else mrk m 1073741824 97) :: mrk m 536870912 108 :: (textM m).drop 2) := rfl
    have HT := Lib.hid (text_take m)
    have HE : Hid ((textM m).take 11 = textM m) := by rw [Hid, List.take_of_length_le]; exact Nat.le_of_eq (textM_len m)
    generalize textM m = T at *
    generalize hb : bitB m 2147483648 = b at H0
    have he : mrk m 2147483648 100 = if b then 100 else 45 := by unfold mrk; rw [hb]
    have hq : ((mk [100]).toList == [45]) = false := by rw [mk_toList]; rfl
    have hq2 : ((mk [45]).toList == [45]) = true := by rw [mk_toList]; rfl
    clear hb
    go_enter Tryd.func13, Tryd.ntmps13
    go_wp2_with fail
    refine V.out.mono ?_
    rintro e w1 ⟨rfl, hB⟩
    replace hB := Lib.hid hB
    have M1 := M.out 2147483648 100 w1 (by decide)
    rw [he] at M1
    replace M1 := Lib.hid M1
    clear he
    go_wp2_with fail
    refine M1.out.mono ?_
    rintro e w' ⟨rfl, rfl⟩
    cases b
    rotate_left
    · go_wp2_with fail
      refine (M.out 536870912 108 w1 (by decide)).mono ?_
      rintro e w' ⟨rfl, rfl⟩
      replace H0 : Hid (mk [100] ++ mk [mrk m 536870912 108] = mk (T.take 2)) := by rw [Hid, mk_app, H0.out]; rfl
      go_wp2
      go_loop [3, 4] (fun vs vc => ∃ j : Nat, j ≤ 3 ∧ vc = .int .i64 (cls j) ∧ vs = .string (mk (T.take (2 + 3 * j)))) (fun _ vc => (intOf vc).toNat)
      case atStart => exact ⟨0, by omega, rfl, congrArg Value.string H0.out⟩
      case round =>
        obtain ⟨j, hj, rfl, rfl⟩ := hrel
        have hlen : (T.take (2 + 3 * j)).length ≤ 11 := by rw [List.length_take]; omega
        by_cases hlt : j < 3
        · have ht := Lib.hid (HT.out j hlt)
          generalize hP : T.take (2 + 3 * j) = P at hlen ht
          replace hP := Lib.hid hP
          have hsz : (mk P).size ≤ 11 := by rw [mk_size]; exact hlen
          have hs1 : ∀ c : UInt8, (mk [c]).size = 1 := fun c => mk_size [c]
          have h3 : j = 0 ∨ j = 1 ∨ j = 2 := by omega
          rcases h3 with rfl | rfl | rfl
          · have hcl : cls 0 = 64 := rfl
            go_wp2_with fail
            refine (M.out 256 114 w1 (by decide)).mono ?_
            rintro e w' ⟨rfl, rfl⟩
            go_wp2_with fail
            refine (M.out 128 119 w1 (by decide)).mono ?_
            rintro e w' ⟨rfl, rfl⟩
            go_wp2_with fail
            refine (M.out 64 120 w1 (by decide)).mono ?_
            rintro e w' ⟨rfl, rfl⟩
            go_wp2
            go_round
            case rel => exact ⟨1, by omega, rfl, congrArg Value.string (by rw [mk_app, mk_app, mk_app, ht.out, List.append_assoc, List.append_assoc]; rfl)⟩
            case measure => simp [intOf]; decide
          · have hcl : cls 1 = 8 := rfl
            go_wp2_with fail
            refine (M.out 32 114 w1 (by decide)).mono ?_
            rintro e w' ⟨rfl, rfl⟩
            go_wp2_with fail
            refine (M.out 16 119 w1 (by decide)).mono ?_
            rintro e w' ⟨rfl, rfl⟩
            go_wp2_with fail
            refine (M.out 8 120 w1 (by decide)).mono ?_
            rintro e w' ⟨rfl, rfl⟩
            go_wp2
            go_round
            case rel => exact ⟨2, by omega, rfl, congrArg Value.string (by rw [mk_app, mk_app, mk_app, ht.out, List.append_assoc, List.append_assoc]; rfl)⟩
            case measure => simp [intOf]; decide
          · have hcl : cls 2 = 1 := rfl
            go_wp2_with fail
            refine (M.out 4 114 w1 (by decide)).mono ?_
            rintro e w' ⟨rfl, rfl⟩
            go_wp2_with fail
            refine (M.out 2 119 w1 (by decide)).mono ?_
            rintro e w' ⟨rfl, rfl⟩
            go_wp2_with fail
            refine (M.out 1 120 w1 (by decide)).mono ?_
            rintro e w' ⟨rfl, rfl⟩
            go_wp2
            go_round
            case rel => exact ⟨3, by omega, rfl, congrArg Value.string (by rw [mk_app, mk_app, mk_app, ht.out, List.append_assoc, List.append_assoc]; rfl)⟩
            case measure => simp [intOf]; decide
        · obtain rfl : j = 3 := by omega
          have hcl : cls 3 = 0 := rfl
          go_wp2
          go_ret
          exact ⟨ret_str (congrArg mk HE.out), hB.out⟩
    · go_wp2_with fail
      refine (M.out 1073741824 97 w1 (by decide)).mono ?_
      rintro e w' ⟨rfl, rfl⟩
      go_wp2_with fail
      refine (M.out 536870912 108 w1 (by decide)).mono ?_
      rintro e w' ⟨rfl, rfl⟩
      replace H0 : Hid (mk [mrk m 1073741824 97] ++ mk [mrk m 536870912 108] = mk (T.take 2)) := by rw [Hid, mk_app, H0.out]; rfl
      go_wp2
      go_loop [3, 4] (fun vs vc => ∃ j : Nat, j ≤ 3 ∧ vc = .int .i64 (cls j) ∧ vs = .string (mk (T.take (2 + 3 * j)))) (fun _ vc => (intOf vc).toNat)
      case atStart => exact ⟨0, by omega, rfl, congrArg Value.string H0.out⟩
      case round =>
        obtain ⟨j, hj, rfl, rfl⟩ := hrel
        have hlen : (T.take (2 + 3 * j)).length ≤ 11 := by rw [List.length_take]; omega
        by_cases hlt : j < 3
        · have ht := Lib.hid (HT.out j hlt)
          generalize hP : T.take (2 + 3 * j) = P at hlen ht
          replace hP := Lib.hid hP
          have hsz : (mk P).size ≤ 11 := by rw [mk_size]; exact hlen
          have hs1 : ∀ c : UInt8, (mk [c]).size = 1 := fun c => mk_size [c]
          have h3 : j = 0 ∨ j = 1 ∨ j = 2 := by omega
          rcases h3 with rfl | rfl | rfl
          · have hcl : cls 0 = 64 := rfl
            go_wp2_with fail
            refine (M.out 256 114 w1 (by decide)).mono ?_
            rintro e w' ⟨rfl, rfl⟩
            go_wp2_with fail
            refine (M.out 128 119 w1 (by decide)).mono ?_
            rintro e w' ⟨rfl, rfl⟩
            go_wp2_with fail
            refine (M.out 64 120 w1 (by decide)).mono ?_
            rintro e w' ⟨rfl, rfl⟩
            go_wp2
            go_round
            case rel => exact ⟨1, by omega, rfl, congrArg Value.string (by rw [mk_app, mk_app, mk_app, ht.out, List.append_assoc, List.append_assoc]; rfl)⟩
            case measure => simp [intOf]; decide
          · have hcl : cls 1 = 8 := rfl
            go_wp2_with fail
            refine (M.out 32 114 w1 (by decide)).mono ?_
            rintro e w' ⟨rfl, rfl⟩
            go_wp2_with fail
            refine (M.out 16 119 w1 (by decide)).mono ?_
            rintro e w' ⟨rfl, rfl⟩
            go_wp2_with fail
            refine (M.out 8 120 w1 (by decide)).mono ?_
            rintro e w' ⟨rfl, rfl⟩
            go_wp2
            go_round
            case rel => exact ⟨2, by omega, rfl, congrArg Value.string (by rw [mk_app, mk_app, mk_app, ht.out, List.append_assoc, List.append_assoc]; rfl)⟩
            case measure => simp [intOf]; decide
          · have hcl : cls 2 = 1 := rfl
            go_wp2_with fail
            refine (M.out 4 114 w1 (by decide)).mono ?_
            rintro e w' ⟨rfl, rfl⟩
            go_wp2_with fail
            refine (M.out 2 119 w1 (by decide)).mono ?_
            rintro e w' ⟨rfl, rfl⟩
            go_wp2_with fail
            refine (M.out 1 120 w1 (by decide)).mono ?_
            rintro e w' ⟨rfl, rfl⟩
            go_wp2
            go_round
            case rel => exact ⟨3, by omega, rfl, congrArg Value.string (by rw [mk_app, mk_app, mk_app, ht.out, List.append_assoc, List.append_assoc]; rfl)⟩
            case measure => simp [intOf]; decide
        · obtain rfl : j = 3 := by omega
          have hcl : cls 3 = 0 := rfl
          go_wp2
          go_ret
          exact ⟨ret_str (congrArg mk HE.out), hB.out⟩
end Go.Proofs.YtogjkkijejgggaaDoor
