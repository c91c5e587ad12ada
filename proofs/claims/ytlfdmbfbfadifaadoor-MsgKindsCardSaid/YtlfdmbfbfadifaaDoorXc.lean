/-
  Walks: MsgKinds, MsgNames.
-/
import Derived.Test.YtlfdmbfbfadifaaDoorXb
namespace Go.Proofs.YtlfdmbfbfadifaaDoor
open Go.RowKit

set_option maxRecDepth 100000 in
set_option maxHeartbeats 3200000 in
theorem msgKinds_walk (k : Int) (hk : inI k) (w : World) (g : G w) :
    Calls Tryd.prog 3 #[.int .i64 k] w fun e w' => e = .returned (.bool true) ∧ Below w.heap.size w w' := by
  have hN := Lib.hid (Name_any k hk w g)
  have hR := Lib.hid (RName_any k w)
  have hQ := Lib.hid (Request_any k w)
  have hS := Lib.hid (RRequest_any k w)
  have hP := Lib.hid (Reply_any k w)
  have hT := Lib.hid (RReply_any k w)
  have hA := Lib.hid (awake_any w g)
  clear hk g
  generalize mk (nameK k) = s at *
  generalize reqB k = b at *
  generalize repI k = r at *
  have e1 : (s.toList == s.toList) = true := by simp
  have e2 : (b == b) = true := by simp
  have e3 : (r == r) = true := by simp
  go_enter Tryd.func3, Tryd.ntmps3
  go_wp2_with fail
  refine (hN.out).mono ?_
  rintro e w1 ⟨rfl, rfl⟩
  go_wp2_with fail
  refine (hR.out).mono ?_
  rintro e w1 ⟨rfl, rfl⟩
  go_wp2_with fail
  refine (hQ.out).mono ?_
  rintro e w1 ⟨rfl, rfl⟩
  go_wp2_with fail
  refine (hS.out).mono ?_
  rintro e w1 ⟨rfl, rfl⟩
  go_wp2_with fail
  refine (hP.out).mono ?_
  rintro e w1 ⟨rfl, rfl⟩
  go_wp2_with fail
  refine (hT.out).mono ?_
  rintro e w1 ⟨rfl, rfl⟩
  go_wp2_with fail
  refine (hA.out).mono ?_
  rintro e w2 ⟨rfl, hB2⟩
  go_wp2
  go_ret
  exact ⟨rfl, hB2⟩

set_option maxRecDepth 100000 in
set_option maxHeartbeats 3200000 in
theorem msgNames_walk (a b : Int) (ha : inI a) (hb : inI b) (w : World) (g : G w) :
    Calls Tryd.prog 4 #[.int .i64 a, .int .i64 b] w fun e w' => e = .returned (.bool true) ∧ Below w.heap.size w w' := by
  have hN := Lib.hid (Name_any a ha w g)
  have hM := Lib.hid (Name_any b hb w g)
  have hQ := Lib.hid (Request_any a w)
  have hP := Lib.hid (Reply_any a w)
  have hA := Lib.hid (awake_any w g)
  cases hka : kindB a
  · have he : (mk (nameK a)).toList = [] := by rw [mk_toList]; exact nameK_nil.2 hka
    have he2 : ((mk (nameK a)).toList == []) = true := by rw [he]; rfl
    have he3 : (mk (nameK a)).toList.isEmpty = true := by rw [he]; rfl
    have hr := reqB_no hka
    have hp := repI_no hr
    rw [hr] at hQ
    rw [hp] at hP
    clear ha hb g hka hr hp hM
    generalize mk (nameK a) = s at *
    go_enter Tryd.func4, Tryd.ntmps4
    go_wp2_with fail
    refine (hN.out).mono ?_
    rintro e w1 ⟨rfl, rfl⟩
    go_wp2_with fail
    refine (hQ.out).mono ?_
    rintro e w1 ⟨rfl, rfl⟩
    go_wp2_with fail
    refine (hP.out).mono ?_
    rintro e w1 ⟨rfl, rfl⟩
    go_wp2_with fail
    refine (hA.out).mono ?_
    rintro e w2 ⟨rfl, hB2⟩
    go_wp2
    go_ret
    exact ⟨rfl, hB2⟩
  have hne : nameK a ≠ [] := fun e => by rw [nameK_nil.1 e] at hka; cases hka
  have he : (mk (nameK a)).toList ≠ [] := by rw [mk_toList]; exact hne
  have he2 : ((mk (nameK a)).toList == []) = false := by simpa using he
  have he3 : (mk (nameK a)).toList.isEmpty = false := by simpa using he
  cases hr : reqB a
  · have hp := repI_no hr
    rw [hr] at hQ
    rw [hp] at hP
    by_cases hab : a = b
    · subst hab
      have n1 : (a != a) = false := by simp
      clear hb hM ha g hka hr hp hne
      generalize mk (nameK a) = s at *
      go_enter Tryd.func4, Tryd.ntmps4
      go_wp2_with fail
      refine (hN.out).mono ?_
      rintro e w1 ⟨rfl, rfl⟩
      go_wp2_with fail
      refine (hQ.out).mono ?_
      rintro e w1 ⟨rfl, rfl⟩
      go_wp2_with fail
      refine (hP.out).mono ?_
      rintro e w1 ⟨rfl, rfl⟩
      go_wp2_with fail
      refine (hA.out).mono ?_
      rintro e w2 ⟨rfl, hB2⟩
      go_wp2
      go_ret
      exact ⟨rfl, hB2⟩
    · have n1 : (a != b) = true := by simpa using hab
      have n2 : ((mk (nameK a)).toList == (mk (nameK b)).toList) = false := by
        rw [mk_toList, mk_toList, beq_eq_false_iff_ne]
        exact fun e => hab (nameK_inj hka e)
      clear hb ha g hka hr hp hne hab
      generalize mk (nameK a) = s at *
      generalize mk (nameK b) = t at *
      go_enter Tryd.func4, Tryd.ntmps4
      go_wp2_with fail
      refine (hN.out).mono ?_
      rintro e w1 ⟨rfl, rfl⟩
      go_wp2_with fail
      refine (hN.out).mono ?_
      rintro e w1 ⟨rfl, rfl⟩
      go_wp2_with fail
      refine (hM.out).mono ?_
      rintro e w1 ⟨rfl, rfl⟩
      go_wp2_with fail
      refine (hQ.out).mono ?_
      rintro e w1 ⟨rfl, rfl⟩
      go_wp2_with fail
      refine (hP.out).mono ?_
      rintro e w1 ⟨rfl, rfl⟩
      go_wp2_with fail
      refine (hA.out).mono ?_
      rintro e w2 ⟨rfl, hB2⟩
      go_wp2
      go_ret
      exact ⟨rfl, hB2⟩
  · obtain ⟨hk1, hr1⟩ := reqB_next hr
    have hp := repI_yes hr
    have hin := reqB_in hr
    have hX := Lib.hid (Name_any (a + 1) ⟨by omega, by omega⟩ w g)
    have hY := Lib.hid (Request_any (a + 1) w)
    have hne2 : nameK (a + 1) ≠ [] := fun e => by rw [nameK_nil.1 e] at hk1; cases hk1
    have hx : (mk (nameK (a + 1))).toList ≠ [] := by rw [mk_toList]; exact hne2
    have hx2 : ((mk (nameK (a + 1))).toList == []) = false := by simpa using hx
    have hx3 : (mk (nameK (a + 1))).toList.isEmpty = false := by simpa using hx
    rw [hr] at hQ
    rw [hp] at hP
    rw [hr1] at hY
    generalize mk (nameK (a + 1)) = u at *
    generalize a + 1 = a1 at *
    by_cases hab : a = b
    · subst hab
      have n1 : (a != a) = false := by simp
      clear hb hM ha g hka hr hp hne hk1 hr1 hne2 hin
      generalize mk (nameK a) = s at *
      go_enter Tryd.func4, Tryd.ntmps4
      go_wp2_with fail
      refine (hN.out).mono ?_
      rintro e w1 ⟨rfl, rfl⟩
      go_wp2_with fail
      refine (hQ.out).mono ?_
      rintro e w1 ⟨rfl, rfl⟩
      go_wp2_with fail
      refine (hP.out).mono ?_
      rintro e w1 ⟨rfl, rfl⟩
      go_wp2_with fail
      refine (hX.out).mono ?_
      rintro e w1 ⟨rfl, rfl⟩
      go_wp2_with fail
      refine (hY.out).mono ?_
      rintro e w1 ⟨rfl, rfl⟩
      go_wp2_with fail
      refine (hA.out).mono ?_
      rintro e w2 ⟨rfl, hB2⟩
      go_wp2
      go_ret
      exact ⟨rfl, hB2⟩
    · have n1 : (a != b) = true := by simpa using hab
      have n2 : ((mk (nameK a)).toList == (mk (nameK b)).toList) = false := by
        rw [mk_toList, mk_toList, beq_eq_false_iff_ne]
        exact fun e => hab (nameK_inj hka e)
      clear hb ha g hka hr hp hne hab hk1 hr1 hne2 hin
      generalize mk (nameK a) = s at *
      generalize mk (nameK b) = t at *
      go_enter Tryd.func4, Tryd.ntmps4
      go_wp2_with fail
      refine (hN.out).mono ?_
      rintro e w1 ⟨rfl, rfl⟩
      go_wp2_with fail
      refine (hN.out).mono ?_
      rintro e w1 ⟨rfl, rfl⟩
      go_wp2_with fail
      refine (hM.out).mono ?_
      rintro e w1 ⟨rfl, rfl⟩
      go_wp2_with fail
      refine (hQ.out).mono ?_
      rintro e w1 ⟨rfl, rfl⟩
      go_wp2_with fail
      refine (hP.out).mono ?_
      rintro e w1 ⟨rfl, rfl⟩
      go_wp2_with fail
      refine (hX.out).mono ?_
      rintro e w1 ⟨rfl, rfl⟩
      go_wp2_with fail
      refine (hY.out).mono ?_
      rintro e w1 ⟨rfl, rfl⟩
      go_wp2_with fail
      refine (hA.out).mono ?_
      rintro e w2 ⟨rfl, hB2⟩
      go_wp2
      go_ret
      exact ⟨rfl, hB2⟩
end Go.Proofs.YtlfdmbfbfadifaaDoor
