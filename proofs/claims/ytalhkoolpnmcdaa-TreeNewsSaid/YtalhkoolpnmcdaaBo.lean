/-
  The walk of TreeNews.
-/
import Derived.Test.YtalhkoolpnmcdaaBn
import Derived.Test.YtalhkoolpnmcdaaAt
import Derived.Test.YtalhkoolpnmcdaaAu
namespace Go.Proofs.Ytalhkoolpnmcdaa
open Go.RowKit

theorem same_self (a : Int) (L : List ND) : sameB a a L L = true := by simp [sameB]

set_option maxRecDepth 100000 in
set_option maxHeartbeats 1600000 in
theorem treeNews_walk (s : ByteArray) (m n : Int) (hs : s.size ≤ maxLen) (hm : inI m) (hn : inI n) (W : World) :
    Calls Try.prog 3 #[.string s, .int .i64 m, .int .i64 n] W fun e w' => e = .returned (.bool true) ∧ Below W.heap.size W w' := by
  obtain ⟨l, rfl⟩ : ∃ l, s = mk l := ⟨s.data.toList, (mk_of s).symm⟩
  have hA := Lib.hid (fun w => awake_any w)
  have h1 := Lib.hid (fun w => New_any l m n w)
  have h2 := Lib.hid (fun w => RNew_any l m n w)
  have hS := Lib.hid (fun v1 v2 w a b => Same_any 2 2 v1 v2 [rootN l m n] [rootN l m n] w a b)
  rw [same_self] at hS
  have hsz : (mk l).size ≤ 9223372036854775807 := by unfold maxLen at hs; omega
  clear hs
  by_cases hl : 1000 < (mk l).size
  · have hl2 : (1000 : Int) < ((mk l).size : Int) := by omega
    go_enter Try.func3, Try.ntmps3
    go_wp2_with fail
    refine (hA.out _).mono ?_
    rintro e w' ⟨rfl, hB⟩
    have HB := Lib.hid hB
    clear hB
    go_wp2
    go_ret
    exact ⟨rfl, HB.out⟩
  · have hl2 : ¬ (1000 : Int) < ((mk l).size : Int) := by omega
    generalize [rootN l m n] = L at h1 h2 hS
    go_enter Try.func3, Try.ntmps3
    go_wp2_with fail
    refine (h1.out _).mono ?_
    rintro e w1 ⟨v1, rfl, hO1, hB1⟩
    have HO1 := Lib.hid hO1
    have HB1 := Lib.hid hB1
    clear hO1 hB1
    go_wp2_with fail
    refine (h2.out _).mono ?_
    rintro e w2 ⟨v2, rfl, hO2, hB2⟩
    have hC := Lib.hid (hS.out v1 v2 w2 (HO1.out.row.below hB2) hO2.row)
    have HB2 := Lib.hid (HB1.out.trans (hB2.mono HB1.out.size))
    clear hO2 hB2
    go_wp2_with fail
    refine hC.out.mono ?_
    rintro e w3 ⟨rfl, hB3⟩
    have HB3 := Lib.hid (HB2.out.trans (hB3.mono HB2.out.size))
    clear hB3
    go_wp2_with fail
    refine (hA.out _).mono ?_
    rintro e w4 ⟨rfl, hB4⟩
    have HB4 := Lib.hid (HB3.out.trans (hB4.mono HB3.out.size))
    clear hB4
    go_wp2
    go_ret
    exact ⟨rfl, HB4.out⟩
end Go.Proofs.Ytalhkoolpnmcdaa
