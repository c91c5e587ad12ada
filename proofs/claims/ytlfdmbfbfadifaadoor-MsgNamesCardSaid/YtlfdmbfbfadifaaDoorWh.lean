/-
  Walks: the reference's Name, Request, Reply.
-/
import Derived.Test.YtlfdmbfbfadifaaDoorWg
namespace Go.Proofs.YtlfdmbfbfadifaaDoor
open Go.RowKit

theorem not_kind {k : Int} (h : kindB k = false) (n : Int) (hn : kindB n = true) : (k == n) = false := by
  have : k ≠ n := fun e => by rw [e, hn] at h; cases h
  simpa using this
set_option maxRecDepth 100000 in
set_option maxHeartbeats 6400000 in
theorem RName_no (k : Int) (hk : kindB k = false) (w : World) :
    Calls Tryd.prog 14 #[.int .i64 k] w fun e w' => e = .returned (.string (mk [])) ∧ w = w' := by
  have n100 := not_kind hk 100 (by decide)
  have n101 := not_kind hk 101 (by decide)
  have n102 := not_kind hk 102 (by decide)
  have n103 := not_kind hk 103 (by decide)
  have n104 := not_kind hk 104 (by decide)
  have n105 := not_kind hk 105 (by decide)
  have n107 := not_kind hk 107 (by decide)
  have n108 := not_kind hk 108 (by decide)
  have n109 := not_kind hk 109 (by decide)
  have n110 := not_kind hk 110 (by decide)
  have n111 := not_kind hk 111 (by decide)
  have n112 := not_kind hk 112 (by decide)
  have n113 := not_kind hk 113 (by decide)
  have n114 := not_kind hk 114 (by decide)
  have n115 := not_kind hk 115 (by decide)
  have n116 := not_kind hk 116 (by decide)
  have n117 := not_kind hk 117 (by decide)
  have n118 := not_kind hk 118 (by decide)
  have n119 := not_kind hk 119 (by decide)
  have n120 := not_kind hk 120 (by decide)
  have n121 := not_kind hk 121 (by decide)
  have n122 := not_kind hk 122 (by decide)
  have n123 := not_kind hk 123 (by decide)
  have n124 := not_kind hk 124 (by decide)
  have n125 := not_kind hk 125 (by decide)
  have n126 := not_kind hk 126 (by decide)
  have n127 := not_kind hk 127 (by decide)
  have n128 := not_kind hk 128 (by decide)
  have n129 := not_kind hk 129 (by decide)
  have n130 := not_kind hk 130 (by decide)
  have n131 := not_kind hk 131 (by decide)
  clear hk
  have hL : Calls Tryd.prog 38 #[.int .i64 k] w fun e w' => e = .returned (.string (mk [])) ∧ w = w' := by
    go_enter Tryd.func38, Tryd.ntmps38
    go_wp2
    go_ret
    exact ⟨rfl, rfl⟩
  replace hL := Lib.hid hL
  go_enter Tryd.func14, Tryd.ntmps14
  go_wp2_with (go_at_call 38; refine hL.out.mono ?_; rintro e w' ⟨rfl, rfl⟩)
  go_ret
  exact ⟨rfl, rfl⟩
set_option maxRecDepth 100000 in
set_option maxHeartbeats 6400000 in
theorem Rlate_yes (k : Int) (hk : k = 118 ∨ k = 119 ∨ k = 120 ∨ k = 121 ∨ k = 122 ∨ k = 123 ∨ k = 124 ∨ k = 125 ∨ k = 126 ∨ k = 127 ∨ k = 128 ∨ k = 129 ∨ k = 130 ∨ k = 131) (w : World) :
    Calls Tryd.prog 38 #[.int .i64 k] w fun e w' => e = .returned (.string (mk (nameK k))) ∧ w = w' := by
  rcases hk with rfl | rfl | rfl | rfl | rfl | rfl | rfl | rfl | rfl | rfl | rfl | rfl | rfl | rfl
  all_goals
    go_enter Tryd.func38, Tryd.ntmps38
    go_wp2
    go_ret
    exact ⟨rfl, rfl⟩
set_option maxRecDepth 100000 in
set_option maxHeartbeats 12800000 in
theorem RName_yes (k : Int) (hk : kindB k = true) (w : World) :
    Calls Tryd.prog 14 #[.int .i64 k] w fun e w' => e = .returned (.string (mk (nameK k))) ∧ w = w' := by
  rcases kinds hk with rfl | rfl | rfl | rfl | rfl | rfl | rfl | rfl | rfl | rfl | rfl | rfl | rfl | rfl | rfl | rfl | rfl | rfl | rfl | rfl | rfl | rfl | rfl | rfl | rfl | rfl | rfl | rfl | rfl | rfl | rfl
  all_goals clear hk
  all_goals have hL := Lib.hid (fun k hk => Rlate_yes k hk w)
  all_goals
    go_enter Tryd.func14, Tryd.ntmps14
    go_wp2_with (go_at_call 38; refine (hL.out _ (by decide)).mono ?_; rintro e w' ⟨rfl, rfl⟩)
    go_ret
    exact ⟨rfl, rfl⟩
theorem RName_any (k : Int) (w : World) :
    Calls Tryd.prog 14 #[.int .i64 k] w fun e w' => e = .returned (.string (mk (nameK k))) ∧ w = w' := by
  cases hk : kindB k
  · rw [nameK_nil.2 hk]; exact RName_no k hk w
  · exact RName_yes k hk w
/-- What the tests of a name come to. -/
theorem name_emp (k : Int) : ((mk (nameK k)).toList != []) = kindB k := by
  rw [mk_toList]
  cases hk : kindB k
  · rw [nameK_nil.2 hk]; rfl
  · have : nameK k ≠ [] := fun e => by rw [nameK_nil.1 e] at hk; cases hk
    simpa using this
set_option maxRecDepth 100000 in
set_option maxHeartbeats 3200000 in
theorem RRequest_any (k : Int) (w : World) :
    Calls Tryd.prog 16 #[.int .i64 k] w fun e w' => e = .returned (.bool (reqB k)) ∧ w = w' := by
  have hN := Lib.hid (RName_any k w)
  cases hk : kindB k
  · have he : (mk (nameK k)).toList = [] := by rw [mk_toList]; exact nameK_nil.2 hk
    have he2 : (mk (nameK k)).toList.isEmpty = true := by rw [he]; rfl
    have hR := Lib.hid (reqB_no hk)
    clear hk
    generalize mk (nameK k) = s at *
    go_enter Tryd.func16, Tryd.ntmps16
    go_wp2_with (go_at_call 14; refine hN.out.mono ?_; rintro e w' ⟨rfl, rfl⟩)
    go_ret
    rw [hR.out]
    exact ⟨rfl, rfl⟩
  · have he : (mk (nameK k)).toList ≠ [] := by rw [mk_toList]; exact fun e => by rw [nameK_nil.1 e] at hk; cases hk
    have he2 : (mk (nameK k)).toList.isEmpty = false := by simpa using he
    rcases kinds hk with rfl | rfl | rfl | rfl | rfl | rfl | rfl | rfl | rfl | rfl | rfl | rfl | rfl | rfl | rfl | rfl | rfl | rfl | rfl | rfl | rfl | rfl | rfl | rfl | rfl | rfl | rfl | rfl | rfl | rfl | rfl
    all_goals
      clear hk
      generalize mk (nameK _) = s at *
      go_enter Tryd.func16, Tryd.ntmps16
      go_wp2_with (go_at_call 14; refine hN.out.mono ?_; rintro e w' ⟨rfl, rfl⟩)
      go_ret
      exact ⟨rfl, rfl⟩
theorem RRequest_lit (k : Int) (b : Bool) (h : reqB k = b) (w : World) :
    Calls Tryd.prog 16 #[.int .i64 k] w fun e w' => e = .returned (.bool b) ∧ w = w' := by rw [← h]; exact RRequest_any k w
set_option maxHeartbeats 800000 in
theorem RReply_any (k : Int) (w : World) :
    Calls Tryd.prog 18 #[.int .i64 k] w fun e w' => e = .returned (.int .i64 (repI k)) ∧ w = w' := by
  cases hr : reqB k
  · have hK := Lib.hid (RRequest_lit _ _ hr w)
    have hR := Lib.hid (repI_no hr)
    clear hr
    go_enter Tryd.func18, Tryd.ntmps18
    go_wp2_with (go_at_call 16; refine hK.out.mono ?_; rintro e w' ⟨rfl, rfl⟩)
    go_ret
    rw [hR.out]
    exact ⟨rfl, rfl⟩
  · have hK := Lib.hid (RRequest_lit _ _ hr w)
    have hR := Lib.hid (repI_yes hr)
    obtain ⟨h1, h2⟩ := reqB_in hr
    clear hr
    go_enter Tryd.func18, Tryd.ntmps18
    go_wp2_with (go_at_call 16; refine hK.out.mono ?_; rintro e w' ⟨rfl, rfl⟩)
    go_ret
    rw [hR.out]
    exact ⟨rfl, rfl⟩
end Go.Proofs.YtlfdmbfbfadifaaDoor
