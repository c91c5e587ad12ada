/-
  Replies; the reference: requests and replies.
-/
import Derived.Test.YtlfdmbfbfadifaaDoorWp
namespace Go.Proofs.YtlfdmbfbfadifaaDoor
open Go.RowKit

set_option maxHeartbeats 800000 in
theorem Reply_any (k : Int) (w : World) :
    Calls Tryd.prog 17 #[.int .i64 k] w fun e w' => e = .returned (.int .i64 (repI k)) ∧ w = w' := by
  cases hr : reqB k
  · have hK := Lib.hid (Request_lit _ _ hr w)
    have hR := Lib.hid (repI_no hr)
    clear hr
    go_enter Tryd.func17, Tryd.ntmps17
    go_wp2_with (go_at_call 15; refine hK.out.mono ?_; rintro e w' ⟨rfl, rfl⟩)
    go_ret
    rw [hR.out]
    exact ⟨rfl, rfl⟩
  · have hK := Lib.hid (Request_lit _ _ hr w)
    have hR := Lib.hid (repI_yes hr)
    obtain ⟨h1, h2⟩ := reqB_in hr
    clear hr
    go_enter Tryd.func17, Tryd.ntmps17
    go_wp2_with (go_at_call 15; refine hK.out.mono ?_; rintro e w' ⟨rfl, rfl⟩)
    go_ret
    rw [hR.out]
    exact ⟨rfl, rfl⟩

set_option maxRecDepth 100000 in
set_option maxHeartbeats 3200000 in
theorem RRequest_any (k : Int) (w : World) :
    Calls Tryd.prog 16 #[.int .i64 k] w fun e w' => e = .returned (.bool (reqB k)) ∧ w = w' := by
  have hN := Lib.hid (RName_any k w)
  cases hk : kindB k
  · have he : (mk (nameK k)).toList = [] := by rw [mk_toList]; exact nameK_nil.2 hk
    have he2 : (mk (nameK k)).toList.isEmpty = true := by rw [he]; rfl
    have hR := Lib.hid (reqB_no hk)
    clear hk
    generalize mk (nameK k) = s at *
    go_enter Tryd.func16, Tryd.ntmps16
    go_wp2_with (go_at_call 14; refine hN.out.mono ?_; rintro e w' ⟨rfl, rfl⟩)
    go_ret
    rw [hR.out]
    exact ⟨rfl, rfl⟩
  · have he : (mk (nameK k)).toList ≠ [] := by rw [mk_toList]; exact fun e => by rw [nameK_nil.1 e] at hk; cases hk
    have he2 : (mk (nameK k)).toList.isEmpty = false := by simpa using he
    rcases kinds hk with rfl | rfl | rfl | rfl | rfl | rfl | rfl | rfl | rfl | rfl | rfl | rfl | rfl | rfl | rfl | rfl | rfl | rfl | rfl | rfl | rfl | rfl | rfl | rfl | rfl | rfl | rfl | rfl | rfl | rfl | rfl
    all_goals
      clear hk
      generalize mk (nameK _) = s at *
      go_enter Tryd.func16, Tryd.ntmps16
      go_wp2_with (go_at_call 14; refine hN.out.mono ?_; rintro e w' ⟨rfl, rfl⟩)
      go_ret
      exact ⟨rfl, rfl⟩
theorem RRequest_lit (k : Int) (b : Bool) (h : reqB k = b) (w : World) :
    Calls Tryd.prog 16 #[.int .i64 k] w fun e w' => e = .returned (.bool b) ∧ w = w' := by rw [← h]; exact RRequest_any k w
set_option maxHeartbeats 800000 in
theorem RReply_any (k : Int) (w : World) :
    Calls Tryd.prog 18 #[.int .i64 k] w fun e w' => e = .returned (.int .i64 (repI k)) ∧ w = w' := by
  cases hr : reqB k
  · have hK := Lib.hid (RRequest_lit _ _ hr w)
    have hR := Lib.hid (repI_no hr)
    clear hr
    go_enter Tryd.func18, Tryd.ntmps18
    go_wp2_with (go_at_call 16; refine hK.out.mono ?_; rintro e w' ⟨rfl, rfl⟩)
    go_ret
    rw [hR.out]
    exact ⟨rfl, rfl⟩
  · have hK := Lib.hid (RRequest_lit _ _ hr w)
    have hR := Lib.hid (repI_yes hr)
    obtain ⟨h1, h2⟩ := reqB_in hr
    clear hr
    go_enter Tryd.func18, Tryd.ntmps18
    go_wp2_with (go_at_call 16; refine hK.out.mono ?_; rintro e w' ⟨rfl, rfl⟩)
    go_ret
    rw [hR.out]
    exact ⟨rfl, rfl⟩
end Go.Proofs.YtlfdmbfbfadifaaDoor
