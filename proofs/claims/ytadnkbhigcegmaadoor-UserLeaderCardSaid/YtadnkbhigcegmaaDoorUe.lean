/-
  Find of the reference; Member, Leads of the reference.
-/
import Derived.Test.YtadnkbhigcegmaaDoorUd
namespace Go.Proofs.YtadnkbhigcegmaaDoor
open Go.RowKit

set_option maxHeartbeats 1600000 in
theorem RFind_any (v : Value) (L : List U) (x : List UInt8) (w : World) (h : URow w v L) (hl : L.length ≤ 100000) :
    Calls Tryd.prog 19 #[v, .string (mk x)] w fun e w' => ∃ mv, e = .returned (.tuple #[.agg #[.string (mk (findL L x).n), .string (mk (findL L x).l), mv], .bool (hasL L x)]) ∧ SRow w mv (findL L x).m ∧ Below w.heap.size w w' := by
  have HU := Lib.hid h
  have hB0 : Below w.heap.size w (w.alloc (.cells #[.string ⟨#[]⟩, .string ⟨#[]⟩, .slice none 0 0] 32)) := (Below.refl _ w).alloc (Nat.le_refl _) _
  have HB0 := Lib.hid hB0
  have A := at_any v L x _ (h.below hB0) hl
  have HX := Lib.hid (heap_alloc_new w (.cells #[.string ⟨#[]⟩, .string ⟨#[]⟩, .slice none 0 0] 32 (0, 0)))
  by_cases hh : hasL L x = true
  · have hlt : atL L x < L.length := by unfold hasL at hh; simpa using hh
    rw [if_pos hh] at A
    have HA := Lib.hid A
    have HH := Lib.hid hh
    have HF : Hid (findL L x = getL L (atL L x)) := rfl
    generalize findL L x = u at HF ⊢
    generalize hasL L x = r at HH ⊢
    clear A hh hB0
    generalize atL L x = k at hlt HA HF
    obtain ⟨b, o, cap, q, c, rfl, hb, hcl, c0, c1, c2, hqc, hs⟩ := h.at_ (Below.refl _ _) hlt
    have HS := Lib.hid hs
    clear hs h
    generalize hu : getL L k = uk at c0 c1 c2 hqc HS HF
    clear hu
    obtain ⟨un, ul, um⟩ := uk
    go_enter Tryd.func19, Tryd.ntmps19
    go_wp2_with (go_at_call 39; refine HA.out.mono ?_; rintro e w' ⟨rfl, rfl⟩)
    refine bodyPost_ret (results_user rfl rfl (heap_alloc_new w _)) rfl ?_
    rw [HF.out, HH.out]
    exact ⟨_, rfl, HS.out, (Below.refl _ w).alloc (Nat.le_refl _) _⟩
  · have hlt : atL L x = L.length := by
      unfold hasL at hh
      have := atL_le L x
      simp at hh
      omega
    have hh : hasL L x = false := by simpa using hh
    rw [hh] at A
    have HA := Lib.hid A
    have HF : Hid (findL L x = U0) := by rw [Hid, findL, hlt, getL_out]
    have HH := Lib.hid hh
    generalize findL L x = u at HF ⊢
    generalize hasL L x = r at HH ⊢
    clear A hh hlt hB0 h
    go_enter Tryd.func19, Tryd.ntmps19
    go_wp2_with (go_at_call 39; refine HA.out.mono ?_; rintro e w' ⟨rfl, rfl⟩)
    refine bodyPost_ret (results_user rfl rfl (heap_alloc_new w _)) rfl ?_
    rw [HF.out, HH.out]
    exact ⟨_, rfl, SRow.nil_ _, (Below.refl _ w).alloc (Nat.le_refl _) _⟩
end Go.Proofs.YtadnkbhigcegmaaDoor
