/-
  The reference's Text and Find; package fault's At and the reference's.
-/
import Derived.Test.YtlfdmbfbfadifaaGreatDoorFb
namespace Go.Proofs.YtlfdmbfbfadifaaGreatDoor.Ft
open Go.RowKit

set_option maxRecDepth 100000 in
set_option maxHeartbeats 1600000 in
theorem texts_any (w : World) : Calls Tryz.prog 76 #[] w fun e w' => e = .returned (.slice (some ⟨w.heap.size, 0, none⟩) 60 60) ∧ w' = w.alloc (.cells (textsL.map sv).toArray 9) := by
  go_enter Tryz.func76, Tryz.ntmps76
  go_wp2
  go_ret
  exact ⟨rfl, rfl⟩

theorem textAt (w : World) {k : Nat} (hk : k < 60) : (w.alloc (.cells (textsL.map sv).toArray 9)).cell? ⟨w.heap.size, k, none⟩ = some (.string (mk (textsL.getD k []))) := by
  rw [cell_of_row _ _ k _ _ (0, 0) (heap_alloc_new w _)]
  have hl : textsL.length = 60 := rfl
  simp only [List.getElem?_toArray, List.getElem?_map]
  rw [List.getElem?_eq_getElem (by omega), List.getD_eq_getElem?_getD, List.getElem?_eq_getElem (by omega)]
  rfl

set_option maxRecDepth 100000 in
set_option maxHeartbeats 1600000 in
theorem RText_any (e : Int) (he : -9223372036854775808 ≤ e ∧ e ≤ 9223372036854775807) (w : World) :
    Calls Tryz.prog 48 #[.int .i64 e] w fun x w' => x = .returned (.string (mk (textL e))) ∧ Below w.heap.size w w' := by
  have R := Lib.hid (texts_any w)
  have HB := Lib.hid ((Below.refl w.heap.size w).alloc (Nat.le_refl _) (.cells (textsL.map sv).toArray 9))
  by_cases h1 : e < 1
  · rw [textL_out (.inl h1)]
    go_enter Tryz.func48, Tryz.ntmps48
    go_wp2
    go_ret
    exact ⟨rfl, Below.refl _ _⟩
  by_cases h2 : 59 < e
  · rw [textL_out (.inr h2)]
    go_enter Tryz.func48, Tryz.ntmps48
    go_wp2
    go_ret
    exact ⟨rfl, Below.refl _ _⟩
  · obtain ⟨k, hk⟩ : ∃ k : Nat, e = (k : Int) := ⟨e.toNat, by omega⟩
    subst hk
    have hc := textAt w (k := k) (by omega)
    have ht : textL (k : Int) = textsL.getD k [] := by unfold textL; rw [if_neg (by omega)]; rfl
    rw [← ht] at hc
    generalize textL (k : Int) = t at hc ⊢
    clear ht
    generalize hO : Obj.cells (textsL.map sv).toArray 9 = O at hc R HB
    clear hO
    go_enter Tryz.func48, Tryz.ntmps48
    go_wp2_with fail
    refine R.out.mono ?_
    rintro x w1 ⟨rfl, rfl⟩
    go_wp2_with fail
    go_ret
    exact ⟨rfl, HB.out⟩

set_option maxRecDepth 100000 in
set_option maxHeartbeats 1600000 in
theorem RFind_any (s : List UInt8) (w : World) :
    Calls Tryz.prog 80 #[.string (mk s)] w fun x w' => x = .returned (.tuple #[.int .i64 (findL s).1, .bool (findL s).2]) ∧ Below w.heap.size w w' := by
  have R := Lib.hid (texts_any w)
  have HB := Lib.hid ((Below.refl w.heap.size w).alloc (Nat.le_refl _) (.cells (textsL.map sv).toArray 9))
  have hc := fun k (hk : k < 60) => textAt w (k := k) hk
  generalize hO : Obj.cells (textsL.map sv).toArray 9 = O at hc R HB
  have HC := Lib.hid hc
  clear hO hc
  go_enter Tryz.func80, Tryz.ntmps80
  go_wp2_with fail
  refine R.out.mono ?_
  rintro x w1 ⟨rfl, rfl⟩
  go_wp2_with fail
  go_loop [5] (fun vi => ∃ k : Nat, k ≤ 59 ∧ vi = .int .i64 ((k : Int) + 1) ∧ Hid (findL s = findFrom s (k + 1) (59 - k))) (fun vi => 60 - (intOf vi).toNat)
  case atStart => exact ⟨0, by omega, rfl, rfl⟩
  case round =>
    obtain ⟨k, hk, rfl, HN⟩ := hrel
    by_cases hlt : k < 59
    · have hc := HC.out (k + 1) (by omega)
      rw [← textL_in hlt] at hc
      by_cases hek : textL ((k : Int) + 1) = s
      · have hte := Lib.hid (HN.out.trans (findFrom_hit s k hlt hek))
        have hq : ((mk (textL ((k : Int) + 1))).toList == (mk s).toList) = true := by rw [hek]; simp
        clear hek
        generalize textL ((k : Int) + 1) = t at hc hq
        go_wp2
        go_ret2
        rw [hte.out]
        exact ⟨rfl, HB.out⟩
      · have hq : ((mk (textL ((k : Int) + 1))).toList == (mk s).toList) = false := by rw [mk_toList, mk_toList]; simpa using hek
        have hno' := Lib.hid (HN.out.trans (findFrom_miss s k hlt hek))
        clear hek
        generalize textL ((k : Int) + 1) = t at hc hq
        go_wp2
        exact ⟨⟨k + 1, by omega, by go_num, hno'⟩, by simp [intOf]; omega⟩
    · have hk' : k = 59 := by omega
      have hte : Hid (findL s = (0, false)) := Lib.hid (HN.out.trans (by rw [hk']; rfl))
      clear hk'
      go_wp2
      go_ret2
      rw [hte.out]
      exact ⟨rfl, HB.out⟩
end Go.Proofs.YtlfdmbfbfadifaaGreatDoor.Ft
