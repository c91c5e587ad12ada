/-
  Walks: StatLists; the bytes of several descriptions, one after the other.
-/
import Derived.Test.YtinjnbcikoejkaaDoorTc
import Derived.Test.YtinjnbcikoejkaaDoorSt
import Derived.Test.YtinjnbcikoejkaaDoorSz
namespace Go.Proofs.YtinjnbcikoejkaaDoor
open Go.RowKit

set_option maxRecDepth 100000 in
set_option maxHeartbeats 6400000 in
theorem statLists_walk (s : ByteArray) (hs : s.size ≤ maxLen) (w : World) (g : G w) :
    Calls Tryd.prog 6 #[.string s] w fun e w' => e = .returned (.bool true) ∧ Below w.heap.size w w' := by
  unfold maxLen at hs
  have hA := Lib.hid (fun W (h : Below w.heap.size w W) => awake_any W (g.below h))
  by_cases h5 : 5000 < s.size
  · go_enter Tryd.func6, Tryd.ntmps6
    go_wp2_with fail
    refine (hA.out _ (Below.refl _ _)).mono ?_
    rintro e W2 ⟨rfl, hB2⟩
    have HB2 := Lib.hid hB2
    clear hB2
    go_wp2
    go_ret
    exact ⟨rfl, HB2.out⟩
  · obtain ⟨l, rfl⟩ : ∃ l, s = mk l := ⟨_, (mk_of s).symm⟩
    have hP := Lib.hid (fun W g => All_any l (by omega) W g)
    have hQ := Lib.hid (fun W => RAll_any l (by omega) W)
    unfold AllPost at hP hQ
    have HG := Lib.hid g
    generalize allS l = res at *
    obtain ⟨L, er⟩ := res
    dsimp only at hP hQ
    have hee : (er == er) = true := by simp
    clear g
    go_enter Tryd.func6, Tryd.ntmps6
    go_wp2_with fail
    refine (hP.out _ HG.out).mono ?_
    rintro e W1 ⟨v1, rfl, hd1, hB1⟩
    have HB1 := Lib.hid hB1
    have HD1 := Lib.hid hd1
    clear hB1 hd1 hP
    go_wp2_with fail
    refine (hQ.out _).mono ?_
    rintro e W2 ⟨v2, rfl, hd2, hB2⟩
    have HB2 := Lib.hid (HB1.out.trans (hB2.mono HB1.out.size))
    have HE := Lib.hid (equal_any v1 v2 L W2 (HD1.out.below hB2) hd2)
    clear hB2 hd2 hQ
    go_wp2_with fail
    refine HE.out.mono ?_
    rintro e W3 ⟨rfl, hB3⟩
    have HB3 := Lib.hid (HB2.out.trans (hB3.mono HB2.out.size))
    clear hB3 HE
    go_wp2_with fail
    refine (hA.out _ HB3.out).mono ?_
    rintro e W4 ⟨rfl, hB4⟩
    have HB4 := Lib.hid (HB3.out.trans (hB4.mono HB3.out.size))
    clear hB4
    go_wp2
    go_ret
    exact ⟨rfl, HB4.out⟩

/-! ### The bytes of several descriptions -/
def joinL (L : List DD) : List UInt8 := L.flatMap fun d => (putS d).1
theorem putS_pos {d : DD} (h : checkR d = 0) : 2 ≤ (putS d).1.length := by
  have e : (putS d).1 = counted (body d) := by unfold putS; rw [if_pos h]
  rw [e, counted_len]; omega
theorem joinL_len {L : List DD} (h : ∀ d ∈ L, checkR d = 0) : L.length ≤ (joinL L).length := by
  induction L with
  | nil => simp
  | cons d L ih =>
    have := putS_pos (h d (by simp))
    have := ih (fun x hx => h x (by simp [hx]))
    rw [joinL, List.flatMap_cons, List.length_append, List.length_cons]
    simp only [joinL] at this
    omega
theorem goS_join : ∀ (R : List DD) (p : List UInt8) (acc : List DD) (n : Nat), (∀ d ∈ R, checkR d = 0) → R.length < n → goS (p ++ joinL R) n acc p.length = (acc ++ R, 0)
  | [], p, acc, n, _, _ => by
    rw [goS_end (by simp [joinL])]; simp
  | d :: R, p, acc, n, h, hn => by
    have hd := h d (by simp)
    have e : p ++ joinL (d :: R) = p ++ ((putS d).1 ++ joinL R) := by rw [joinL, List.flatMap_cons]; rfl
    have hp := putS_pos hd
    rw [e, goS_step (by omega) (by rw [List.length_append, List.length_append]; omega) (get_put hd p (joinL R)), Int.toNat_natCast]
    have ih := goS_join R (p ++ (putS d).1) (acc ++ [d]) (n - 1) (fun x hx => h x (by simp [hx])) (by simp at hn; omega)
    rw [List.length_append, List.append_assoc] at ih
    rw [ih]
    simp
theorem allS_join {L : List DD} (h : ∀ d ∈ L, checkR d = 0) : allS (joinL L) = (L, 0) := by
  have := goS_join L [] [] ((joinL L).length + 1) h (by have := joinL_len h; omega)
  simpa [allS] using this
theorem joinL_snoc (L : List DD) (k : Nat) (hk : k < L.length) : joinL (L.take (k + 1)) = joinL (L.take k) ++ (putS (atD L k)).1 := by
  rw [List.take_succ_eq_append_getElem hk, joinL, List.flatMap_append]
  congr 1
  simp [atD, hk]
theorem all_mem {L : List DD} (h : ∀ j, j < L.length → checkR (atD L j) = 0) : ∀ d ∈ L, checkR d = 0 := fun d hd => by
  obtain ⟨j, hj, rfl⟩ := List.getElem_of_mem hd
  have := h j hj
  simpa [atD, hj] using this
end Go.Proofs.YtinjnbcikoejkaaDoor
