/-
  Walks: WireOnly.
-/
import Derived.Test.YtlfdmbfbfadifaaDoorZt
import Derived.Test.YtlfdmbfbfadifaaDoorVa
namespace Go.Proofs.YtlfdmbfbfadifaaDoor
open Go.RowKit

theorem getW_fail {l : List UInt8} {a : Int} (h : (getW l a).2.2 ≠ 0) : getW l a = (noM, 0, (getW l a).2.2) := by
  revert h
  unfold getW
  split
  · intro _; rfl
  · split
    · intro _; rfl
    · intro h; exact absurd rfl h
theorem getW_in {l : List UInt8} {a : Int} (h : (getW l a).2.2 = 0) : inM (getW l a).1 := by
  by_cases h0 : (bodyR l a).2.2 = 0
  · cases h1 : okR (bodyR l a).1 with
    | false => rw [getW_form h0 h1] at h; exact absurd h (by show ¬ ((2 : Int) = 0); decide)
    | true =>
      by_cases h2 : checkM (rdAll (bodyR l a).1).1 = 0
      · rw [getW_ok h0 h1 h2]; exact rdAll_in (by have := bodyR_len h0; omega)
      · rw [getW_check h0 h1 h2] at h; exact absurd h h2
  · rw [getW_err h0] at h; exact absurd h h0
theorem withV_put (m : MM) (v1 v2 : Value) : putW (withV m v1 v2) = putW m := rfl

set_option maxRecDepth 100000 in
set_option maxHeartbeats 6400000 in
theorem wireOnly_walk (s : ByteArray) (a : Int) (hs : s.size ≤ maxLen) (_ha : inI a) (w : World) (g : G w) :
    Calls Tryd.prog 11 #[.string s, .int .i64 a] w fun e w' => e = .returned (.bool true) ∧ Below w.heap.size w w' := by
  have hA := Lib.hid (fun W (h : Below w.heap.size w W) => alive_any W (g.below h))
  have hz := zero_msgW
  unfold maxLen at hs
  by_cases hbig : 20000 < s.size
  · clear hz
    go_enter Tryd.func11, Tryd.ntmps11
    go_wp2_with fail
    refine (hA.out _ (Below.refl _ w)).mono ?_
    rintro e W2 ⟨rfl, hB2⟩
    go_wp2
    go_ret
    exact ⟨rfl, hB2⟩
  obtain ⟨l, rfl⟩ : ∃ l, s = mk l := ⟨_, (mk_of s).symm⟩
  have hsz := mk_size l
  have hG := Get_msg l a (by omega) w g
  have hdb : decide ((20000 : Int) < ((mk l).size : Int)) = false := decide_eq_false (by omega)
  by_cases he : (getW l a).2.2 = 0
  case neg =>
    have hf := getW_fail he
    have hne : ((getW l a).2.2 != 0) = true := by simpa using he
    generalize (getW l a).2.2 = er at *
    rw [hf] at hG
    dsimp only at hG
    replace hG := Lib.hid hG
    replace hsz := Lib.hid hsz
    clear hf he g
    go_enter Tryd.func11, Tryd.ntmps11
    go_wp2_with fail
    refine hG.out.mono ?_
    rintro e W1 ⟨v1, v2, rfl, hRow, hB1⟩
    have H1 := Lib.hid (cellsB_one _ hRow.row.one.1 hRow.row.one.2)
    obtain ⟨mm, hmm⟩ : ∃ mm, withV noM v1 v2 = mm := ⟨_, rfl⟩
    rw [hmm] at H1
    have hmv : Hid (msgV (withV noM v1 v2) = .agg (cellsB mm)) := Lib.hid (by rw [hmm]; rfl)
    rw [hmv.out]
    have HB1 := Lib.hid (hB1.alloc hB1.size (.cells (cellsB mm) 35))
    clear hRow hB1 hmm hmv
    go_wp2_with (first | (simp only [hz.out]) | (refine wpList_store_row rfl 35 _ _ rfl W1.heap.size (cellsB mm) rfl rfl 35 (cellsB noM) (heap_alloc_new W1 _) (by kernel_rfl) rfl H1.out ?_; rw [World.setRow_alloc_new]))
    refine (hA.out _ HB1.out).mono ?_
    rintro e W2 ⟨rfl, hB2⟩
    have HB2 := Lib.hid (HB1.out.trans (hB2.mono HB1.out.size))
    clear hB2
    go_wp2
    go_ret
    exact ⟨rfl, HB2.out⟩
  case pos =>
    have hin := getW_in he
    rcases hg : getW l a with ⟨m, x, er⟩
    rw [hg] at hG he hin
    dsimp only at hG he hin
    subst he
    obtain ⟨n, k, rfl, rfl, hl, hp⟩ := put_of_get hg
    have e6 := mk_slice l n k
    have hP := Lib.hid (fun v1 v2 W hr g => withV_put m v1 v2 ▸ Put_msg (withV m v1 v2) (withV_in v1 v2 hin) W hr g)
    rw [hp] at hP
    have HG := Lib.hid g
    replace hG := Lib.hid hG
    have b1 : n + k ≤ (mk l).size := by omega
    have b2 : (n : Int) + (k : Int) ≤ ((mk l).size : Int) := by omega
    have e3 : ((n : Int) + (k : Int)).toNat = n + k := by omega
    have d1 : decide (((n : Int) + (k : Int)) < (n : Int)) = false := decide_eq_false (by omega)
    have d2 : decide (((mk l).size : Int) < ((n : Int) + (k : Int))) = false := decide_eq_false (by omega)
    replace hsz := Lib.hid hsz
    clear hg hin hp g
    generalize mk (cut l n k) = c at *
    have hcc : (c.toList == c.toList) = true := by simp
    go_enter Tryd.func11, Tryd.ntmps11
    go_wp2_with fail
    refine hG.out.mono ?_
    rintro e W1 ⟨v1, v2, rfl, hRow, hB1⟩
    have H1 := Lib.hid (cellsB_one _ hRow.row.one.1 hRow.row.one.2)
    have hPv := hP.out v1 v2
    have hmv : Hid (msgV (withV m v1 v2) = .agg (cellsB (withV m v1 v2))) := Lib.hid rfl
    rw [hmv.out]
    obtain ⟨mm, hmm⟩ : ∃ mm, withV m v1 v2 = mm := ⟨_, rfl⟩
    rw [hmm] at H1 hPv hRow ⊢
    have HB1 := Lib.hid (hB1.alloc hB1.size (.cells (cellsB mm) 35))
    have HK1 := Lib.hid (BlkM.new W1 mm)
    have HR1 := Lib.hid ((hRow.row).below ((Below.refl _ W1).alloc (Nat.le_refl _) (.cells (cellsB mm) 35)))
    have HP := Lib.hid (hPv _ HR1.out (HG.out.below HB1.out))
    unfold msgV at HP
    clear hRow hB1 hmm hmv hPv
    go_wp2_with (first | (simp only [hz.out]) | (refine wpList_store_row rfl 35 _ _ rfl W1.heap.size (cellsB mm) rfl rfl 35 (cellsB noM) (heap_alloc_new W1 _) (by kernel_rfl) rfl H1.out ?_; rw [World.setRow_alloc_new]) | (refine wpList_load_row rfl 35 _ rfl W1.heap.size rfl 35 (cellsB mm) (0, 0) _ HK1.out Tryd.underlying35 rfl (by kernel_rfl) ?_))
    refine HP.out.mono ?_
    rintro e W2 ⟨rfl, hB2⟩
    have HB2 := Lib.hid (HB1.out.trans (hB2.mono HB1.out.size))
    clear hB2
    go_wp2_with fail
    refine (hA.out _ HB2.out).mono ?_
    rintro e W3 ⟨rfl, hB3⟩
    have HB3 := Lib.hid (HB2.out.trans (hB3.mono HB2.out.size))
    clear hB3
    go_wp2
    go_ret
    exact ⟨rfl, HB3.out⟩
end Go.Proofs.YtlfdmbfbfadifaaDoor
