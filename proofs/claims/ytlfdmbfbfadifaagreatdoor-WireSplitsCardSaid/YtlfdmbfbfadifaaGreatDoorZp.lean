/-
  wire.Get.
-/
import Derived.Test.YtlfdmbfbfadifaaGreatDoorZk
import Derived.Test.YtlfdmbfbfadifaaGreatDoorWp
namespace Go.Proofs.YtlfdmbfbfadifaaGreatDoor
open Go.RowKit

theorem sizeR_bnd {l : List UInt8} {a : Int} (h : (sizeR l a).2 = 0) : 7 ≤ (sizeR l a).1 ∧ (sizeR l a).1 ≤ 8192 ∧ 0 ≤ a ∧ a + (sizeR l a).1 ≤ (l.length : Int) := by
  have hat := fun h => getR_at (l := l) (a := a) h
  revert h
  unfold sizeR
  split
  · rename_i h0; intro h; exact absurd h h0
  · rename_i h0
    have h0' : (getR l a 4).2.2 = 0 := by simpa using h0
    have := hat h0'
    split
    · intro h; cases h
    · split
      · intro h; cases h
      · split
        · intro h; cases h
        · intro _; dsimp only; refine ⟨by omega, by omega, by omega, by omega⟩
theorem bodyR_len {l : List UInt8} {a : Int} (h : (bodyR l a).2.2 = 0) : 3 ≤ (bodyR l a).1.length ∧ (bodyR l a).1.length ≤ 8188 := by
  have hb := sizeR_bnd (l := l) (a := a)
  revert h
  unfold bodyR
  split
  · rename_i h0; intro h; exact absurd h h0
  · rename_i h0
    have h0' : (sizeR l a).2 = 0 := by simpa using h0
    obtain ⟨h1, h2, h3, h4⟩ := hb h0'
    intro _
    unfold cut
    simp only [List.length_take, List.length_drop]
    omega
theorem getW_err {l : List UInt8} {a : Int} (h : (bodyR l a).2.2 ≠ 0) : getW l a = (noM, 0, (bodyR l a).2.2) := by
  revert h
  unfold bodyR getW
  split
  · rename_i h0; intro _; rfl
  · intro h; exact absurd rfl h
theorem getW_of {l : List UInt8} {a : Int} (h : (bodyR l a).2.2 = 0) : getW l a = if (getB (bodyR l a).1).2 ≠ 0 then (noM, 0, (getB (bodyR l a).1).2) else ((getB (bodyR l a).1).1, (bodyR l a).2.1, 0) := by
  revert h
  unfold bodyR getW
  split
  · rename_i h0; intro h; exact absurd h h0
  · rename_i h0; intro _; rfl
theorem getW_form {l : List UInt8} {a : Int} (h : (bodyR l a).2.2 = 0) (h1 : okR (bodyR l a).1 = false) : getW l a = (noM, 0, 2) := by
  have : getB (bodyR l a).1 = (noM, 2) := by unfold getB; rw [if_pos h1]
  rw [getW_of h, this]; rfl
theorem getW_check {l : List UInt8} {a : Int} (h : (bodyR l a).2.2 = 0) (h1 : okR (bodyR l a).1 = true) (h2 : checkM (rdAll (bodyR l a).1).1 ≠ 0) : getW l a = (noM, 0, checkM (rdAll (bodyR l a).1).1) := by
  have : getB (bodyR l a).1 = (noM, checkM (rdAll (bodyR l a).1).1) := by unfold getB; rw [if_neg (by simp [h1]), if_pos h2]
  rw [getW_of h, this, if_pos h2]
theorem getW_ok {l : List UInt8} {a : Int} (h : (bodyR l a).2.2 = 0) (h1 : okR (bodyR l a).1 = true) (h2 : checkM (rdAll (bodyR l a).1).1 = 0) : getW l a = ((rdAll (bodyR l a).1).1, (bodyR l a).2.1, 0) := by
  have : getB (bodyR l a).1 = ((rdAll (bodyR l a).1).1, 0) := by unfold getB; rw [if_neg (by simp [h1]), if_neg (by simp [h2])]
  rw [getW_of h, this]; rfl
theorem with_no : withV noM nilS nilS = noM := rfl

set_option maxHeartbeats 6400000 in
set_option maxRecDepth 100000 in
theorem Get_msg (l : List UInt8) (a : Int) (hl : l.length ≤ 1000000) (w : World) (g : G w) :
    Calls Tryz.prog 12 #[.string (mk l), .int .i64 a] w fun e W => ∃ v1 v2, e = .returned (.tuple #[msgV (withV (getW l a).1 v1 v2), .int .i64 (getW l a).2.1, .int .i64 (getW l a).2.2]) ∧ RowA (w.heap.size + 1) W (withV (getW l a).1 v1 v2) ∧ Below w.heap.size w W := by
  have hz := zero_msgW
  obtain ⟨W0, hW0, hB0, hK0⟩ : ∃ W, w.alloc (.cells (cellsB noM) 30) = W ∧ Below w.heap.size w W ∧ BlkM W w.heap.size noM := ⟨_, rfl, (Below.refl _ w).alloc (Nat.le_refl _) _, BlkM.new w noM⟩
  have hs0 := hK0.lt
  have hsW : Hid (w.heap.size + 1 ≤ W0.heap.size) := Lib.hid (by rw [← hW0]; simp)
  replace hW0 := Lib.hid hW0
  replace hB0 := Lib.hid hB0
  replace hK0 := Lib.hid hK0
  have HA := Lib.hid (fun W => bodyAt_any l a hl W)
  have HL := fun h => bodyR_len (l := l) (a := a) h
  have HE := Lib.hid (fun h => getW_err (l := l) (a := a) h)
  have HF := Lib.hid (fun h h1 => getW_form (l := l) (a := a) h h1)
  have HN := Lib.hid (fun h h1 h2 => getW_check (l := l) (a := a) h h1 h2)
  have HO := Lib.hid (fun h h1 h2 => getW_ok (l := l) (a := a) h h1 h2)
  have HD := fun h3 h W g => decode_msg (bodyR l a).1 h3 h W g
  have HI := fun h => rdAll_in (b := (bodyR l a).1) h
  have HG := Lib.hid g
  have HNR : Hid (∀ W, RowA (w.heap.size + 1) W (withV noM nilS nilS)) := Lib.hid fun W => fresh_row W noM_fresh
  clear g
  generalize getW l a = res at *
  generalize rdAll (bodyR l a).1 = ra at *
  generalize okR (bodyR l a).1 = ok at *
  generalize bodyR l a = br at *
  obtain ⟨bd, en, er⟩ := br
  obtain ⟨m, s⟩ := ra
  dsimp only at HA HL HE HF HN HO HD HI
  by_cases he : er = 0
  case neg =>
    have hr := Lib.hid (HE.out he)
    have hne : (er != 0) = true := by simpa using he
    clear HE HF HN HO HD HI HL he
    go_enter Tryz.func12, Tryz.ntmps12
    go_wp2_with (simp only [hz.out, hW0.out])
    refine (HA.out _).mono ?_
    rintro e W1 ⟨rfl, rfl⟩
    have HX := Lib.hid (hK0.out.setRow noM)
    go_wp2_with (refine wpList_store_row rfl 30 _ _ rfl w.heap.size (cellsB noM) rfl rfl 30 (cellsB noM) hK0.out (by kernel_rfl) rfl (cellsB_one noM rfl rfl) ?_)
    refine bodyPost_ret (results_msg3 rfl rfl HX.out) rfl ?_
    rw [hr.out]
    exact ⟨nilS, nilS, rfl, HNR.out _, below_setRow hB0.out (Nat.le_refl _) _⟩
  case pos =>
    subst he
    obtain ⟨h3, h4⟩ := HL rfl
    have HDD := Lib.hid (fun W g => HD h3 (by omega) W g)
    have HII := HI (by omega)
    have HC := Lib.hid (fun v1 v2 W hr g => withV_check m v1 v2 ▸ CheckM_any (withV m v1 v2) (withV_in v1 v2 HII) W hr g)
    clear HE HD HI HL h3 h4 HII
    cases ok
    case false =>
      have hr := Lib.hid (HF.out rfl rfl)
      clear HF HN HO HC
      go_enter Tryz.func12, Tryz.ntmps12
      go_wp2_with (simp only [hz.out, hW0.out])
      refine (HA.out _).mono ?_
      rintro e W1 ⟨rfl, rfl⟩
      go_wp2_with fail
      refine (HDD.out _ (HG.out.below hB0.out)).mono ?_
      rintro e W2 ⟨v1, v2, rfl, hRow2, hB2⟩
      have HB2 := hB0.out.trans (hB2.mono hB0.out.size)
      have HK2 := hK0.out.below hB2 hs0
      have HB3 := Lib.hid (HB2.alloc HB2.size (.cells (cellsB noM) 30))
      have HK3 := Lib.hid (HK2.alloc (.cells (cellsB noM) 30))
      have HX := Lib.hid (HK3.out.setRow noM)
      have hdm : Hid (msgV (decM false m v1 v2) = .agg (cellsB noM)) := Lib.hid rfl
      clear hRow2 hB2 HB2 HK2 HDD
      rw [hdm.out]
      go_wp2_with (first | (simp only [hz.out]) | (refine wpList_store_row rfl 30 _ _ rfl W2.heap.size (cellsB noM) rfl rfl 30 (cellsB noM) (heap_alloc_new W2 _) (by kernel_rfl) rfl (cellsB_one noM rfl rfl) ?_; rw [World.setRow_alloc_new]) | (refine wpList_store_row rfl 30 _ _ rfl w.heap.size (cellsB noM) rfl rfl 30 (cellsB noM) HK3.out (by kernel_rfl) rfl (cellsB_one noM rfl rfl) ?_))
      refine bodyPost_ret (results_msg3 rfl rfl HX.out) rfl ?_
      rw [hr.out]
      exact ⟨nilS, nilS, rfl, HNR.out _, below_setRow HB3.out (Nat.le_refl _) _⟩
    case true =>
      by_cases hck : checkM m = 0
      case pos =>
        have hr := Lib.hid (HO.out rfl rfl hck)
        rw [hck] at HC
        clear HF HN HO hck
        go_enter Tryz.func12, Tryz.ntmps12
        go_wp2_with (simp only [hz.out, hW0.out])
        refine (HA.out _).mono ?_
        rintro e W1 ⟨rfl, rfl⟩
        go_wp2_with fail
        refine (HDD.out _ (HG.out.below hB0.out)).mono ?_
        rintro e W2 ⟨v1, v2, rfl, hRow2, hB2⟩
        have HB2 := hB0.out.trans (hB2.mono hB0.out.size)
        have HK2 := hK0.out.below hB2 hs0
        have hdm : Hid (msgV (decM true m v1 v2) = .agg (cellsB (withV m v1 v2))) := Lib.hid rfl
        rw [hdm.out]
        have HCv := fun W h g => HC.out v1 v2 W h g
        have H1 := Lib.hid (cellsB_one _ hRow2.row.one.1 hRow2.row.one.2)
        obtain ⟨mm, hmm⟩ : ∃ mm, withV m v1 v2 = mm := ⟨_, rfl⟩
        rw [hmm] at hRow2 HCv H1 ⊢
        replace hmm := Lib.hid hmm
        have HB3 := Lib.hid (HB2.alloc HB2.size (.cells (cellsB mm) 30))
        have HK3 := Lib.hid (HK2.alloc (.cells (cellsB mm) 30))
        have HX3 := Lib.hid (BlkM.new W2 mm)
        have HR3 := Lib.hid ((hRow2.mono (Nat.le_succ_of_le hsW.out)).below ((Below.refl _ W2).alloc (Nat.le_refl _) (.cells (cellsB mm) 30)))
        have HCC := Lib.hid (HCv _ HR3.out.row (HG.out.below HB3.out))
        unfold msgV at HCC
        clear hRow2 hB2 HB2 HK2 HDD HCv HC hdm
        go_wp2_with (first | (simp only [hz.out]) | (refine wpList_store_row rfl 30 _ _ rfl W2.heap.size (cellsB mm) rfl rfl 30 (cellsB noM) (heap_alloc_new W2 _) (by kernel_rfl) rfl H1.out ?_; rw [World.setRow_alloc_new]) | (refine wpList_load_row rfl 30 _ rfl W2.heap.size rfl 30 (cellsB mm) (0, 0) _ HX3.out Tryz.underlying30 rfl (by kernel_rfl) ?_))
        refine HCC.out.mono ?_
        rintro e W4 ⟨rfl, hB4⟩
        have HB4 := Lib.hid (HB3.out.trans (hB4.mono HB3.out.size))
        have HK4 := Lib.hid (HK3.out.below hB4 HK3.out.lt)
        have HX4 := Lib.hid (HX3.out.below hB4 HX3.out.lt)
        have HR4 := Lib.hid (HR3.out.below hB4)
        have HX := Lib.hid (HK4.out.setRow mm)
        clear hB4
        go_wp2_with (first | (refine wpList_load_row rfl 30 _ rfl W2.heap.size rfl 30 (cellsB mm) (0, 0) _ HX4.out Tryz.underlying30 rfl (by kernel_rfl) ?_) | (refine wpList_store_row rfl 30 _ _ rfl w.heap.size (cellsB mm) rfl rfl 30 (cellsB noM) HK4.out (by kernel_rfl) rfl H1.out ?_))
        refine bodyPost_ret (results_msg3 rfl rfl HX.out) rfl ?_
        rw [hr.out]
        refine ⟨v1, v2, ?_, ?_, below_setRow HB4.out (Nat.le_refl _) _⟩
        · dsimp only; rw [hmm.out]; rfl
        · dsimp only; rw [hmm.out]; exact HR4.out.to (Nat.le_of_eq (setRow_size _ _ _).symm) (fun j hj _ => setRow_other _ _ _ _ (by omega))
      case neg =>
        have hr := Lib.hid (HN.out rfl rfl hck)
        have hne : (checkM m != 0) = true := by simpa using hck
        clear HF HN HO hck
        generalize checkM m = cx at *
        go_enter Tryz.func12, Tryz.ntmps12
        go_wp2_with (simp only [hz.out, hW0.out])
        refine (HA.out _).mono ?_
        rintro e W1 ⟨rfl, rfl⟩
        go_wp2_with fail
        refine (HDD.out _ (HG.out.below hB0.out)).mono ?_
        rintro e W2 ⟨v1, v2, rfl, hRow2, hB2⟩
        have HB2 := hB0.out.trans (hB2.mono hB0.out.size)
        have HK2 := hK0.out.below hB2 hs0
        have hdm : Hid (msgV (decM true m v1 v2) = .agg (cellsB (withV m v1 v2))) := Lib.hid rfl
        rw [hdm.out]
        have HCv := fun W h g => HC.out v1 v2 W h g
        have H1 := Lib.hid (cellsB_one _ hRow2.row.one.1 hRow2.row.one.2)
        obtain ⟨mm, hmm⟩ : ∃ mm, withV m v1 v2 = mm := ⟨_, rfl⟩
        rw [hmm] at hRow2 HCv H1 ⊢
        replace hmm := Lib.hid hmm
        have HB3 := Lib.hid (HB2.alloc HB2.size (.cells (cellsB mm) 30))
        have HK3 := Lib.hid (HK2.alloc (.cells (cellsB mm) 30))
        have HX3 := Lib.hid (BlkM.new W2 mm)
        have HR3 := Lib.hid ((hRow2.mono (Nat.le_succ_of_le hsW.out)).below ((Below.refl _ W2).alloc (Nat.le_refl _) (.cells (cellsB mm) 30)))
        have HCC := Lib.hid (HCv _ HR3.out.row (HG.out.below HB3.out))
        unfold msgV at HCC
        clear hRow2 hB2 HB2 HK2 HDD HCv HC hdm
        go_wp2_with (first | (simp only [hz.out]) | (refine wpList_store_row rfl 30 _ _ rfl W2.heap.size (cellsB mm) rfl rfl 30 (cellsB noM) (heap_alloc_new W2 _) (by kernel_rfl) rfl H1.out ?_; rw [World.setRow_alloc_new]) | (refine wpList_load_row rfl 30 _ rfl W2.heap.size rfl 30 (cellsB mm) (0, 0) _ HX3.out Tryz.underlying30 rfl (by kernel_rfl) ?_))
        refine HCC.out.mono ?_
        rintro e W4 ⟨rfl, hB4⟩
        have HB4 := Lib.hid (HB3.out.trans (hB4.mono HB3.out.size))
        have HK4 := Lib.hid (HK3.out.below hB4 HK3.out.lt)
        have HX4 := Lib.hid (HX3.out.below hB4 HX3.out.lt)
        have HR4 := Lib.hid (HR3.out.below hB4)
        have HX := Lib.hid (HK4.out.setRow noM)
        clear hB4
        go_wp2_with (refine wpList_store_row rfl 30 _ _ rfl w.heap.size (cellsB noM) rfl rfl 30 (cellsB noM) HK4.out (by kernel_rfl) rfl (cellsB_one noM rfl rfl) ?_)
        refine bodyPost_ret (results_msg3 rfl rfl HX.out) rfl ?_
        rw [hr.out]
        exact ⟨nilS, nilS, rfl, HNR.out _, below_setRow HB4.out (Nat.le_refl _) _⟩
end Go.Proofs.YtlfdmbfbfadifaaGreatDoor
