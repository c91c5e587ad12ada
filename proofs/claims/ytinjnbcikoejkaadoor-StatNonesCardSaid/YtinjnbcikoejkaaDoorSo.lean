/-
  Walks: Get, package stat's.
-/
import Derived.Test.YtinjnbcikoejkaaDoorSn
namespace Go.Proofs.YtinjnbcikoejkaaDoor
open Go.RowKit

theorem results_dir3 {fn : Func} {p u v b : Nat} {d : DD} {w : World} {tmps : Array Value} (h : fn.results = #[.cell p 25, .tmp u, .tmp v]) (hp : tmps.getD p undef = .pointer (some ⟨b, 0, none⟩)) (hb : BlkD w b d) :
    (results fn tmps).run Tryd.prog w = .ok (.tuple #[dirV d, tmps.getD u undef, tmps.getD v undef]) w := by
  have ha : (asAddr (.pointer (some ⟨b, 0, none⟩))).run Tryd.prog w = .ok ⟨b, 0, none⟩ w := rfl
  have hp' : tmps[p]?.getD undef = .pointer (some ⟨b, 0, none⟩) := by simpa using hp
  simp only [results, h]
  simp [Sem.run_bind, Result.andThen, hp', ha, load_dir hb]

theorem inD_noD : inD noD := fun k hk => by
  rcases k9 hk with rfl | rfl | rfl | rfl | rfl | rfl | rfl | rfl | rfl <;> exact ⟨by decide, by decide⟩
theorem num_setN (d : DD) {k j : Nat} (hk : k < 9) (hj : j < 9) (v : Int) : num (setN d k v) j = if j = k then v else num d j := by
  rcases k9 hk with rfl | rfl | rfl | rfl | rfl | rfl | rfl | rfl | rfl <;> (rcases k9 hj with rfl | rfl | rfl | rfl | rfl | rfl | rfl | rfl | rfl <;> rfl)
theorem num_setT (d : DD) {k j : Nat} (hk : k < 4) (hj : j < 9) (x : List UInt8) : num (setT d k x) j = num d j := by
  rcases k4 hk with rfl | rfl | rfl | rfl <;> (rcases k9 hj with rfl | rfl | rfl | rfl | rfl | rfl | rfl | rfl | rfl <;> rfl)
theorem txt_setT (d : DD) {k j : Nat} (hk : k < 4) (hj : j < 4) (x : List UInt8) : txt (setT d k x) j = if j = k then x else txt d j := by
  rcases k4 hk with rfl | rfl | rfl | rfl <;> (rcases k4 hj with rfl | rfl | rfl | rfl <;> rfl)
theorem txt_setN (d : DD) {k j : Nat} (hk : k < 9) (hj : j < 4) (v : Int) : txt (setN d k v) j = txt d j := by
  rcases k9 hk with rfl | rfl | rfl | rfl | rfl | rfl | rfl | rfl | rfl <;> (rcases k4 hj with rfl | rfl | rfl | rfl <;> rfl)
theorem numP_in (l : List UInt8) : inI (numP l) := by
  unfold numP
  split
  · exact ⟨by decide, by decide⟩
  · split
    · exact ⟨by decide, by decide⟩
    · exact ⟨by omega, by omega⟩
theorem decN_in (b : List UInt8) (k : Nat) (hk : k ≤ 9) : inD (decN numP b k) := by
  induction k with
  | zero => exact inD_noD
  | succ k ih =>
    intro j hj
    rw [decN, num_setN _ (by omega) hj]
    split
    · exact numP_in _
    · exact ih (by omega) j hj
theorem decN_txt (f : List UInt8 → Int) (b : List UInt8) (k : Nat) (hk : k ≤ 9) {j : Nat} (hj : j < 4) : txt (decN f b k) j = [] := by
  induction k with
  | zero => rcases k4 hj with rfl | rfl | rfl | rfl <;> rfl
  | succ k ih => rw [decN, txt_setN _ (by omega) hj]; exact ih (by omega)
theorem decT_in (b : List UInt8) (hb : b.length ≤ maxLen) : ∀ (k : Nat) (d : DD) (a : Nat), k ≤ 4 → decT numP b k = some (d, a) → inD d ∧ bigD d
  | 0, d, a, _, h => by
    simp only [decT, Option.some.injEq, Prod.mk.injEq] at h
    obtain ⟨rfl, _⟩ := h
    exact ⟨decN_in b 9 (by omega), fun j hj => by rw [decN_txt numP b 9 (by omega) hj]; exact Nat.zero_le _⟩
  | k + 1, d, a, hk, h => by
    rw [decT] at h
    rcases h1 : decT numP b k with _ | ⟨d', a'⟩
    · rw [h1] at h; cases h
    · rw [h1] at h
      simp only at h
      rcases h2 : textAt b a' with _ | ⟨t, c⟩
      · rw [h2] at h; cases h
      · rw [h2] at h
        simp only [Option.some.injEq, Prod.mk.injEq] at h
        obtain ⟨rfl, rfl⟩ := h
        obtain ⟨i1, i2⟩ := decT_in b hb k d' a' (by omega) h1
        have hl := (textAt_le h2).2.2
        exact ⟨fun j hj => by rw [num_setT _ (by omega) hj]; exact i1 j hj, fun j hj => by
          rw [txt_setT _ (by omega) hj]
          split
          · omega
          · exact i2 j hj⟩
theorem bigD_noD : bigD noD := fun j hj => by rcases k4 hj with rfl | rfl | rfl | rfl <;> exact Nat.zero_le _
theorem decX_in (b : List UInt8) (hb : b.length ≤ maxLen) : inD (decX numP b).1 ∧ bigD (decX numP b).1 := by
  unfold decX
  split
  · exact ⟨inD_noD, bigD_noD⟩
  · rcases h : decT numP b 4 with _ | ⟨d, a⟩
    · exact ⟨inD_noD, bigD_noD⟩
    · exact decT_in b hb 4 d a (by omega) h
theorem getTextR_le (l : List UInt8) (a : Int) : (getTextR l a).1.length ≤ l.length := by
  unfold getTextR
  split
  · simp
  · split
    · simp
    · simp only [List.length_take, List.length_drop]; omega
theorem getS_err {f : List UInt8 → Int} {l : List UInt8} {a : Int} (h : (getTextR l a).2.2 ≠ 0) : getS f l a = (noD, 0, (getTextR l a).2.2) := by
  unfold getS; rw [if_pos h]
theorem getS_form {f : List UInt8 → Int} {l : List UInt8} {a : Int} (h : (getTextR l a).2.2 = 0) (h2 : (decX f (getTextR l a).1).2 = false) : getS f l a = (noD, 0, 2) := by
  unfold getS; rw [if_neg (by simp [h]), if_pos h2]
theorem getS_check {f : List UInt8 → Int} {l : List UInt8} {a : Int} (h : (getTextR l a).2.2 = 0) (h2 : (decX f (getTextR l a).1).2 = true) (h3 : checkR (decX f (getTextR l a).1).1 ≠ 0) : getS f l a = (noD, 0, checkR (decX f (getTextR l a).1).1) := by
  unfold getS; rw [if_neg (by simp [h]), if_neg (by simp [h2]), if_pos h3]
theorem getS_ok {f : List UInt8 → Int} {l : List UInt8} {a : Int} (h : (getTextR l a).2.2 = 0) (h2 : (decX f (getTextR l a).1).2 = true) (h3 : checkR (decX f (getTextR l a).1).1 = 0) : getS f l a = ((decX f (getTextR l a).1).1, (getTextR l a).2.1, 0) := by
  unfold getS; rw [if_neg (by simp [h]), if_neg (by simp [h2]), if_neg (by simp [h3])]

set_option maxRecDepth 100000 in
set_option maxHeartbeats 6400000 in
theorem Get_dir (l : List UInt8) (a : Int) (hl : l.length ≤ 1000000) (w : World) (g : G w) :
    Calls Tryd.prog 16 #[.string (mk l), .int .i64 a] w fun e w' => e = .returned (.tuple #[dirV (getS numP l a).1, .int .i64 (getS numP l a).2.1, .int .i64 (getS numP l a).2.2]) ∧ Below w.heap.size w w' := by
  have hz := Lib.hid zero_dir
  have hB0 : Below w.heap.size w (w.alloc (.cells (cellsA noD) 25)) := (Below.refl _ w).alloc (Nat.le_refl _) _
  have hK0 := BlkD.new w noD
  have hsz : w.heap.size < (w.alloc (.cells (cellsA noD) 25)).heap.size := by simp
  generalize hW : w.alloc (.cells (cellsA noD) 25) = W at hB0 hK0 hsz
  have hT := Lib.hid (GetTextM l a (by unfold maxLen; omega))
  have hle := getTextR_le l a
  have HD := Lib.hid (fun W g => decode_any (getTextR l a).1 (by omega) W g)
  have HI := decX_in (getTextR l a).1 (by unfold maxLen; omega)
  have HC := Lib.hid (fun W g => Check_any (decX numP (getTextR l a).1).1 HI.1 HI.2 W g)
  have HE := Lib.hid (fun h => getS_err (f := numP) (l := l) (a := a) h)
  have HF := Lib.hid (fun h h2 => getS_form (f := numP) (l := l) (a := a) h h2)
  have HN := Lib.hid (fun h h2 h3 => getS_check (f := numP) (l := l) (a := a) h h2 h3)
  have HO := Lib.hid (fun h h2 h3 => getS_ok (f := numP) (l := l) (a := a) h h2 h3)
  have HG := Lib.hid g
  replace hW := Lib.hid hW
  replace hB0 := Lib.hid hB0
  replace hK0 := Lib.hid hK0
  replace hsz := Lib.hid hsz
  clear hle HI g
  generalize getS numP l a = res at *
  generalize decX numP (getTextR l a).1 = dx at *
  generalize getTextR l a = gt at *
  obtain ⟨tx, nx, er⟩ := gt
  obtain ⟨x, ok⟩ := dx
  dsimp only at hT HD HC HE HF HN HO
  generalize checkR x = cx at *
  by_cases he : er = 0
  · subst he
    cases ok
    · have hr := Lib.hid (HF.out rfl rfl)
      clear HE HF HN HO HC
      go_enter Tryd.func16, Tryd.ntmps16
      go_wp2_with fail
      simp only [hz.out, hW.out]
      refine (hT.out _).mono ?_
      rintro e W1 ⟨rfl, hB1⟩
      have HB1 := Lib.hid (hB0.out.trans (hB1.mono hB0.out.size))
      have HK1 := Lib.hid (hK0.out.below hB1 hsz.out)
      clear hB1 hT
      go_wp2_with fail
      refine (HD.out _ (HG.out.below HB1.out)).mono ?_
      rintro e W2 ⟨rfl, hB2⟩
      have HB2 := HB1.out.trans (hB2.mono HB1.out.size)
      have HK2 := HK1.out.below hB2 HK1.out.lt
      have HB3 := Lib.hid (HB2.alloc HB2.size (.cells (cellsA x) 25))
      have HK3 := Lib.hid (HK2.alloc (.cells (cellsA x) 25))
      have HX3 := Lib.hid (BlkD.new W2 x)
      unfold dirV
      clear hB2 HD HB2 HK2
      have HX := Lib.hid (HK3.out.setRow noD)
      go_wp2_with (first | (refine wpList_store_row rfl 25 _ _ rfl W2.heap.size (cellsA x) rfl rfl 25 (cellsA noD) (heap_alloc_new W2 _) (by kernel_rfl) rfl (cellsA_one x) ?_; rw [World.setRow_alloc_new]) | (refine wpList_store_row rfl 25 _ _ rfl w.heap.size (cellsA noD) rfl rfl 25 (cellsA noD) HK3.out (by kernel_rfl) rfl (cellsA_one noD) ?_))
      refine bodyPost_ret (results_dir3 rfl rfl HX.out) rfl ?_
      rw [hr.out]
      exact ⟨rfl, below_setRow HB3.out (Nat.le_refl _) _⟩
    · by_cases hc : cx = 0
      · subst hc
        have hr := Lib.hid (HO.out rfl rfl rfl)
        clear HE HF HN HO
        go_enter Tryd.func16, Tryd.ntmps16
        go_wp2_with fail
        simp only [hz.out, hW.out]
        refine (hT.out _).mono ?_
        rintro e W1 ⟨rfl, hB1⟩
        have HB1 := Lib.hid (hB0.out.trans (hB1.mono hB0.out.size))
        have HK1 := Lib.hid (hK0.out.below hB1 hsz.out)
        clear hB1 hT
        go_wp2_with fail
        refine (HD.out _ (HG.out.below HB1.out)).mono ?_
        rintro e W2 ⟨rfl, hB2⟩
        have HB2 := HB1.out.trans (hB2.mono HB1.out.size)
        have HK2 := HK1.out.below hB2 HK1.out.lt
        have HB3 := Lib.hid (HB2.alloc HB2.size (.cells (cellsA x) 25))
        have HK3 := Lib.hid (HK2.alloc (.cells (cellsA x) 25))
        have HX3 := Lib.hid (BlkD.new W2 x)
        unfold dirV
        clear hB2 HD HB2 HK2
        go_wp2_with (first | (refine wpList_store_row rfl 25 _ _ rfl W2.heap.size (cellsA x) rfl rfl 25 (cellsA noD) (heap_alloc_new W2 _) (by kernel_rfl) rfl (cellsA_one x) ?_; rw [World.setRow_alloc_new]) | (refine wpList_load_row rfl 25 _ rfl W2.heap.size rfl 25 (cellsA x) (0, 0) _ HX3.out Tryd.underlying25 rfl (by kernel_rfl) ?_))
        refine (HC.out _ (HG.out.below HB3.out)).mono ?_
        rintro e W4 ⟨rfl, hB4⟩
        have HB4 := Lib.hid (HB3.out.trans (hB4.mono HB3.out.size))
        have HK4 := Lib.hid (HK3.out.below hB4 HK3.out.lt)
        have HX4 := Lib.hid (HX3.out.below hB4 HX3.out.lt)
        have HX := Lib.hid (HK4.out.setRow x)
        clear hB4 HC
        go_wp2_with (first | (refine wpList_load_row rfl 25 _ rfl W2.heap.size rfl 25 (cellsA x) (0, 0) _ HX4.out Tryd.underlying25 rfl (by kernel_rfl) ?_) | (refine wpList_store_row rfl 25 _ _ rfl w.heap.size (cellsA x) rfl rfl 25 (cellsA noD) HK4.out (by kernel_rfl) rfl (cellsA_one x) ?_))
        refine bodyPost_ret (results_dir3 rfl rfl HX.out) rfl ?_
        rw [hr.out]
        exact ⟨rfl, below_setRow HB4.out (Nat.le_refl _) _⟩
      · have hr := Lib.hid (HN.out rfl rfl hc)
        have hne : (cx != 0) = true := by simpa using hc
        clear HE HF HN HO hc
        go_enter Tryd.func16, Tryd.ntmps16
        go_wp2_with fail
        simp only [hz.out, hW.out]
        refine (hT.out _).mono ?_
        rintro e W1 ⟨rfl, hB1⟩
        have HB1 := Lib.hid (hB0.out.trans (hB1.mono hB0.out.size))
        have HK1 := Lib.hid (hK0.out.below hB1 hsz.out)
        clear hB1 hT
        go_wp2_with fail
        refine (HD.out _ (HG.out.below HB1.out)).mono ?_
        rintro e W2 ⟨rfl, hB2⟩
        have HB2 := HB1.out.trans (hB2.mono HB1.out.size)
        have HK2 := HK1.out.below hB2 HK1.out.lt
        have HB3 := Lib.hid (HB2.alloc HB2.size (.cells (cellsA x) 25))
        have HK3 := Lib.hid (HK2.alloc (.cells (cellsA x) 25))
        have HX3 := Lib.hid (BlkD.new W2 x)
        unfold dirV
        clear hB2 HD HB2 HK2
        go_wp2_with (first | (refine wpList_store_row rfl 25 _ _ rfl W2.heap.size (cellsA x) rfl rfl 25 (cellsA noD) (heap_alloc_new W2 _) (by kernel_rfl) rfl (cellsA_one x) ?_; rw [World.setRow_alloc_new]) | (refine wpList_load_row rfl 25 _ rfl W2.heap.size rfl 25 (cellsA x) (0, 0) _ HX3.out Tryd.underlying25 rfl (by kernel_rfl) ?_))
        refine (HC.out _ (HG.out.below HB3.out)).mono ?_
        rintro e W4 ⟨rfl, hB4⟩
        have HB4 := Lib.hid (HB3.out.trans (hB4.mono HB3.out.size))
        have HK4 := Lib.hid (HK3.out.below hB4 HK3.out.lt)
        have HX := Lib.hid (HK4.out.setRow noD)
        clear hB4 HC
        go_wp2_with (refine wpList_store_row rfl 25 _ _ rfl w.heap.size (cellsA noD) rfl rfl 25 (cellsA noD) HK4.out (by kernel_rfl) rfl (cellsA_one noD) ?_)
        refine bodyPost_ret (results_dir3 rfl rfl HX.out) rfl ?_
        rw [hr.out]
        exact ⟨rfl, below_setRow HB4.out (Nat.le_refl _) _⟩
  · have hr := Lib.hid (HE.out he)
    have hne : (er != 0) = true := by simpa using he
    clear HE HF HN HO HC HD he
    go_enter Tryd.func16, Tryd.ntmps16
    go_wp2_with fail
    simp only [hz.out, hW.out]
    refine (hT.out _).mono ?_
    rintro e W1 ⟨rfl, hB1⟩
    have HB1 := Lib.hid (hB0.out.trans (hB1.mono hB0.out.size))
    have HK1 := Lib.hid (hK0.out.below hB1 hsz.out)
    have HX := Lib.hid (HK1.out.setRow noD)
    clear hB1 hT
    go_wp2_with (refine wpList_store_row rfl 25 _ _ rfl w.heap.size (cellsA noD) rfl rfl 25 (cellsA noD) HK1.out (by kernel_rfl) rfl (cellsA_one noD) ?_)
    refine bodyPost_ret (results_dir3 rfl rfl HX.out) rfl ?_
    rw [hr.out]
    exact ⟨rfl, below_setRow HB1.out (Nat.le_refl _) _⟩
end Go.Proofs.YtinjnbcikoejkaaDoor
