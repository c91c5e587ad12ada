/-
  Walks: decode.
-/
import Derived.Test.YtinjnbcikoejkaaDoorSm
import Derived.Laws.ResultCell
namespace Go.Proofs.YtinjnbcikoejkaaDoor
open Go.RowKit

theorem load_dir {w : World} {b : Nat} {d : DD} (h : BlkD w b d) : (loadVar 25 ⟨b, 0, none⟩).run Tryd.prog w = .ok (dirV d) w :=
  run_loadVar_row w b 25 25 (cellsA d) (0, 0) _ h Tryd.underlying25 rfl (by kernel_rfl)
theorem results_dir {fn : Func} {p u b : Nat} {d : DD} {w : World} {tmps : Array Value} (h : fn.results = #[.cell p 25, .tmp u]) (hp : tmps.getD p undef = .pointer (some ⟨b, 0, none⟩)) (hb : BlkD w b d) :
    (results fn tmps).run Tryd.prog w = .ok (.tuple #[dirV d, tmps.getD u undef]) w := by
  rw [results_cell_tmp h, hp]
  have ha : (asAddr (.pointer (some ⟨b, 0, none⟩))).run Tryd.prog w = .ok ⟨b, 0, none⟩ w := rfl
  simp only [ha, Result.andThen, load_dir hb]

/-- The two blocks of decode. -/
theorem two_blocks (w : World) : ∃ W, (w.alloc (.cells (cellsA noD) 25)).alloc (.cells (cellsA noD) 25) = W ∧ Below w.heap.size w W ∧ BlkD W w.heap.size noD ∧ BlkD W (w.heap.size + 1) noD ∧ W.heap.size = w.heap.size + 2 := by
  refine ⟨_, rfl, ((Below.refl _ w).alloc (Nat.le_refl _) _).alloc (by simp) _, (BlkD.new w noD).alloc _, ?_, by simp⟩
  have h := BlkD.new (w.alloc (.cells (cellsA noD) 25)) noD
  rwa [show (w.alloc (.cells (cellsA noD) 25)).heap.size = w.heap.size + 1 by simp] at h
theorem zero_dir (W : World) : W.alloc (.cells #[.int .i64 0, .int .i64 0, .int .i64 0, .int .i64 0, .int .i64 0, .int .i64 0, .int .i64 0, .int .i64 0, .int .i64 0, .string ⟨#[]⟩, .string ⟨#[]⟩, .string ⟨#[]⟩, .string ⟨#[]⟩] 25) = W.alloc (.cells (cellsA noD) 25) := rfl

set_option maxRecDepth 100000 in
set_option maxHeartbeats 6400000 in
theorem decode_any (b : List UInt8) (hb : b.length ≤ 1000000) (w : World) (g : G w) :
    Calls Tryd.prog 37 #[.string (mk b)] w fun e w' => e = .returned (.tuple #[dirV (decX numP b).1, .bool (decX numP b).2]) ∧ Below w.heap.size w w' := by
  obtain ⟨W, hW, hB0, hK0, hK1, hsz⟩ := two_blocks w
  have hz := Lib.hid zero_dir
  have hs := mk_size b
  have HS := Lib.hid (fun k hk h => decX_short (f := numP) (b := b) (k := k) hk h)
  have HN := Lib.hid (fun h => decX_none (f := numP) (b := b) h)
  have HO := Lib.hid (fun d a hb h => decX_some (f := numP) (b := b) (d := d) (a := a) hb h)
  generalize decX numP b = res at HS HN HO ⊢
  have HG := Lib.hid g
  replace hW := Lib.hid hW
  replace hB0 := Lib.hid hB0
  replace hK0 := Lib.hid hK0
  replace hK1 := Lib.hid hK1
  replace hsz := Lib.hid hsz
  have HL := Lib.hid hs
  clear g hs
  have hb' : (mk b).size ≤ 1000000 := by rw [HL.out]; exact hb
  go_enter Tryd.func37, Tryd.ntmps37
  go_wp2_with fail
  simp only [hz.out, hW.out]
  refine (numbersOf_any _ _).mono ?_
  rintro e w1 ⟨rfl, hB1⟩
  have HB1 := Lib.hid (hB0.out.trans (hB1.mono (by rw [hsz.out]; omega)))
  have HK0 := Lib.hid (hK0.out.below hB1 (by rw [hsz.out]; omega))
  have HK1 := Lib.hid (hK1.out.below hB1 (by rw [hsz.out]; omega))
  clear hB1 hz hW hB0 hK0 hK1 hsz
  go_wp2
  go_loopw [5, 15] (fun va vk wr => ∃ k : Nat, vk = .int .i64 (k : Int) ∧ va = .int .i64 (off k : Int) ∧ k ≤ 9 ∧ off k ≤ (mk b).size ∧ Hid (Below w.heap.size w wr) ∧ Hid (BlkD wr w.heap.size noD) ∧ Hid (BlkD wr (w.heap.size + 1) (decN numP b k))) (fun _ vk _ => 9 - (intOf vk).toNat)
  case atStart => exact ⟨0, rfl, rfl, by omega, by simp [off], HB1.out, HK0.out, HK1.out⟩
  case round =>
    obtain ⟨k, rfl, rfl, hk, ho, hB, hA, hC⟩ := hrel
    by_cases hlt : k < 9
    · have hix := nums_index (w.heap.size + 1) hlt
      obtain ⟨f0, f1, f2⟩ := (HG.out.below hB.out).fmt hlt
      have hw := fW_ge hlt
      have hoe : off (k + 1) = off k + fW k := rfl
      by_cases hsh : (mk b).size < off k + fW k
      · have hr := Lib.hid (HS.out k hlt (by rw [← HL.out]; exact hsh))
        have HX := Lib.hid (hA.out.setRow noD)
        clear f1 f2
        generalize off k = o at *
        generalize fW k = fw at *
        go_wp2_with (refine wpList_store_row rfl 25 _ _ rfl w.heap.size (cellsA noD) rfl rfl 25 (cellsA noD) hA.out (by kernel_rfl) rfl (cellsA_one noD) ?_)
        refine bodyPost_ret (results_dir rfl rfl HX.out) rfl ?_
        rw [hr.out]
        exact ⟨rfl, below_setRow hB.out (Nat.le_refl _) _⟩
      · have hN := getNumber_any (cut b (off k) (fW k)) (by rw [cut_len _ _ _ (by rw [← HL.out]; omega)]; exact hw.1) (by rw [cut_len _ _ _ (by rw [← HL.out]; omega)]; exact hw.2)
        have hx := mk_cut b (off k) (fW k)
        have hc := hC.out.numc hlt
        have hf := hC.out.frozen k
        have HB2 := Lib.hid (fun x => hB.out.setCell (p := ⟨w.heap.size + 1, k, none⟩) (Nat.le_succ _) (.int .i64 x))
        have HA2 := Lib.hid (fun x => hA.out.apart (a := ⟨w.heap.size + 1, k, none⟩) (by show w.heap.size ≠ w.heap.size + 1; omega) (.int .i64 x))
        have HC2 : Hid (BlkD (wr.setCell ⟨w.heap.size + 1, k, none⟩ (.int .i64 (numP (cut b (off k) (fW k))))) (w.heap.size + 1) (decN numP b (k + 1))) := hC.out.setN hlt _
        generalize hdd : decN numP b (k + 1) = d2 at *
        replace hdd := Lib.hid hdd
        generalize num (decN numP b k) k = x at hc
        have e0 : (off k : Int) + (fW k : Int) = (off (k + 1) : Int) := by rw [hoe]; omega
        rw [← hoe] at hx hsh
        generalize cut b (off k) (fW k) = c at *
        generalize numP c = v at *
        replace hN := Lib.hid hN
        replace hx := Lib.hid hx
        have e1 : off k ≤ off (k + 1) := by omega
        clear hoe f1 f2 hw
        generalize hoo : off (k + 1) = o2 at *
        replace hoo := Lib.hid hoo
        generalize off k = o at *
        generalize fW k = fw at *
        go_wp2_with fail
        rw [hx.out]
        refine (hN.out _).mono ?_
        rintro e w2 ⟨rfl, rfl⟩
        clear hN hx
        go_wp2
        exact ⟨⟨k + 1, by go_num, by rw [hoo.out], by omega, by rw [hoo.out]; omega, HB2.out _, HA2.out _, by rw [hdd.out]; exact HC2⟩, by simp [intOf]; omega⟩
    · obtain rfl : k = 9 := by omega
      have h47 : 47 ≤ b.length := by rw [← HL.out]; exact ho
      replace HO := Lib.hid (fun d a h => HO.out d a h47 h)
      have hdt : decT numP b 0 = some (decN numP b 9, 47) := rfl
      have hC0 : BlkD wr (w.heap.size + 1) (decN numP b 9) := hC.out
      generalize decN numP b 9 = d0 at hdt hC0
      replace hdt := Lib.hid hdt
      clear HS hk hlt HB1 HK0 HK1 h47
      go_wp2_with fail
      refine (textsOf_any _ _).mono ?_
      rintro e V3 ⟨rfl, hB1⟩
      have HB1 := Lib.hid (hB.out.trans (hB1.mono hB.out.size))
      have HK0 := Lib.hid (hA.out.below hB1 hA.out.lt)
      have HK1 := Lib.hid (hC0.below hB1 hC0.lt)
      clear hB1 hB hA hC hC0
      go_wp2
      go_loopw [5, 40] (fun va vk wr => ∃ (k a : Nat) (d : DD), vk = .int .i64 (k : Int) ∧ va = .int .i64 (a : Int) ∧ k ≤ 4 ∧ a ≤ (mk b).size ∧ Hid (decT numP b k = some (d, a)) ∧ Hid (Below w.heap.size w wr) ∧ Hid (BlkD wr w.heap.size noD) ∧ Hid (BlkD wr (w.heap.size + 1) d)) (fun _ vk _ => 4 - (intOf vk).toNat)
      case atStart => exact ⟨0, 47, d0, rfl, rfl, by omega, ho, hdt.out, HB1.out, HK0.out, HK1.out⟩
      case round =>
        obtain ⟨k, a, d, rfl, rfl, hk, ha, hT, hB, hA, hC⟩ := hrel
        by_cases hlt : k < 4
        · have hix := txts_index (w.heap.size + 1) hlt
          have k1 : (k : Int) < 4 := by omega
          have k0 : (0 : Int) ≤ (k : Int) := by omega
          have hN := Lib.hid (fun W => GetTextM b (a : Int) (by unfold maxLen; omega) W)
          rcases htx : textAt b a with _ | ⟨t, c⟩
          · rw [getTextR_none (by rw [← HL.out]; exact ha) htx] at hN
            have hr := Lib.hid (HN.out (decT_stop hlt hT.out htx))
            clear htx
            go_wp2_with fail
            refine (hN.out _).mono ?_
            rintro e W1 ⟨rfl, hB1⟩
            have HB2 := Lib.hid (hB.out.trans (hB1.mono hB.out.size))
            have HA2 := Lib.hid (hA.out.below hB1 hA.out.lt)
            have HX := Lib.hid (HA2.out.setRow noD)
            clear hB1 hN
            go_wp2_with (refine wpList_store_row rfl 25 _ _ rfl w.heap.size (cellsA noD) rfl rfl 25 (cellsA noD) HA2.out (by kernel_rfl) rfl (cellsA_one noD) ?_)
            refine bodyPost_ret (results_dir rfl rfl HX.out) rfl ?_
            rw [hr.out]
            exact ⟨rfl, below_setRow HB2.out (Nat.le_refl _) _⟩
          · rw [getTextR_some htx] at hN
            have hT2 := Lib.hid (decT_step hT.out htx)
            have hle := textAt_le htx
            rw [← HL.out] at hle
            clear htx
            go_wp2_with fail
            refine (hN.out _).mono ?_
            rintro e W1 ⟨rfl, hB1⟩
            have HB2 := hB.out.trans (hB1.mono hB.out.size)
            have HA2 := hA.out.below hB1 hA.out.lt
            have HC2 := hC.out.below hB1 hC.out.lt
            have hc := HC2.txtc hlt
            have hf := HC2.frozen (9 + k)
            have HB3 := Lib.hid (HB2.setCell (p := ⟨w.heap.size + 1, 9 + k, none⟩) (Nat.le_succ _) (.string (mk t)))
            have HA3 := Lib.hid (HA2.apart (a := ⟨w.heap.size + 1, 9 + k, none⟩) (by show w.heap.size ≠ w.heap.size + 1; omega) (.string (mk t)))
            have HC3 := Lib.hid (HC2.setT hlt t)
            clear hB1 hN HB2 HA2 HC2
            go_wp2
            exact ⟨⟨k + 1, c, _, by go_num, rfl, by omega, by omega, hT2.out, HB3.out, HA3.out, HC3.out⟩, by simp [intOf]; omega⟩
        · obtain rfl : k = 4 := by omega
          have hr := HO.out d a hT.out
          rw [← HL.out] at hr
          have hr' : res = (d, ((a : Int) == ((mk b).size : Int))) := by rw [hr]; congr 1; rw [Bool.eq_iff_iff, decide_eq_true_iff, beq_iff_eq]; omega
          replace hr' := Lib.hid hr'
          have HX := Lib.hid (hA.out.setRow d)
          clear hr
          go_wp2_with (first
            | (refine wpList_load_row rfl 25 _ rfl (w.heap.size + 1) rfl 25 (cellsA d) (0, 0) _ hC.out Tryd.underlying25 rfl (by kernel_rfl) ?_)
            | (refine wpList_store_row rfl 25 _ _ rfl w.heap.size (cellsA d) rfl rfl 25 (cellsA noD) hA.out (by kernel_rfl) rfl (cellsA_one d) ?_))
          refine bodyPost_ret (results_dir rfl rfl HX.out) rfl ?_
          rw [hr'.out]
          exact ⟨rfl, below_setRow hB.out (Nat.le_refl _) _⟩
end Go.Proofs.YtinjnbcikoejkaaDoor
