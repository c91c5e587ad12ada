/-
  Walks: getNumber and decode.
  Walks: decode.
  Walks: Get, package stat's.
-/
import Derived.Test.YtlfdmbfbfadifaaGreatDoorSd
import Derived.Laws.ResultCell
namespace Go.Proofs.YtlfdmbfbfadifaaGreatDoor.St
open Go.RowKit

theorem ff_cut {n : Nat} (h : n ≤ 8) : ((⟨#[255, 255, 255, 255, 255, 255, 255, 255]⟩ : ByteArray).extract 0 n).toList = List.replicate n 255 := by
  have h : n = 0 ∨ n = 1 ∨ n = 2 ∨ n = 3 ∨ n = 4 ∨ n = 5 ∨ n = 6 ∨ n = 7 ∨ n = 8 := by omega
  rw [Lib.toList_data]
  rcases h with rfl | rfl | rfl | rfl | rfl | rfl | rfl | rfl | rfl <;> rfl
theorem getR_all {l : List UInt8} (h1 : 1 ≤ l.length) (h8 : l.length ≤ 8) : getR l 0 (l.length : Int) = if 9223372036854775808 ≤ val l then (0, 0, 5) else (((val l : Nat) : Int), (l.length : Int), 0) := by
  rw [getR, if_neg (by omega), if_neg (by omega)]
  simp

set_option maxHeartbeats 1600000 in
theorem getNumber_any (l : List UInt8) (h1 : 1 ≤ l.length) (h8 : l.length ≤ 8) (w : World) :
    Calls Tryz.prog 146 #[.string (mk l)] w fun e w' => e = .returned (.int .i64 (numP l)) ∧ w = w' := by
  have hs := mk_size l
  have hG := Lib.hid (fun W => GetM l 0 (l.length : Int) (by unfold maxLen; omega) W)
  rw [getR_all h1 h8, ← hs] at hG
  have hq : ((mk l).toList == ((⟨#[255, 255, 255, 255, 255, 255, 255, 255]⟩ : ByteArray).extract 0 (mk l).size).toList) = decide (l = List.replicate l.length 255) := by
    rw [hs, ff_cut h8, mk_toList]; rw [Bool.eq_iff_iff]; simp
  have hn : numP l = if decide (l = List.replicate l.length 255) then -1 else if 9223372036854775808 ≤ val l then -2 else ((val l : Nat) : Int) := by unfold numP; simp
  generalize numP l = r at hn ⊢
  generalize decide (l = List.replicate l.length 255) = b at hq hn
  rw [← hs] at h1 h8
  clear hs
  cases b
  · by_cases hv : 9223372036854775808 ≤ val l
    · rw [if_pos hv] at hG hn
      have hr : Hid (r = -2) := hn
      clear hn hv
      go_enter Tryz.func146, Tryz.ntmps146
      go_wp2_with fail
      refine (hG.out _).mono ?_
      rintro e w1 ⟨rfl, rfl⟩
      go_wp2
      go_ret
      rw [hr.out]
      exact ⟨rfl, rfl⟩
    · rw [if_neg hv] at hG hn
      have hr : Hid (r = ((val l : Nat) : Int)) := hn
      clear hn hv
      go_enter Tryz.func146, Tryz.ntmps146
      go_wp2_with fail
      refine (hG.out _).mono ?_
      rintro e w1 ⟨rfl, rfl⟩
      go_wp2
      go_ret
      rw [hr.out]
      exact ⟨rfl, rfl⟩
  · have hr : Hid (r = -1) := hn
    clear hn hG
    go_enter Tryz.func146, Tryz.ntmps146
    go_wp2
    go_ret
    rw [hr.out]
    exact ⟨rfl, rfl⟩
end Go.Proofs.YtlfdmbfbfadifaaGreatDoor.St

namespace Go.Proofs.YtlfdmbfbfadifaaGreatDoor.St
open Go.RowKit

theorem load_dir {w : World} {b : Nat} {d : DD} (h : BlkD w b d) : (loadVar 27 ⟨b, 0, none⟩).run Tryz.prog w = .ok (dirV d) w :=
  run_loadVar_row w b 27 27 (cellsA d) (0, 0) _ h Tryz.underlying27 rfl (by kernel_rfl)
theorem results_dir {fn : Func} {p u b : Nat} {d : DD} {w : World} {tmps : Array Value} (h : fn.results = #[.cell p 27, .tmp u]) (hp : tmps.getD p undef = .pointer (some ⟨b, 0, none⟩)) (hb : BlkD w b d) :
    (results fn tmps).run Tryz.prog w = .ok (.tuple #[dirV d, tmps.getD u undef]) w := by
  rw [results_cell_tmp h, hp]
  have ha : (asAddr (.pointer (some ⟨b, 0, none⟩))).run Tryz.prog w = .ok ⟨b, 0, none⟩ w := rfl
  simp only [ha, Result.andThen, load_dir hb]

/-- The two blocks of decode. -/
theorem two_blocks (w : World) : ∃ W, (w.alloc (.cells (cellsA noD) 27)).alloc (.cells (cellsA noD) 27) = W ∧ Below w.heap.size w W ∧ BlkD W w.heap.size noD ∧ BlkD W (w.heap.size + 1) noD ∧ W.heap.size = w.heap.size + 2 := by
  refine ⟨_, rfl, ((Below.refl _ w).alloc (Nat.le_refl _) _).alloc (by simp) _, (BlkD.new w noD).alloc _, ?_, by simp⟩
  have h := BlkD.new (w.alloc (.cells (cellsA noD) 27)) noD
  rwa [show (w.alloc (.cells (cellsA noD) 27)).heap.size = w.heap.size + 1 by simp] at h
theorem zero_dir (W : World) : W.alloc (.cells #[.int .i64 0, .int .i64 0, .int .i64 0, .int .i64 0, .int .i64 0, .int .i64 0, .int .i64 0, .int .i64 0, .int .i64 0, .string ⟨#[]⟩, .string ⟨#[]⟩, .string ⟨#[]⟩, .string ⟨#[]⟩] 27) = W.alloc (.cells (cellsA noD) 27) := rfl

set_option maxRecDepth 100000 in
set_option maxHeartbeats 6400000 in
theorem decode_any (b : List UInt8) (hb : b.length ≤ 1000000) (w : World) (g : G w) :
    Calls Tryz.prog 145 #[.string (mk b)] w fun e w' => e = .returned (.tuple #[dirV (decX numP b).1, .bool (decX numP b).2]) ∧ Below w.heap.size w w' := by
  obtain ⟨W, hW, hB0, hK0, hK1, hsz⟩ := two_blocks w
  have hz := Lib.hid zero_dir
  have hs := mk_size b
  have HS := Lib.hid (fun k hk h => decX_short (f := numP) (b := b) (k := k) hk h)
  have HN := Lib.hid (fun h => decX_none (f := numP) (b := b) h)
  have HO := Lib.hid (fun d a hb h => decX_some (f := numP) (b := b) (d := d) (a := a) hb h)
  generalize decX numP b = res at HS HN HO ⊢
  have HG := Lib.hid g
  replace hW := Lib.hid hW
  replace hB0 := Lib.hid hB0
  replace hK0 := Lib.hid hK0
  replace hK1 := Lib.hid hK1
  replace hsz := Lib.hid hsz
  have HL := Lib.hid hs
  clear g hs
  have hb' : (mk b).size ≤ 1000000 := by rw [HL.out]; exact hb
  go_enter Tryz.func145, Tryz.ntmps145
  go_wp2_with fail
  simp only [hz.out, hW.out]
  refine (numbersOf_any _ _).mono ?_
  rintro e w1 ⟨rfl, hB1⟩
  have HB1 := Lib.hid (hB0.out.trans (hB1.mono (by rw [hsz.out]; omega)))
  have HK0 := Lib.hid (hK0.out.below hB1 (by rw [hsz.out]; omega))
  have HK1 := Lib.hid (hK1.out.below hB1 (by rw [hsz.out]; omega))
  clear hB1 hz hW hB0 hK0 hK1 hsz
  go_wp2
  go_loopw [5, 15] (fun va vk wr => ∃ k : Nat, vk = .int .i64 (k : Int) ∧ va = .int .i64 (off k : Int) ∧ k ≤ 9 ∧ off k ≤ (mk b).size ∧ Hid (Below w.heap.size w wr) ∧ Hid (BlkD wr w.heap.size noD) ∧ Hid (BlkD wr (w.heap.size + 1) (decN numP b k))) (fun _ vk _ => 9 - (intOf vk).toNat)
  case atStart => exact ⟨0, rfl, rfl, by omega, by simp [off], HB1.out, HK0.out, HK1.out⟩
  case round =>
    obtain ⟨k, rfl, rfl, hk, ho, hB, hA, hC⟩ := hrel
    by_cases hlt : k < 9
    · have hix := nums_index (w.heap.size + 1) hlt
      obtain ⟨f0, f1, f2⟩ := (HG.out.below hB.out).fmt hlt
      have hw := fW_ge hlt
      have hoe : off (k + 1) = off k + fW k := rfl
      by_cases hsh : (mk b).size < off k + fW k
      · have hr := Lib.hid (HS.out k hlt (by rw [← HL.out]; exact hsh))
        have HX := Lib.hid (hA.out.setRow noD)
        clear f1 f2
        generalize off k = o at *
        generalize fW k = fw at *
        go_wp2_with (refine wpList_store_row rfl 27 _ _ rfl w.heap.size (cellsA noD) rfl rfl 27 (cellsA noD) hA.out (by kernel_rfl) rfl (cellsA_one noD) ?_)
        refine bodyPost_ret (results_dir rfl rfl HX.out) rfl ?_
        rw [hr.out]
        exact ⟨rfl, below_setRow hB.out (Nat.le_refl _) _⟩
      · have hN := getNumber_any (cut b (off k) (fW k)) (by rw [cut_len _ _ _ (by rw [← HL.out]; omega)]; exact hw.1) (by rw [cut_len _ _ _ (by rw [← HL.out]; omega)]; exact hw.2)
        have hx := mk_cut b (off k) (fW k)
        have hc := hC.out.numc hlt
        have hf := hC.out.frozen k
        have HB2 := Lib.hid (fun x => hB.out.setCell (p := ⟨w.heap.size + 1, k, none⟩) (Nat.le_succ _) (.int .i64 x))
        have HA2 := Lib.hid (fun x => hA.out.apart (a := ⟨w.heap.size + 1, k, none⟩) (by show w.heap.size ≠ w.heap.size + 1; omega) (.int .i64 x))
        have HC2 : Hid (BlkD (wr.setCell ⟨w.heap.size + 1, k, none⟩ (.int .i64 (numP (cut b (off k) (fW k))))) (w.heap.size + 1) (decN numP b (k + 1))) := hC.out.setN hlt _
        generalize hdd : decN numP b (k + 1) = d2 at *
        replace hdd := Lib.hid hdd
        generalize num (decN numP b k) k = x at hc
        have e0 : (off k : Int) + (fW k : Int) = (off (k + 1) : Int) := by rw [hoe]; omega
        rw [← hoe] at hx hsh
        generalize cut b (off k) (fW k) = c at *
        generalize numP c = v at *
        replace hN := Lib.hid hN
        replace hx := Lib.hid hx
        have e1 : off k ≤ off (k + 1) := by omega
        clear hoe f1 f2 hw
        generalize hoo : off (k + 1) = o2 at *
        replace hoo := Lib.hid hoo
        generalize off k = o at *
        generalize fW k = fw at *
        go_wp2_with fail
        rw [hx.out]
        refine (hN.out _).mono ?_
        rintro e w2 ⟨rfl, rfl⟩
        clear hN hx
        go_wp2
        exact ⟨⟨k + 1, by go_num, by rw [hoo.out], by omega, by rw [hoo.out]; omega, HB2.out _, HA2.out _, by rw [hdd.out]; exact HC2⟩, by simp [intOf]; omega⟩
    · obtain rfl : k = 9 := by omega
      have h47 : 47 ≤ b.length := by rw [← HL.out]; exact ho
      replace HO := Lib.hid (fun d a h => HO.out d a h47 h)
      have hdt : decT numP b 0 = some (decN numP b 9, 47) := rfl
      have hC0 : BlkD wr (w.heap.size + 1) (decN numP b 9) := hC.out
      generalize decN numP b 9 = d0 at hdt hC0
      replace hdt := Lib.hid hdt
      clear HS hk hlt HB1 HK0 HK1 h47
      go_wp2_with fail
      refine (textsOf_any _ _).mono ?_
      rintro e V3 ⟨rfl, hB1⟩
      have HB1 := Lib.hid (hB.out.trans (hB1.mono hB.out.size))
      have HK0 := Lib.hid (hA.out.below hB1 hA.out.lt)
      have HK1 := Lib.hid (hC0.below hB1 hC0.lt)
      clear hB1 hB hA hC hC0
      go_wp2
      go_loopw [5, 40] (fun va vk wr => ∃ (k a : Nat) (d : DD), vk = .int .i64 (k : Int) ∧ va = .int .i64 (a : Int) ∧ k ≤ 4 ∧ a ≤ (mk b).size ∧ Hid (decT numP b k = some (d, a)) ∧ Hid (Below w.heap.size w wr) ∧ Hid (BlkD wr w.heap.size noD) ∧ Hid (BlkD wr (w.heap.size + 1) d)) (fun _ vk _ => 4 - (intOf vk).toNat)
      case atStart => exact ⟨0, 47, d0, rfl, rfl, by omega, ho, hdt.out, HB1.out, HK0.out, HK1.out⟩
      case round =>
        obtain ⟨k, a, d, rfl, rfl, hk, ha, hT, hB, hA, hC⟩ := hrel
        by_cases hlt : k < 4
        · have hix := txts_index (w.heap.size + 1) hlt
          have k1 : (k : Int) < 4 := by omega
          have k0 : (0 : Int) ≤ (k : Int) := by omega
          have hN := Lib.hid (fun W => GetTextM b (a : Int) (by unfold maxLen; omega) W)
          rcases htx : textAt b a with _ | ⟨t, c⟩
          · rw [getTextR_none (by rw [← HL.out]; exact ha) htx] at hN
            have hr := Lib.hid (HN.out (decT_stop hlt hT.out htx))
            clear htx
            go_wp2_with fail
            refine (hN.out _).mono ?_
            rintro e W1 ⟨rfl, hB1⟩
            have HB2 := Lib.hid (hB.out.trans (hB1.mono hB.out.size))
            have HA2 := Lib.hid (hA.out.below hB1 hA.out.lt)
            have HX := Lib.hid (HA2.out.setRow noD)
            clear hB1 hN
            go_wp2_with (refine wpList_store_row rfl 27 _ _ rfl w.heap.size (cellsA noD) rfl rfl 27 (cellsA noD) HA2.out (by kernel_rfl) rfl (cellsA_one noD) ?_)
            refine bodyPost_ret (results_dir rfl rfl HX.out) rfl ?_
            rw [hr.out]
            exact ⟨rfl, below_setRow HB2.out (Nat.le_refl _) _⟩
          · rw [getTextR_some htx] at hN
            have hT2 := Lib.hid (decT_step hT.out htx)
            have hle := textAt_le htx
            rw [← HL.out] at hle
            clear htx
            go_wp2_with fail
            refine (hN.out _).mono ?_
            rintro e W1 ⟨rfl, hB1⟩
            have HB2 := hB.out.trans (hB1.mono hB.out.size)
            have HA2 := hA.out.below hB1 hA.out.lt
            have HC2 := hC.out.below hB1 hC.out.lt
            have hc := HC2.txtc hlt
            have hf := HC2.frozen (9 + k)
            have HB3 := Lib.hid (HB2.setCell (p := ⟨w.heap.size + 1, 9 + k, none⟩) (Nat.le_succ _) (.string (mk t)))
            have HA3 := Lib.hid (HA2.apart (a := ⟨w.heap.size + 1, 9 + k, none⟩) (by show w.heap.size ≠ w.heap.size + 1; omega) (.string (mk t)))
            have HC3 := Lib.hid (HC2.setT hlt t)
            clear hB1 hN HB2 HA2 HC2
            go_wp2
            exact ⟨⟨k + 1, c, _, by go_num, rfl, by omega, by omega, hT2.out, HB3.out, HA3.out, HC3.out⟩, by simp [intOf]; omega⟩
        · obtain rfl : k = 4 := by omega
          have hr := HO.out d a hT.out
          rw [← HL.out] at hr
          have hr' : res = (d, ((a : Int) == ((mk b).size : Int))) := by rw [hr]; congr 1; rw [Bool.eq_iff_iff, decide_eq_true_iff, beq_iff_eq]; omega
          replace hr' := Lib.hid hr'
          have HX := Lib.hid (hA.out.setRow d)
          clear hr
          go_wp2_with (first
            | (refine wpList_load_row rfl 27 _ rfl (w.heap.size + 1) rfl 27 (cellsA d) (0, 0) _ hC.out Tryz.underlying27 rfl (by kernel_rfl) ?_)
            | (refine wpList_store_row rfl 27 _ _ rfl w.heap.size (cellsA d) rfl rfl 27 (cellsA noD) hA.out (by kernel_rfl) rfl (cellsA_one d) ?_))
          refine bodyPost_ret (results_dir rfl rfl HX.out) rfl ?_
          rw [hr'.out]
          exact ⟨rfl, below_setRow hB.out (Nat.le_refl _) _⟩
end Go.Proofs.YtlfdmbfbfadifaaGreatDoor.St

namespace Go.Proofs.YtlfdmbfbfadifaaGreatDoor.St
open Go.RowKit

theorem results_dir3 {fn : Func} {p u v b : Nat} {d : DD} {w : World} {tmps : Array Value} (h : fn.results = #[.cell p 27, .tmp u, .tmp v]) (hp : tmps.getD p undef = .pointer (some ⟨b, 0, none⟩)) (hb : BlkD w b d) :
    (results fn tmps).run Tryz.prog w = .ok (.tuple #[dirV d, tmps.getD u undef, tmps.getD v undef]) w := by
  have ha : (asAddr (.pointer (some ⟨b, 0, none⟩))).run Tryz.prog w = .ok ⟨b, 0, none⟩ w := rfl
  have hp' : tmps[p]?.getD undef = .pointer (some ⟨b, 0, none⟩) := by simpa using hp
  simp only [results, h]
  simp [Sem.run_bind, Result.andThen, hp', ha, load_dir hb]

theorem inD_noD : inD noD := fun k hk => by
  rcases k9 hk with rfl | rfl | rfl | rfl | rfl | rfl | rfl | rfl | rfl <;> exact ⟨by decide, by decide⟩
theorem num_setN (d : DD) {k j : Nat} (hk : k < 9) (hj : j < 9) (v : Int) : num (setN d k v) j = if j = k then v else num d j := by
  rcases k9 hk with rfl | rfl | rfl | rfl | rfl | rfl | rfl | rfl | rfl <;> (rcases k9 hj with rfl | rfl | rfl | rfl | rfl | rfl | rfl | rfl | rfl <;> rfl)
theorem num_setT (d : DD) {k j : Nat} (hk : k < 4) (hj : j < 9) (x : List UInt8) : num (setT d k x) j = num d j := by
  rcases k4 hk with rfl | rfl | rfl | rfl <;> (rcases k9 hj with rfl | rfl | rfl | rfl | rfl | rfl | rfl | rfl | rfl <;> rfl)
theorem txt_setT (d : DD) {k j : Nat} (hk : k < 4) (hj : j < 4) (x : List UInt8) : txt (setT d k x) j = if j = k then x else txt d j := by
  rcases k4 hk with rfl | rfl | rfl | rfl <;> (rcases k4 hj with rfl | rfl | rfl | rfl <;> rfl)
theorem txt_setN (d : DD) {k j : Nat} (hk : k < 9) (hj : j < 4) (v : Int) : txt (setN d k v) j = txt d j := by
  rcases k9 hk with rfl | rfl | rfl | rfl | rfl | rfl | rfl | rfl | rfl <;> (rcases k4 hj with rfl | rfl | rfl | rfl <;> rfl)
theorem numP_in (l : List UInt8) : inI (numP l) := by
  unfold numP
  split
  · exact ⟨by decide, by decide⟩
  · split
    · exact ⟨by decide, by decide⟩
    · exact ⟨by omega, by omega⟩
theorem decN_in (b : List UInt8) (k : Nat) (hk : k ≤ 9) : inD (decN numP b k) := by
  induction k with
  | zero => exact inD_noD
  | succ k ih =>
    intro j hj
    rw [decN, num_setN _ (by omega) hj]
    split
    · exact numP_in _
    · exact ih (by omega) j hj
theorem decN_txt (f : List UInt8 → Int) (b : List UInt8) (k : Nat) (hk : k ≤ 9) {j : Nat} (hj : j < 4) : txt (decN f b k) j = [] := by
  induction k with
  | zero => rcases k4 hj with rfl | rfl | rfl | rfl <;> rfl
  | succ k ih => rw [decN, txt_setN _ (by omega) hj]; exact ih (by omega)
theorem decT_in (b : List UInt8) (hb : b.length ≤ maxLen) : ∀ (k : Nat) (d : DD) (a : Nat), k ≤ 4 → decT numP b k = some (d, a) → inD d ∧ bigD d
  | 0, d, a, _, h => by
    simp only [decT, Option.some.injEq, Prod.mk.injEq] at h
    obtain ⟨rfl, _⟩ := h
    exact ⟨decN_in b 9 (by omega), fun j hj => by rw [decN_txt numP b 9 (by omega) hj]; exact Nat.zero_le _⟩
  | k + 1, d, a, hk, h => by
    rw [decT] at h
    rcases h1 : decT numP b k with _ | ⟨d', a'⟩
    · rw [h1] at h; cases h
    · rw [h1] at h
      simp only at h
      rcases h2 : textAt b a' with _ | ⟨t, c⟩
      · rw [h2] at h; cases h
      · rw [h2] at h
        simp only [Option.some.injEq, Prod.mk.injEq] at h
        obtain ⟨rfl, rfl⟩ := h
        obtain ⟨i1, i2⟩ := decT_in b hb k d' a' (by omega) h1
        have hl := (textAt_le h2).2.2
        exact ⟨fun j hj => by rw [num_setT _ (by omega) hj]; exact i1 j hj, fun j hj => by
          rw [txt_setT _ (by omega) hj]
          split
          · omega
          · exact i2 j hj⟩
theorem bigD_noD : bigD noD := fun j hj => by rcases k4 hj with rfl | rfl | rfl | rfl <;> exact Nat.zero_le _
theorem decX_in (b : List UInt8) (hb : b.length ≤ maxLen) : inD (decX numP b).1 ∧ bigD (decX numP b).1 := by
  unfold decX
  split
  · exact ⟨inD_noD, bigD_noD⟩
  · rcases h : decT numP b 4 with _ | ⟨d, a⟩
    · exact ⟨inD_noD, bigD_noD⟩
    · exact decT_in b hb 4 d a (by omega) h
theorem getTextR_le (l : List UInt8) (a : Int) : (getTextR l a).1.length ≤ l.length := by
  unfold getTextR
  split
  · simp
  · split
    · simp
    · simp only [List.length_take, List.length_drop]; omega
theorem getS_err {f : List UInt8 → Int} {l : List UInt8} {a : Int} (h : (getTextR l a).2.2 ≠ 0) : getS f l a = (noD, 0, (getTextR l a).2.2) := by
  unfold getS; rw [if_pos h]
theorem getS_form {f : List UInt8 → Int} {l : List UInt8} {a : Int} (h : (getTextR l a).2.2 = 0) (h2 : (decX f (getTextR l a).1).2 = false) : getS f l a = (noD, 0, 2) := by
  unfold getS; rw [if_neg (by simp [h]), if_pos h2]
theorem getS_check {f : List UInt8 → Int} {l : List UInt8} {a : Int} (h : (getTextR l a).2.2 = 0) (h2 : (decX f (getTextR l a).1).2 = true) (h3 : checkR (decX f (getTextR l a).1).1 ≠ 0) : getS f l a = (noD, 0, checkR (decX f (getTextR l a).1).1) := by
  unfold getS; rw [if_neg (by simp [h]), if_neg (by simp [h2]), if_pos h3]
theorem getS_ok {f : List UInt8 → Int} {l : List UInt8} {a : Int} (h : (getTextR l a).2.2 = 0) (h2 : (decX f (getTextR l a).1).2 = true) (h3 : checkR (decX f (getTextR l a).1).1 = 0) : getS f l a = ((decX f (getTextR l a).1).1, (getTextR l a).2.1, 0) := by
  unfold getS; rw [if_neg (by simp [h]), if_neg (by simp [h2]), if_neg (by simp [h3])]

set_option maxRecDepth 100000 in
set_option maxHeartbeats 6400000 in
theorem Get_dir (l : List UInt8) (a : Int) (hl : l.length ≤ 1000000) (w : World) (g : G w) :
    Calls Tryz.prog 141 #[.string (mk l), .int .i64 a] w fun e w' => e = .returned (.tuple #[dirV (getS numP l a).1, .int .i64 (getS numP l a).2.1, .int .i64 (getS numP l a).2.2]) ∧ Below w.heap.size w w' := by
  have hz := Lib.hid zero_dir
  have hB0 : Below w.heap.size w (w.alloc (.cells (cellsA noD) 27)) := (Below.refl _ w).alloc (Nat.le_refl _) _
  have hK0 := BlkD.new w noD
  have hsz : w.heap.size < (w.alloc (.cells (cellsA noD) 27)).heap.size := by simp
  generalize hW : w.alloc (.cells (cellsA noD) 27) = W at hB0 hK0 hsz
  have hT := Lib.hid (GetTextM l a (by unfold maxLen; omega))
  have hle := getTextR_le l a
  have HD := Lib.hid (fun W g => decode_any (getTextR l a).1 (by omega) W g)
  have HI := decX_in (getTextR l a).1 (by unfold maxLen; omega)
  have HC := Lib.hid (fun W g => Check_any (decX numP (getTextR l a).1).1 HI.1 HI.2 W g)
  have HE := Lib.hid (fun h => getS_err (f := numP) (l := l) (a := a) h)
  have HF := Lib.hid (fun h h2 => getS_form (f := numP) (l := l) (a := a) h h2)
  have HN := Lib.hid (fun h h2 h3 => getS_check (f := numP) (l := l) (a := a) h h2 h3)
  have HO := Lib.hid (fun h h2 h3 => getS_ok (f := numP) (l := l) (a := a) h h2 h3)
  have HG := Lib.hid g
  replace hW := Lib.hid hW
  replace hB0 := Lib.hid hB0
  replace hK0 := Lib.hid hK0
  replace hsz := Lib.hid hsz
  clear hle HI g
  generalize getS numP l a = res at *
  generalize decX numP (getTextR l a).1 = dx at *
  generalize getTextR l a = gt at *
  obtain ⟨tx, nx, er⟩ := gt
  obtain ⟨x, ok⟩ := dx
  dsimp only at hT HD HC HE HF HN HO
  generalize checkR x = cx at *
  by_cases he : er = 0
  · subst he
    cases ok
    · have hr := Lib.hid (HF.out rfl rfl)
      clear HE HF HN HO HC
      go_enter Tryz.func141, Tryz.ntmps141
      go_wp2_with fail
      simp only [hz.out, hW.out]
      refine (hT.out _).mono ?_
      rintro e W1 ⟨rfl, hB1⟩
      have HB1 := Lib.hid (hB0.out.trans (hB1.mono hB0.out.size))
      have HK1 := Lib.hid (hK0.out.below hB1 hsz.out)
      clear hB1 hT
      go_wp2_with fail
      refine (HD.out _ (HG.out.below HB1.out)).mono ?_
      rintro e W2 ⟨rfl, hB2⟩
      have HB2 := HB1.out.trans (hB2.mono HB1.out.size)
      have HK2 := HK1.out.below hB2 HK1.out.lt
      have HB3 := Lib.hid (HB2.alloc HB2.size (.cells (cellsA x) 27))
      have HK3 := Lib.hid (HK2.alloc (.cells (cellsA x) 27))
      have HX3 := Lib.hid (BlkD.new W2 x)
      unfold dirV
      clear hB2 HD HB2 HK2
      have HX := Lib.hid (HK3.out.setRow noD)
      go_wp2_with (first | (refine wpList_store_row rfl 27 _ _ rfl W2.heap.size (cellsA x) rfl rfl 27 (cellsA noD) (heap_alloc_new W2 _) (by kernel_rfl) rfl (cellsA_one x) ?_; rw [World.setRow_alloc_new]) | (refine wpList_store_row rfl 27 _ _ rfl w.heap.size (cellsA noD) rfl rfl 27 (cellsA noD) HK3.out (by kernel_rfl) rfl (cellsA_one noD) ?_))
      refine bodyPost_ret (results_dir3 rfl rfl HX.out) rfl ?_
      rw [hr.out]
      exact ⟨rfl, below_setRow HB3.out (Nat.le_refl _) _⟩
    · by_cases hc : cx = 0
      · subst hc
        have hr := Lib.hid (HO.out rfl rfl rfl)
        clear HE HF HN HO
        go_enter Tryz.func141, Tryz.ntmps141
        go_wp2_with fail
        simp only [hz.out, hW.out]
        refine (hT.out _).mono ?_
        rintro e W1 ⟨rfl, hB1⟩
        have HB1 := Lib.hid (hB0.out.trans (hB1.mono hB0.out.size))
        have HK1 := Lib.hid (hK0.out.below hB1 hsz.out)
        clear hB1 hT
        go_wp2_with fail
        refine (HD.out _ (HG.out.below HB1.out)).mono ?_
        rintro e W2 ⟨rfl, hB2⟩
        have HB2 := HB1.out.trans (hB2.mono HB1.out.size)
        have HK2 := HK1.out.below hB2 HK1.out.lt
        have HB3 := Lib.hid (HB2.alloc HB2.size (.cells (cellsA x) 27))
        have HK3 := Lib.hid (HK2.alloc (.cells (cellsA x) 27))
        have HX3 := Lib.hid (BlkD.new W2 x)
        unfold dirV
        clear hB2 HD HB2 HK2
        go_wp2_with (first | (refine wpList_store_row rfl 27 _ _ rfl W2.heap.size (cellsA x) rfl rfl 27 (cellsA noD) (heap_alloc_new W2 _) (by kernel_rfl) rfl (cellsA_one x) ?_; rw [World.setRow_alloc_new]) | (refine wpList_load_row rfl 27 _ rfl W2.heap.size rfl 27 (cellsA x) (0, 0) _ HX3.out Tryz.underlying27 rfl (by kernel_rfl) ?_))
        refine (HC.out _ (HG.out.below HB3.out)).mono ?_
        rintro e W4 ⟨rfl, hB4⟩
        have HB4 := Lib.hid (HB3.out.trans (hB4.mono HB3.out.size))
        have HK4 := Lib.hid (HK3.out.below hB4 HK3.out.lt)
        have HX4 := Lib.hid (HX3.out.below hB4 HX3.out.lt)
        have HX := Lib.hid (HK4.out.setRow x)
        clear hB4 HC
        go_wp2_with (first | (refine wpList_load_row rfl 27 _ rfl W2.heap.size rfl 27 (cellsA x) (0, 0) _ HX4.out Tryz.underlying27 rfl (by kernel_rfl) ?_) | (refine wpList_store_row rfl 27 _ _ rfl w.heap.size (cellsA x) rfl rfl 27 (cellsA noD) HK4.out (by kernel_rfl) rfl (cellsA_one x) ?_))
        refine bodyPost_ret (results_dir3 rfl rfl HX.out) rfl ?_
        rw [hr.out]
        exact ⟨rfl, below_setRow HB4.out (Nat.le_refl _) _⟩
      · have hr := Lib.hid (HN.out rfl rfl hc)
        have hne : (cx != 0) = true := by simpa using hc
        clear HE HF HN HO hc
        go_enter Tryz.func141, Tryz.ntmps141
        go_wp2_with fail
        simp only [hz.out, hW.out]
        refine (hT.out _).mono ?_
        rintro e W1 ⟨rfl, hB1⟩
        have HB1 := Lib.hid (hB0.out.trans (hB1.mono hB0.out.size))
        have HK1 := Lib.hid (hK0.out.below hB1 hsz.out)
        clear hB1 hT
        go_wp2_with fail
        refine (HD.out _ (HG.out.below HB1.out)).mono ?_
        rintro e W2 ⟨rfl, hB2⟩
        have HB2 := HB1.out.trans (hB2.mono HB1.out.size)
        have HK2 := HK1.out.below hB2 HK1.out.lt
        have HB3 := Lib.hid (HB2.alloc HB2.size (.cells (cellsA x) 27))
        have HK3 := Lib.hid (HK2.alloc (.cells (cellsA x) 27))
        have HX3 := Lib.hid (BlkD.new W2 x)
        unfold dirV
        clear hB2 HD HB2 HK2
        go_wp2_with (first | (refine wpList_store_row rfl 27 _ _ rfl W2.heap.size (cellsA x) rfl rfl 27 (cellsA noD) (heap_alloc_new W2 _) (by kernel_rfl) rfl (cellsA_one x) ?_; rw [World.setRow_alloc_new]) | (refine wpList_load_row rfl 27 _ rfl W2.heap.size rfl 27 (cellsA x) (0, 0) _ HX3.out Tryz.underlying27 rfl (by kernel_rfl) ?_))
        refine (HC.out _ (HG.out.below HB3.out)).mono ?_
        rintro e W4 ⟨rfl, hB4⟩
        have HB4 := Lib.hid (HB3.out.trans (hB4.mono HB3.out.size))
        have HK4 := Lib.hid (HK3.out.below hB4 HK3.out.lt)
        have HX := Lib.hid (HK4.out.setRow noD)
        clear hB4 HC
        go_wp2_with (refine wpList_store_row rfl 27 _ _ rfl w.heap.size (cellsA noD) rfl rfl 27 (cellsA noD) HK4.out (by kernel_rfl) rfl (cellsA_one noD) ?_)
        refine bodyPost_ret (results_dir3 rfl rfl HX.out) rfl ?_
        rw [hr.out]
        exact ⟨rfl, below_setRow HB4.out (Nat.le_refl _) _⟩
  · have hr := Lib.hid (HE.out he)
    have hne : (er != 0) = true := by simpa using he
    clear HE HF HN HO HC HD he
    go_enter Tryz.func141, Tryz.ntmps141
    go_wp2_with fail
    simp only [hz.out, hW.out]
    refine (hT.out _).mono ?_
    rintro e W1 ⟨rfl, hB1⟩
    have HB1 := Lib.hid (hB0.out.trans (hB1.mono hB0.out.size))
    have HK1 := Lib.hid (hK0.out.below hB1 hsz.out)
    have HX := Lib.hid (HK1.out.setRow noD)
    clear hB1 hT
    go_wp2_with (refine wpList_store_row rfl 27 _ _ rfl w.heap.size (cellsA noD) rfl rfl 27 (cellsA noD) HK1.out (by kernel_rfl) rfl (cellsA_one noD) ?_)
    refine bodyPost_ret (results_dir3 rfl rfl HX.out) rfl ?_
    rw [hr.out]
    exact ⟨rfl, below_setRow HB1.out (Nat.le_refl _) _⟩
end Go.Proofs.YtlfdmbfbfadifaaGreatDoor.St
