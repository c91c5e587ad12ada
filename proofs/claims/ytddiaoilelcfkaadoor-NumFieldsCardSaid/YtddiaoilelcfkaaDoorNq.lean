/-
  The walks over the other statements of layer 1 on numbers.
-/
import Derived.Test.YtddiaoilelcfkaaDoorNp
namespace Go.Proofs.YtddiaoilelcfkaaDoor
open Go.RowKit

theorem toList_arr (l : List UInt8) : (⟨l.toArray⟩ : ByteArray).data.toList = l := by simp

set_option maxRecDepth 100000 in
set_option maxHeartbeats 1600000 in
theorem numTexts_walk (n b wd : Int) (hn : inI n) (hb : inI b) (hw : inI wd) (W : World) (g : G W) :
    Calls Tryd.prog 3 #[.int .i64 n, .int .i64 b, .int .i64 wd] W fun e w' => e = .returned (.bool true) ∧ Below W.heap.size W w' := by
  have HG := Lib.hid g
  have A1 := Lib.hid (Text_any n b hn W g)
  have A2 := fun w => RText_any n b hn w
  have A3 := fun w g => Pad_any n b wd hn hw w g
  have A4 := fun w => RPad_any n b wd hn hw w
  generalize textR n b = t at A1 A2
  generalize padR n b wd = p at A3 A4
  replace A2 := Lib.hid A2
  replace A3 := Lib.hid A3
  replace A4 := Lib.hid A4
  clear hn hb hw g
  go_enter Tryd.func3, Tryd.ntmps3
  go_wp2_with fail
  refine A1.out.mono ?_
  rintro e w1 ⟨rfl, hB1⟩
  have B1 := Lib.hid hB1
  clear hB1
  go_wp2_with fail
  refine (A2.out w1).mono ?_
  rintro e w' ⟨rfl, rfl⟩
  go_wp2_with fail
  refine (A3.out w1 (HG.out.below B1.out)).mono ?_
  rintro e w2 ⟨rfl, hB2⟩
  have B2 := Lib.hid (B1.out.trans (hB2.mono B1.out.size))
  clear hB2 B1
  go_wp2_with fail
  refine (A4.out w2).mono ?_
  rintro e w' ⟨rfl, rfl⟩
  go_wp2_with fail
  refine (awake_any w2 (HG.out.below B2.out)).mono ?_
  rintro e w3 ⟨rfl, hB3⟩
  have B3 := Lib.hid (B2.out.trans (hB3.mono B2.out.size))
  clear hB3 B2
  go_wp2
  go_ret
  exact ⟨rfl, B3.out⟩

/-- 'awake()' at the end of a walk: behind whatever has been made. -/
theorem awake_end {W w : World} (g : G W) (hB : Below W.heap.size W w) : Calls Tryd.prog 13 #[] w fun e w' => e = .returned (.bool true) ∧ Below W.heap.size W w' :=
  (awake_any w (g.below hB)).mono fun _ _ ⟨he, hB2⟩ => ⟨he, hB.trans (hB2.mono hB.size)⟩

set_option maxRecDepth 100000 in
set_option maxHeartbeats 1600000 in
theorem numParses_walk (s : ByteArray) (b m : Int) (hs : s.size ≤ maxLen) (hb : inI b) (hm : inI m) (W : World) (g : G W) :
    Calls Tryd.prog 4 #[.string s, .int .i64 b, .int .i64 m] W fun e w' => e = .returned (.bool true) ∧ Below W.heap.size W w' := by
  unfold maxLen at hs
  have HG := Lib.hid g
  by_cases hbig : 2000 < s.size
  · have A := Lib.hid (awake_any W g)
    clear hb hm g
    go_enter Tryd.func4, Tryd.ntmps4
    go_wp2_with fail
    refine A.out.mono ?_
    rintro e w' ⟨rfl, hB⟩
    go_wp2
    go_ret
    exact ⟨rfl, hB⟩
  · have A1 := Lib.hid (Parse_any s b m hm (by omega) W g)
    have A2 := fun w => RParse_any s b m hm (by omega) w
    generalize parseR s.data.toList b m = r at A1 A2
    obtain ⟨r1, r2⟩ := r
    replace A2 := Lib.hid A2
    clear hb hm g
    go_enter Tryd.func4, Tryd.ntmps4
    go_wp2_with fail
    refine A1.out.mono ?_
    rintro e w1 ⟨rfl, hB1⟩
    have B1 := Lib.hid hB1
    clear hB1
    go_wp2_with fail
    refine (A2.out w1).mono ?_
    rintro e w' ⟨rfl, rfl⟩
    go_wp2_with fail
    refine (awake_end HG.out B1.out).mono ?_
    rintro e w2 ⟨rfl, hB2⟩
    go_wp2
    go_ret
    exact ⟨rfl, hB2⟩

theorem parse_neg {n b m : Int} (hn : n < 0) (hb : isB b = true) (hm : 0 ≤ m) : parseR (textR n b) b m = (0, 5) := by
  rw [parseR, if_neg (by simp [hb]; omega), textR, if_pos hb, textL, if_pos hn]
  have : canon b.toNat (45 :: digs b.toNat n.natAbs) = none := by
    unfold canon
    rw [if_neg (by simp)]
    simp only [val]
    rw [if_neg (by rw [show digN 45 = -1 by decide]; omega)]
  rw [this]
theorem parse_text {n b m : Int} (hn : 0 ≤ n) (hb : isB b = true) (hm : 0 ≤ m) : parseR (textR n b) b m = if n ≤ m then (n, 0) else (0, 5) := by
  have hb3 := isB_of hb
  rw [parseR, if_neg (by simp [hb]; omega), textR, if_pos hb, canon_of_text (by omega) (by omega) hn]
  simp only
  rw [show (n.toNat : Int) = n by omega]

set_option maxRecDepth 100000 in
set_option maxHeartbeats 1600000 in
theorem numInverse_walk (n b : Int) (hn : inI n) (hb : inI b) (W : World) (g : G W) :
    Calls Tryd.prog 5 #[.int .i64 n, .int .i64 b] W fun e w' => e = .returned (.bool true) ∧ Below W.heap.size W w' := by
  have HG := Lib.hid g
  have A1 := Text_any n b hn W g
  have hl := textR_len n b hn
  obtain ⟨hn1, hn2⟩ := hn
  by_cases hib : isB b = true
  · have hb3 := isB_of hib
    have PN := fun (h : n < 0) => parse_neg (m := 9223372036854775807) h hib (by omega)
    have PT := fun (h : 0 ≤ n) (m : Int) (hm : 0 ≤ m) => parse_text (m := m) h hib hm
    have PP := fun w (g : G w) m (hm : inI m) => Parse_any ⟨(textR n b).toArray⟩ b m hm (by simp [ByteArray.size]; omega) w g
    simp only [toList_arr] at PP
    generalize textR n b = t at A1 PN PT PP hl
    replace A1 := Lib.hid A1
    replace PN := Lib.hid PN
    replace PT := Lib.hid PT
    replace PP := Lib.hid PP
    clear hib g hb
    have key : ∀ P : Prop, (b = 8 → P) → (b = 10 → P) → (b = 16 → P) → P := fun P h1 h2 h3 => hb3.elim h1 fun h => h.elim h2 h3
    clear hb3
    refine key _ (fun h => ?_) (fun h => ?_) (fun h => ?_)
    all_goals
      subst h
      clear key
      by_cases hneg : n < 0
      · go_enter Tryd.func5, Tryd.ntmps5
        go_wp2_with fail
        refine A1.out.mono ?_
        rintro e w1 ⟨rfl, hB1⟩
        have B1 := Lib.hid hB1
        clear hB1
        go_wp2_with fail
        refine (PP.out w1 (HG.out.below B1.out) 9223372036854775807 ⟨by omega, by omega⟩).mono ?_
        rw [PN.out hneg]
        rintro e w2 ⟨rfl, hB2⟩
        have B2 := Lib.hid (B1.out.trans (hB2.mono B1.out.size))
        clear hB2 B1
        go_wp2_with fail
        refine (awake_end HG.out B2.out).mono ?_
        rintro e w2 ⟨rfl, hB2⟩
        go_wp2
        go_ret
        exact ⟨rfl, hB2⟩
      · by_cases hz : n = 0
        · subst hz
          go_enter Tryd.func5, Tryd.ntmps5
          go_wp2_with fail
          refine A1.out.mono ?_
          rintro e w1 ⟨rfl, hB1⟩
          have B1 := Lib.hid hB1
          clear hB1
          go_wp2_with fail
          refine (PP.out w1 (HG.out.below B1.out) _ ⟨by omega, by omega⟩).mono ?_
          rw [PT.out (by omega) _ (by omega), if_pos (by omega)]
          rintro e w2 ⟨rfl, hB2⟩
          have B2 := Lib.hid (B1.out.trans (hB2.mono B1.out.size))
          clear hB2 B1
          go_wp2_with fail
          refine (awake_end HG.out B2.out).mono ?_
          rintro e w2 ⟨rfl, hB2⟩
          go_wp2
          go_ret
          exact ⟨rfl, hB2⟩
        · have hpos : 0 < n := by omega
          clear hneg
          go_enter Tryd.func5, Tryd.ntmps5
          go_wp2_with fail
          refine A1.out.mono ?_
          rintro e w1 ⟨rfl, hB1⟩
          have B1 := Lib.hid hB1
          clear hB1
          go_wp2_with fail
          refine (PP.out w1 (HG.out.below B1.out) _ ⟨by omega, by omega⟩).mono ?_
          rw [PT.out (by omega) _ (by omega), if_pos (by omega)]
          rintro e w2 ⟨rfl, hB2⟩
          have B2 := Lib.hid (B1.out.trans (hB2.mono B1.out.size))
          clear hB2 B1
          go_wp2_with fail
          refine (PP.out w2 (HG.out.below B2.out) _ ⟨by omega, by omega⟩).mono ?_
          rw [PT.out (by omega) _ (by omega), if_neg (by omega)]
          rintro e w3 ⟨rfl, hB3⟩
          have B3 := Lib.hid (B2.out.trans (hB3.mono B2.out.size))
          clear hB3 B2
          go_wp2_with fail
          refine (awake_end HG.out B3.out).mono ?_
          rintro e w2 ⟨rfl, hB2⟩
          go_wp2
          go_ret
          exact ⟨rfl, hB2⟩
  · have ht : textR n b = [] := by rw [textR, if_neg hib]
    rw [ht] at A1
    replace A1 := Lib.hid A1
    have n8 : (b == 8) = false := by simp; exact fun h => hib (by rw [h]; rfl)
    have n10 : (b == 10) = false := by simp; exact fun h => hib (by rw [h]; rfl)
    have n16 : (b == 16) = false := by simp; exact fun h => hib (by rw [h]; rfl)
    have p8 : (b != 8) = true := by simp [bne, n8]
    have p10 : (b != 10) = true := by simp [bne, n10]
    have p16 : (b != 16) = true := by simp [bne, n16]
    clear hib ht g hb hl
    go_enter Tryd.func5, Tryd.ntmps5
    go_wp2_with fail
    refine A1.out.mono ?_
    rintro e w1 ⟨rfl, hB1⟩
    have B1 := Lib.hid hB1
    clear hB1
    go_wp2_with fail
    refine (awake_end HG.out B1.out).mono ?_
    rintro e w2 ⟨rfl, hB2⟩
    go_wp2
    go_ret
    exact ⟨rfl, hB2⟩

set_option maxRecDepth 100000 in
set_option maxHeartbeats 1600000 in
theorem numCanonical_walk (s : ByteArray) (b m : Int) (hs : s.size ≤ maxLen) (hb : inI b) (hm : inI m) (W : World) (g : G W) :
    Calls Tryd.prog 6 #[.string s, .int .i64 b, .int .i64 m] W fun e w' => e = .returned (.bool true) ∧ Below W.heap.size W w' := by
  unfold maxLen at hs
  have HG := Lib.hid g
  by_cases hbig : 2000 < s.size
  · have A := Lib.hid (awake_any W g)
    clear hb hm g
    go_enter Tryd.func6, Tryd.ntmps6
    go_wp2_with fail
    refine A.out.mono ?_
    rintro e w' ⟨rfl, hB⟩
    go_wp2
    go_ret
    exact ⟨rfl, hB⟩
  · have A1 := Parse_any s b m hm (by omega) W g
    have hcase : parseR s.data.toList b m = (0, 1) ∨ parseR s.data.toList b m = (0, 5) ∨ ∃ v : Nat, parseR s.data.toList b m = ((v : Int), 0) ∧ (v : Int) ≤ m ∧ textR (v : Int) b = s.data.toList := by
      unfold parseR
      by_cases h1 : isB b = false ∨ m < 0
      · rw [if_pos h1]; exact .inl rfl
      · rw [if_neg h1]
        have hib : isB b = true := by simp at h1; exact h1.1
        have hb3 := isB_of hib
        cases hc : canon b.toNat s.data.toList with
        | none => exact .inr (.inl rfl)
        | some v =>
          by_cases hv : (v : Int) ≤ m
          · simp only; rw [if_pos hv]
            exact .inr (.inr ⟨v, rfl, hv, by rw [textR, if_pos hib]; exact text_of_canon (by omega) hc⟩)
          · simp only; rw [if_neg hv]; exact .inr (.inl rfl)
    obtain ⟨hm1, hm2⟩ := hm
    rcases hcase with h | h | ⟨v, h, hv, ht⟩
    · rw [h] at A1
      replace A1 := Lib.hid A1
      clear h g hb
      go_enter Tryd.func6, Tryd.ntmps6
      go_wp2_with fail
      refine A1.out.mono ?_
      rintro e w1 ⟨rfl, hB1⟩
      have B1 := Lib.hid hB1
      clear hB1
      go_wp2_with fail
      refine (awake_end HG.out B1.out).mono ?_
      rintro e w2 ⟨rfl, hB2⟩
      go_wp2
      go_ret
      exact ⟨rfl, hB2⟩
    · rw [h] at A1
      replace A1 := Lib.hid A1
      clear h g hb
      go_enter Tryd.func6, Tryd.ntmps6
      go_wp2_with fail
      refine A1.out.mono ?_
      rintro e w1 ⟨rfl, hB1⟩
      have B1 := Lib.hid hB1
      clear hB1
      go_wp2_with fail
      refine (awake_end HG.out B1.out).mono ?_
      rintro e w2 ⟨rfl, hB2⟩
      go_wp2
      go_ret
      exact ⟨rfl, hB2⟩
    · rw [h] at A1
      replace A1 := Lib.hid A1
      have A2 := fun w (g : G w) => Text_any v b ⟨by omega, by omega⟩ w g
      rw [ht] at A2
      replace A2 := Lib.hid A2
      have hq : (s.data.toList == s.toList) = true := by rw [Lib.toList_data]; simp
      clear h g hb ht
      go_enter Tryd.func6, Tryd.ntmps6
      go_wp2_with fail
      refine A1.out.mono ?_
      rintro e w1 ⟨rfl, hB1⟩
      have B1 := Lib.hid hB1
      clear hB1
      go_wp2_with fail
      refine (A2.out w1 (HG.out.below B1.out)).mono ?_
      rintro e w2 ⟨rfl, hB2⟩
      have B2 := Lib.hid (B1.out.trans (hB2.mono B1.out.size))
      clear hB2 B1
      go_wp2_with fail
      refine (awake_end HG.out B2.out).mono ?_
      rintro e w2 ⟨rfl, hB2⟩
      go_wp2
      go_ret
      exact ⟨rfl, hB2⟩
end Go.Proofs.YtddiaoilelcfkaaDoor
