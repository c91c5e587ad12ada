/-
  The walks over the statements of layer 6, last part: what is granted.
-/
import Derived.Test.YtogjkkijejgggaaDoorMr
import Derived.Deep.QuietTactic
import Derived.BigQuiet
namespace Go.Proofs.YtogjkkijejgggaaDoor
open Go.RowKit

theorem i64_and511 (n : Int) : bits .and .i64 n 511 = n % 512 := by
  have h511 : (BitVec.ofInt 64 511).toNat = 2 ^ 9 - 1 := by decide
  have key : (BitVec.ofInt 64 n &&& BitVec.ofInt 64 511).toNat = (n % ((2 ^ 64 : Nat) : Int)).toNat % 2 ^ 9 := by
    rw [BitVec.toNat_and, BitVec.toNat_ofInt, h511, Nat.and_two_pow_sub_one_eq_mod]
  show IntKind.i64.wrap ((BitVec.ofInt 64 n &&& BitVec.ofInt 64 511).toNat : Nat) = n % 512
  rw [key, IntKind.wrap_i64]
  omega
theorem i64_and_left (W : Nat) (hW : W < 9223372036854775808) (x : Int) : ∃ X : Nat, bits .and .i64 (W : Int) x = ((W &&& X : Nat) : Int) := by
  refine ⟨(BitVec.ofInt 64 x).toNat, ?_⟩
  have hle : W &&& (BitVec.ofInt 64 x).toNat ≤ W := Nat.and_le_left
  show IntKind.i64.wrap ((BitVec.ofInt 64 (W : Int) &&& BitVec.ofInt 64 x).toNat : Nat) = _
  rw [BitVec.toNat_and, ofInt_i64 W hW, IntKind.wrap_i64]
  omega
theorem pw_shift8 (k : Nat) (hk : k < 3) : 8 * pw k = ((2 ^ (k + 3) : Nat) : Int) := by
  rw [pw_pow k (by omega), Nat.pow_add]; omega
theorem pw_shift64 (k : Nat) (hk : k < 3) : 64 * pw k = ((2 ^ (k + 6) : Nat) : Int) := by
  rw [pw_pow k (by omega), Nat.pow_add]; omega
theorem gr_mono (mem own : Bool) (M N : Nat) (k : Nat) (hk : k < 3) (h : ∀ i, M.testBit i = true → N.testBit i = true) (hg : grK mem own (M : Int) k = true) : grK mem own (N : Int) k = true := by
  unfold grK at hg ⊢
  rw [pw_shift8 k hk, pw_shift64 k hk, pw_pow k (by omega), bitB_nat, bitB_nat, bitB_nat] at hg ⊢
  simp only [Bool.or_eq_true, Bool.and_eq_true] at hg ⊢
  rcases hg with (a | ⟨a, b⟩) | ⟨a, b⟩
  · exact .inl (.inl (h _ a))
  · exact .inl (.inr ⟨h _ a, b⟩)
  · exact .inr ⟨h _ a, b⟩
theorem ok_intro {mem own : Bool} {m want : Int} {k : Nat} (h : bitB want (pw k) = true → grK mem own m k = true) : okK mem own m want k = true := by
  unfold okK
  cases hb : bitB want (pw k)
  · rfl
  · rw [h hb]; rfl
theorem ok_elim {mem own : Bool} {m want : Int} {k : Nat} (h : okK mem own m want k = true) (hb : bitB want (pw k) = true) : grK mem own m k = true := by
  unfold okK at h; rw [hb] at h; simpa using h
theorem allows_ok {mem own : Bool} {m want : Int} (h : allowsI mem own m want = true) : ∀ k, k < 3 → okK mem own m want k = true := by
  unfold allowsI at h
  simp only [Bool.and_eq_true, decide_eq_true_eq] at h
  obtain ⟨_, ⟨a, b⟩, c⟩ := h
  intro k hk
  match k, hk with
  | 0, _ => exact a
  | 1, _ => exact b
  | 2, _ => exact c
  | n + 3, h => omega
theorem grants (mem own : Bool) {m want : Int} (x0 x1 : Int) (m0 : 0 ≤ m) (m1 : m ≤ 511) (w0 : 0 ≤ want) (w1 : want ≤ 7) :
    0 ≤ bits .or .i64 m (bits .and .i64 x0 511) ∧ bits .or .i64 m (bits .and .i64 x0 511) ≤ 511 ∧ 0 ≤ bits .and .i64 want x1 ∧ bits .and .i64 want x1 ≤ 7 ∧
    (allowsI mem own m want = true → allowsI mem own (bits .or .i64 m (bits .and .i64 x0 511)) want = true ∧ allowsI mem own m (bits .and .i64 want x1) = true) ∧
    allowsI mem own m (bits .and .i64 m 7) = true ∧ (own = true → allowsI mem own m (m / 64) = true) := by
  obtain ⟨M, rfl⟩ := Int.eq_ofNat_of_zero_le m0
  obtain ⟨V, rfl⟩ := Int.eq_ofNat_of_zero_le w0
  rw [i64_and511]
  obtain ⟨Y, hY⟩ := Int.eq_ofNat_of_zero_le (show 0 ≤ x0 % 512 by omega)
  have hY2 : Y < 512 := by omega
  rw [hY, i64_or_nat M Y (by omega) (by omega)]
  have hor : M ||| Y < 2 ^ 9 := Nat.or_lt_two_pow (by omega) (by omega)
  obtain ⟨X, hX⟩ := i64_and_left V (by omega) x1
  have hand : V &&& X ≤ V := Nat.and_le_left
  have h7 : bits .and .i64 (M : Int) 7 = ((M &&& 7 : Nat) : Int) := i64_and_nat M 7 (by omega) (by decide)
  have hle7 : M &&& 7 ≤ 7 := Nat.and_le_right
  have hq : (M : Int) / 64 = ((M / 64 : Nat) : Int) := by omega
  rw [hX, h7, hq]
  refine ⟨by omega, by omega, by omega, by omega, fun ha => ⟨?_, ?_⟩, ?_, fun ho => ?_⟩
  · refine allows_true ⟨by omega, by omega, by omega⟩ (fun k hk => ok_intro fun hb => ?_)
    exact gr_mono mem own M _ k hk (fun i hi => by rw [Nat.testBit_or, hi]; rfl) (ok_elim (allows_ok ha k hk) hb)
  · refine allows_true ⟨by omega, by omega, by omega⟩ (fun k hk => ok_intro fun hb => ?_)
    refine ok_elim (allows_ok ha k hk) ?_
    rw [pw_pow k (by omega), bitB_nat] at hb ⊢
    rw [Nat.testBit_and] at hb
    simp only [Bool.and_eq_true] at hb
    exact hb.1
  · refine allows_true ⟨by omega, by omega, by omega⟩ (fun k hk => ok_intro fun hb => ?_)
    rw [pw_pow k (by omega), bitB_nat, Nat.testBit_and] at hb
    simp only [Bool.and_eq_true] at hb
    unfold grK
    rw [pw_pow k (by omega), bitB_nat, hb.1]; rfl
  · refine allows_true ⟨by omega, by omega, by omega⟩ (fun k hk => ok_intro fun hb => ?_)
    rw [pw_pow k (by omega), bitB_nat] at hb
    have e := Nat.testBit_div_two_pow (n := 6) M k
    rw [show (2 : Nat) ^ 6 = 64 from rfl] at e
    rw [e] at hb
    unfold grK
    rw [pw_shift64 k hk, bitB_nat, hb, ho]; simp

set_option maxRecDepth 100000 in
set_option maxHeartbeats 6400000 in
theorem permGrants_walk (v : Value) (L : List U) (x u g : List UInt8) (m want : Int) (x0 x1 : Int) (hi : inI m) (hwi : inI want) (hx0 : inI x0) (hx1 : inI x1) (W : World) (hU : URow W v L) (gg : G W) :
    Calls Tryd.prog 7 #[v, .agg #[.string (mk x), .string (mk u), .string (mk g), .int .i64 m, .int .i64 want], .agg #[.int .i64 x0, .int .i64 x1]] W fun e w' => e = .returned (.bool true) ∧ Below W.heap.size W w' := by
  have A := Lib.hid (fun w' (h : Below W.heap.size W w') => alive_any w' (gg.below h))
  have hB1 := (Below.refl W.heap.size W).alloc (Nat.le_refl _) (.cells #[.string (mk x), .string (mk u), .string (mk g), .int .i64 m, .int .i64 want] 34 (0, 0))
  have hB2 := hB1.alloc (by simp) (.cells #[.int .i64 x0, .int .i64 x1] 38 (0, 0))
  have F := Lib.hid (few_any v L _ (hU.below hB2))
  have PA := Lib.hid (fun hl hm m want (hi : inI m) w' (h : Below W.heap.size W w') => Allows_any v L x u g m want hi w' (hU.below h) hl hm)
  have hFO : Hid (∀ b, FewOk L b → b = true → L.length ≤ 100000 ∧ Memb L 1000000) := fun b h => h
  have hx : ((W.alloc (.cells #[.string (mk x), .string (mk u), .string (mk g), .int .i64 m, .int .i64 want] 34 (0, 0))).alloc (.cells #[.int .i64 x0, .int .i64 x1] 38 (0, 0))).heap[W.heap.size]? = some (.cells #[.string (mk x), .string (mk u), .string (mk g), .int .i64 m, .int .i64 want] 34 (0, 0)) := (Below.heap_alloc _ _ _ (by simp)).trans (heap_alloc_new W _)
  have hy : ((W.alloc (.cells #[.string (mk x), .string (mk u), .string (mk g), .int .i64 m, .int .i64 want] 34 (0, 0))).alloc (.cells #[.int .i64 x0, .int .i64 x1] 38 (0, 0))).heap[W.heap.size + 1]? = some (.cells #[.int .i64 x0, .int .i64 x1] 38 (0, 0)) := by have := heap_alloc_new (W.alloc (.cells #[.string (mk x), .string (mk u), .string (mk g), .int .i64 m, .int .i64 want] 34 (0, 0))) (.cells #[.int .i64 x0, .int .i64 x1] 38 (0, 0)); simpa using this
  have c0 := Joins.cell_of_block hx 0
  have c1 := Joins.cell_of_block hx 1
  have c2 := Joins.cell_of_block hx 2
  have c3 := Joins.cell_of_block hx 3
  have c4 := Joins.cell_of_block hx 4
  have d0 := Joins.cell_of_block hy 0
  have d1 := Joins.cell_of_block hy 1
  have hlt : W.heap.size < ((W.alloc (.cells #[.string (mk x), .string (mk u), .string (mk g), .int .i64 m, .int .i64 want] 34 (0, 0))).alloc (.cells #[.int .i64 x0, .int .i64 x1] 38 (0, 0))).heap.size := by simp; omega
  have hlt1 : W.heap.size + 1 < ((W.alloc (.cells #[.string (mk x), .string (mk u), .string (mk g), .int .i64 m, .int .i64 want] 34 (0, 0))).alloc (.cells #[.int .i64 x0, .int .i64 x1] 38 (0, 0))).heap.size := by simp
  have HB := Lib.hid hB2
  clear hB1 hB2 hx hy gg hU
  obtain ⟨hi1, hi2⟩ := hi
  obtain ⟨hwi1, hwi2⟩ := hwi
  obtain ⟨hx01, hx02⟩ := hx0
  obtain ⟨hx11, hx12⟩ := hx1
  have hq : ((mk x).toList == (mk u).toList) = (x == u) := by rw [mk_toList, mk_toList]
  generalize FewOk L = Ok at *
  generalize memberL L x g = mem at *
  generalize (x == u) = own at *
  go_enter Tryd.func7, Tryd.ntmps7
  go_wp2_with fail
  refine F.out.mono ?_
  rintro e w' ⟨b, rfl, hb, rfl⟩
  replace hb := Lib.hid hb
  clear F
  generalize ((W.alloc (.cells #[.string (mk x), .string (mk u), .string (mk g), .int .i64 m, .int .i64 want] 34 (0, 0))).alloc (.cells #[.int .i64 x0, .int .i64 x1] 38 (0, 0))) = W2 at *
  cases b
  · go_wp2_with fail
    refine (A.out _ HB.out).mono ?_
    rintro e w9 ⟨rfl, hB⟩
    replace HB := Lib.hid (HB.out.trans (hB.mono HB.out.size))
    clear hB
    go_wp2
    go_ret
    exact ⟨rfl, HB.out⟩
  · obtain ⟨hl, hm⟩ := hFO.out _ hb.out rfl
    replace PA := Lib.hid (PA.out hl hm)
    clear hl hm hb
    by_cases hgood : (0 ≤ m ∧ m ≤ 511) ∧ (0 ≤ want ∧ want ≤ 7)
    · obtain ⟨⟨m0, m1⟩, w0, w1⟩ := hgood
      obtain ⟨q0, q1, q2, q3, q4, q5, q6⟩ := grants mem own x0 x1 m0 m1 w0 w1
      have P1 := fun w' h => PA.out m want ⟨hi1, hi2⟩ w' h
      have P2 := fun w' h => PA.out (bits .or .i64 m (bits .and .i64 x0 511)) want ⟨by omega, by omega⟩ w' h
      have P3 := fun w' h => PA.out m (bits .and .i64 want x1) ⟨hi1, hi2⟩ w' h
      have P4 := fun w' h => PA.out m (bits .and .i64 m 7) ⟨hi1, hi2⟩ w' h
      have P5 := fun w' h => PA.out m (m / 64) ⟨hi1, hi2⟩ w' h
      rw [q5] at P4
      generalize allowsI mem own m want = r1 at *
      generalize allowsI mem own (bits .or .i64 m (bits .and .i64 x0 511)) want = r2 at *
      generalize allowsI mem own m (bits .and .i64 want x1) = r3 at *
      generalize allowsI mem own m (m / 64) = r5 at *
      have h1 := Lib.hid P1
      have h2 := Lib.hid P2
      have h3 := Lib.hid P3
      have h4 := Lib.hid P4
      have h5 := Lib.hid P5
      replace q4 := Lib.hid q4
      replace q6 := Lib.hid q6
      clear P1 P2 P3 P4 P5 PA q5
      go_wp2
      go_quiet (fail)
      replace c0 : (W2.drewN nq).cell? ⟨W.heap.size, 0, none⟩ = _ := c0
      replace c1 : (W2.drewN nq).cell? ⟨W.heap.size, 1, none⟩ = _ := c1
      replace c2 : (W2.drewN nq).cell? ⟨W.heap.size, 2, none⟩ = _ := c2
      replace c3 : (W2.drewN nq).cell? ⟨W.heap.size, 3, none⟩ = _ := c3
      replace c4 : (W2.drewN nq).cell? ⟨W.heap.size, 4, none⟩ = _ := c4
      replace HB : Hid (Below W.heap.size W (W2.drewN nq)) := below_drewN HB.out nq
      replace hlt : W.heap.size < (W2.drewN nq).heap.size := hlt
      clear d0 d1 hlt1
      generalize W2.drewN nq = W3 at *
      cases r1
      · go_wp2_with fail
        refine (h1.out _ HB.out).mono ?_
        rintro e w1 ⟨rfl, hB⟩
        replace c0 := cell_below (W := W) hB hlt c0
        replace c1 := cell_below (W := W) hB hlt c1
        replace c2 := cell_below (W := W) hB hlt c2
        replace c3 := cell_below (W := W) hB hlt c3
        replace c4 := cell_below (W := W) hB hlt c4
        replace HB := Lib.hid (HB.out.trans (hB.mono HB.out.size))
        replace hlt := Nat.lt_of_lt_of_le hlt hB.size
        clear hB
        go_wp2_with fail
        refine (h4.out _ HB.out).mono ?_
        rintro e w4 ⟨rfl, hB⟩
        replace c0 := cell_below (W := W) hB hlt c0
        replace c1 := cell_below (W := W) hB hlt c1
        replace c2 := cell_below (W := W) hB hlt c2
        replace c3 := cell_below (W := W) hB hlt c3
        replace c4 := cell_below (W := W) hB hlt c4
        replace HB := Lib.hid (HB.out.trans (hB.mono HB.out.size))
        replace hlt := Nat.lt_of_lt_of_le hlt hB.size
        clear hB
        cases own
        · go_wp2_with fail
          refine (A.out _ HB.out).mono ?_
          rintro e w9 ⟨rfl, hB⟩
          replace HB := Lib.hid (HB.out.trans (hB.mono HB.out.size))
          clear hB
          go_wp2
          go_ret
          exact ⟨rfl, HB.out⟩
        · obtain rfl : r5 = true := q6.out rfl
          go_wp2_with fail
          refine (h5.out _ HB.out).mono ?_
          rintro e w5 ⟨rfl, hB⟩
          replace c0 := cell_below (W := W) hB hlt c0
          replace c1 := cell_below (W := W) hB hlt c1
          replace c2 := cell_below (W := W) hB hlt c2
          replace c3 := cell_below (W := W) hB hlt c3
          replace c4 := cell_below (W := W) hB hlt c4
          replace HB := Lib.hid (HB.out.trans (hB.mono HB.out.size))
          replace hlt := Nat.lt_of_lt_of_le hlt hB.size
          clear hB
          go_wp2_with fail
          refine (A.out _ HB.out).mono ?_
          rintro e w9 ⟨rfl, hB⟩
          replace HB := Lib.hid (HB.out.trans (hB.mono HB.out.size))
          clear hB
          go_wp2
          go_ret
          exact ⟨rfl, HB.out⟩
      · obtain ⟨rfl, rfl⟩ : r2 = true ∧ r3 = true := q4.out rfl
        go_wp2_with fail
        refine (h1.out _ HB.out).mono ?_
        rintro e w1 ⟨rfl, hB⟩
        replace c0 := cell_below (W := W) hB hlt c0
        replace c1 := cell_below (W := W) hB hlt c1
        replace c2 := cell_below (W := W) hB hlt c2
        replace c3 := cell_below (W := W) hB hlt c3
        replace c4 := cell_below (W := W) hB hlt c4
        replace HB := Lib.hid (HB.out.trans (hB.mono HB.out.size))
        replace hlt := Nat.lt_of_lt_of_le hlt hB.size
        clear hB
        go_wp2_with fail
        refine (h2.out _ HB.out).mono ?_
        rintro e w2 ⟨rfl, hB⟩
        replace c0 := cell_below (W := W) hB hlt c0
        replace c1 := cell_below (W := W) hB hlt c1
        replace c2 := cell_below (W := W) hB hlt c2
        replace c3 := cell_below (W := W) hB hlt c3
        replace c4 := cell_below (W := W) hB hlt c4
        replace HB := Lib.hid (HB.out.trans (hB.mono HB.out.size))
        replace hlt := Nat.lt_of_lt_of_le hlt hB.size
        clear hB
        go_wp2_with fail
        refine (h3.out _ HB.out).mono ?_
        rintro e w3 ⟨rfl, hB⟩
        replace c0 := cell_below (W := W) hB hlt c0
        replace c1 := cell_below (W := W) hB hlt c1
        replace c2 := cell_below (W := W) hB hlt c2
        replace c3 := cell_below (W := W) hB hlt c3
        replace c4 := cell_below (W := W) hB hlt c4
        replace HB := Lib.hid (HB.out.trans (hB.mono HB.out.size))
        replace hlt := Nat.lt_of_lt_of_le hlt hB.size
        clear hB
        go_wp2_with fail
        refine (h4.out _ HB.out).mono ?_
        rintro e w4 ⟨rfl, hB⟩
        replace c0 := cell_below (W := W) hB hlt c0
        replace c1 := cell_below (W := W) hB hlt c1
        replace c2 := cell_below (W := W) hB hlt c2
        replace c3 := cell_below (W := W) hB hlt c3
        replace c4 := cell_below (W := W) hB hlt c4
        replace HB := Lib.hid (HB.out.trans (hB.mono HB.out.size))
        replace hlt := Nat.lt_of_lt_of_le hlt hB.size
        clear hB
        cases own
        · go_wp2_with fail
          refine (A.out _ HB.out).mono ?_
          rintro e w9 ⟨rfl, hB⟩
          replace HB := Lib.hid (HB.out.trans (hB.mono HB.out.size))
          clear hB
          go_wp2
          go_ret
          exact ⟨rfl, HB.out⟩
        · obtain rfl : r5 = true := q6.out rfl
          go_wp2_with fail
          refine (h5.out _ HB.out).mono ?_
          rintro e w5 ⟨rfl, hB⟩
          replace c0 := cell_below (W := W) hB hlt c0
          replace c1 := cell_below (W := W) hB hlt c1
          replace c2 := cell_below (W := W) hB hlt c2
          replace c3 := cell_below (W := W) hB hlt c3
          replace c4 := cell_below (W := W) hB hlt c4
          replace HB := Lib.hid (HB.out.trans (hB.mono HB.out.size))
          replace hlt := Nat.lt_of_lt_of_le hlt hB.size
          clear hB
          go_wp2_with fail
          refine (A.out _ HB.out).mono ?_
          rintro e w9 ⟨rfl, hB⟩
          replace HB := Lib.hid (HB.out.trans (hB.mono HB.out.size))
          clear hB
          go_wp2
          go_ret
          exact ⟨rfl, HB.out⟩
    · by_cases m0 : 0 ≤ m
      · by_cases m1 : m ≤ 511
        · by_cases w0 : 0 ≤ want
          · have w1 : 7 < want := by omega
            clear hgood
            go_wp2_with fail
            refine (A.out _ HB.out).mono ?_
            rintro e w9 ⟨rfl, hB⟩
            replace HB := Lib.hid (HB.out.trans (hB.mono HB.out.size))
            clear hB
            go_wp2
            go_ret
            exact ⟨rfl, HB.out⟩
          · clear hgood
            go_wp2_with fail
            refine (A.out _ HB.out).mono ?_
            rintro e w9 ⟨rfl, hB⟩
            replace HB := Lib.hid (HB.out.trans (hB.mono HB.out.size))
            clear hB
            go_wp2
            go_ret
            exact ⟨rfl, HB.out⟩
        · clear hgood
          go_wp2_with fail
          refine (A.out _ HB.out).mono ?_
          rintro e w9 ⟨rfl, hB⟩
          replace HB := Lib.hid (HB.out.trans (hB.mono HB.out.size))
          clear hB
          go_wp2
          go_ret
          exact ⟨rfl, HB.out⟩
      · clear hgood
        go_wp2_with fail
        refine (A.out _ HB.out).mono ?_
        rintro e w9 ⟨rfl, hB⟩
        replace HB := Lib.hid (HB.out.trans (hB.mono HB.out.size))
        clear hB
        go_wp2
        go_ret
        exact ⟨rfl, HB.out⟩
end Go.Proofs.YtogjkkijejgggaaDoor
