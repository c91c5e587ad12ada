/-
  The reference's Text; Pad, and the reference's Pad.
-/
import Derived.Test.YtddiaoilelcfkaaDoorNe
import Derived.Lib.Repeat
namespace Go.Proofs.YtddiaoilelcfkaaDoor
open Go.RowKit

theorem digs_len (b : Nat) (hb : 2 ≤ b) : ∀ (k n : Nat), n < 2 ^ k → (digs b n).length ≤ k + 1 := by
  intro k
  induction k with
  | zero => intro n h; rw [digs_lt (by omega)]; simp
  | succ k ih =>
    intro n h
    by_cases hn : n < b
    · rw [digs_lt hn]; simp
    · rw [digs_ge hb hn, List.length_append]
      have h2 : n / b ≤ n / 2 := Nat.div_le_div_left hb (by omega)
      rw [Nat.pow_succ] at h
      have := ih (n / b) (by omega)
      simp; omega
theorem textL_len (n : Int) (hn : inI n) (b : Nat) (hb : 2 ≤ b) : (textL n b).length ≤ 66 := by
  have h := digs_len b hb 64 n.natAbs (by have := hn.1; have := hn.2; omega)
  unfold textL; split <;> simp <;> omega
theorem textL_pos (n : Int) (b : Nat) : 0 < (textL n b).length := by
  have h := digs_ne b n.natAbs
  unfold textL; split
  · simp
  · exact List.length_pos_iff.2 h
theorem textR_len (n b : Int) (hn : inI n) : (textR n b).length ≤ 66 := by
  unfold textR; split
  · rename_i h; exact textL_len n hn _ (by simp [isB] at h; omega)
  · simp

theorem app_one (c : UInt8) (l : List UInt8) : (⟨#[c]⟩ : ByteArray) ++ ⟨l.toArray⟩ = ⟨(c :: l).toArray⟩ := by
  apply ByteArray.ext; simp [ByteArray.data_append]
theorem app_two (k l : List UInt8) : (⟨k.toArray⟩ : ByteArray) ++ ⟨l.toArray⟩ = ⟨(k ++ l).toArray⟩ := by
  apply ByteArray.ext; simp [ByteArray.data_append]

set_option maxHeartbeats 400000 in
theorem RText_any (n b : Int) (hn : inI n) (w : World) :
    Calls Tryd.prog 10 #[.int .i64 n, .int .i64 b] w fun e w' => e = .returned (.string ⟨(textR n b).toArray⟩) ∧ w = w' := by
  obtain ⟨hn1, hn2⟩ := hn
  by_cases hb : isB b = true
  · have ht : textR n b = textL n b.toNat := by rw [textR, if_pos hb]
    rw [ht]
    have hb' : b = 8 ∨ b = 10 ∨ b = 16 := by simp [isB] at hb; omega
    have F := refdigits_any b.toNat (by omega) n.natAbs w (by omega)
    rw [show (b.toNat : Int) = b by omega] at F
    have HB := Lib.hid hb
    clear hb hb' ht
    by_cases hneg : n < 0
    · have ht : textL n b.toNat = 45 :: digs b.toNat n.natAbs := by rw [textL, if_pos hneg]
      rw [ht, show (-(n.natAbs : Int)) = n by omega] at *
      have hl := digs_len b.toNat (by have := HB.out; simp [isB] at this; omega) 64 n.natAbs (by omega)
      have F := Lib.hid F
      clear ht
      go_enter Tryd.func10, Tryd.ntmps10
      go_wp2_with (first | (go_at_call 23; refine (based_any _ _).mono ?_; rw [HB.out]; rintro e w' ⟨rfl, rfl⟩) | (go_at_call 24; refine F.out.mono ?_; rintro e w' ⟨rfl, rfl⟩))
      go_ret
      exact ⟨retS (app_one _ _), rfl⟩
    · have ht : textL n b.toNat = digs b.toNat n.natAbs := by rw [textL, if_neg hneg]
      rw [ht]
      clear ht
      rw [show (-(n.natAbs : Int)) = -n by omega] at F
      have F := Lib.hid F
      go_enter Tryd.func10, Tryd.ntmps10
      go_wp2_with (first | (go_at_call 23; refine (based_any _ _).mono ?_; rw [HB.out]; rintro e w' ⟨rfl, rfl⟩) | (go_at_call 24; refine F.out.mono ?_; rintro e w' ⟨rfl, rfl⟩))
      go_ret
      exact ⟨rfl, rfl⟩
  · have hb : isB b = false := by simpa using hb
    have ht : textR n b = [] := by rw [textR, if_neg (by simp [hb])]
    rw [ht]
    have HB := Lib.hid hb
    clear hb ht
    go_enter Tryd.func10, Tryd.ntmps10
    go_wp2_with (go_at_call 23; refine (based_any _ _).mono ?_; rw [HB.out]; rintro e w' ⟨rfl, rfl⟩)
    go_ret
    exact ⟨rfl, rfl⟩

/-- What Pad returns. -/
def padR (n b wd : Int) : List UInt8 := if n < 0 ∨ isB b = false then [] else List.replicate ((min (max wd 0) 64).toNat - (textR n b).length) 48 ++ textR n b
theorem repeat_zero (c : Nat) : Lib.repeatL [48] c = List.replicate c 48 := by
  induction c with
  | zero => rfl
  | succ c ih => simp [Lib.repeatL, ih, List.replicate_succ]

set_option maxHeartbeats 400000 in
theorem Pad_any (n b wd : Int) (hn : inI n) (hwd : inI wd) (w : World) (g : G w) :
    Calls Tryd.prog 11 #[.int .i64 n, .int .i64 b, .int .i64 wd] w fun e w' => e = .returned (.string ⟨(padR n b wd).toArray⟩) ∧ Below w.heap.size w w' := by
  by_cases hneg : n < 0
  · have ht : padR n b wd = [] := by rw [padR, if_pos (.inl hneg)]
    rw [ht]
    clear ht
    go_enter Tryd.func11, Tryd.ntmps11
    go_wp2
    go_ret
    exact ⟨rfl, Below.refl _ _⟩
  by_cases hb : isB b = true
  · have ht : padR n b wd = List.replicate ((min (max wd 0) 64).toNat - (textR n b).length) 48 ++ textR n b := by rw [padR, if_neg (by simp [hb]; omega)]
    rw [ht]
    have F := Lib.hid (Text_any n b hn w g)
    have hl := textR_len n b hn
    obtain ⟨hn1, hn2⟩ := hn
    obtain ⟨hw1, hw2⟩ := hwd
    generalize textR n b = t at F hl
    obtain ⟨c, hc⟩ : ∃ c : Nat, c = (min (max wd 0) 64).toNat - t.length := ⟨_, rfl⟩
    rw [← hc]
    have hcb : c ≤ 64 := by omega
    have hrl : (Lib.repeatL [48] c).length ≤ 64 := by rw [repeat_zero]; simp; omega
    have R := fun W => Lib.hid (Tryd.strings_Repeat ⟨#[48]⟩ c W (by omega) (by show 1 * c ≤ _; omega))
    have hmx : max (min (max wd 0) 64 - (t.length : Int)) 0 = c := by omega
    have HB := Lib.hid hb
    clear hb ht g hc
    go_enter Tryd.func11, Tryd.ntmps11
    go_wp2_with (first | (go_at_call 21; refine (isBase_any _ _).mono ?_; rw [HB.out]; rintro e w' ⟨rfl, rfl⟩) | (go_at_call 9; refine F.out.mono ?_; rintro e w1 ⟨rfl, hB1⟩) | (go_at_call 25; refine (R _).out.mono ?_; rintro e w2 ⟨rfl, hB2⟩))
    go_ret
    exact ⟨retS (by rw [repeat_zero, app_two]), hB1.trans (hB2.mono hB1.size)⟩
  · have hb : isB b = false := by simpa using hb
    have ht : padR n b wd = [] := by rw [padR, if_pos (.inr hb)]
    rw [ht]
    have HB := Lib.hid hb
    clear hb ht
    go_enter Tryd.func11, Tryd.ntmps11
    go_wp2_with (go_at_call 21; refine (isBase_any _ _).mono ?_; rw [HB.out]; rintro e w' ⟨rfl, rfl⟩)
    go_ret
    exact ⟨rfl, Below.refl _ _⟩

def lenOf (v : Value) : Nat := match v with | .string s => s.data.toList.length | _ => 0
theorem lenOf_list (l : List UInt8) : lenOf (.string ⟨l.toArray⟩) = l.length := by simp [lenOf]

set_option maxHeartbeats 400000 in
theorem RPad_any (n b wd : Int) (hn : inI n) (hwd : inI wd) (w : World) :
    Calls Tryd.prog 12 #[.int .i64 n, .int .i64 b, .int .i64 wd] w fun e w' => e = .returned (.string ⟨(padR n b wd).toArray⟩) ∧ w = w' := by
  by_cases hneg : n < 0
  · have ht : padR n b wd = [] := by rw [padR, if_pos (.inl hneg)]
    rw [ht]
    clear ht
    go_enter Tryd.func12, Tryd.ntmps12
    go_wp2
    go_ret
    exact ⟨rfl, rfl⟩
  by_cases hb : isB b = true
  · have ht : padR n b wd = List.replicate ((min (max wd 0) 64).toNat - (textR n b).length) 48 ++ textR n b := by rw [padR, if_neg (by simp [hb]; omega)]
    rw [ht]
    have F := Lib.hid (RText_any n b hn w)
    have hl := textR_len n b hn
    have hl0 : 0 < (textR n b).length := by unfold textR; rw [if_pos hb]; exact textL_pos _ _
    obtain ⟨hn1, hn2⟩ := hn
    obtain ⟨hw1, hw2⟩ := hwd
    generalize textR n b = t at F hl hl0
    have HB := Lib.hid hb
    clear hb ht
    go_enter Tryd.func12, Tryd.ntmps12
    go_wp2_with (first | (go_at_call 23; refine (based_any _ _).mono ?_; rw [HB.out]; rintro e w' ⟨rfl, rfl⟩) | (go_at_call 10; refine F.out.mono ?_; rintro e w1 ⟨rfl, rfl⟩))
    go_loop [7] (fun vs => ∃ k : Nat, vs = .string ⟨(List.replicate k (48 : UInt8) ++ t).toArray⟩ ∧ k + t.length ≤ max t.length (min (max wd 0) 64).toNat) (fun vs => 200 - lenOf vs)
    case atStart => exact ⟨0, rfl, by omega⟩
    case round =>
      obtain ⟨k, rfl, hk⟩ := hrel
      by_cases hlt : (k : Int) + t.length < wd ∧ k + t.length < 64
      · obtain ⟨h1, h2⟩ := hlt
        go_wp2
        rw [app_one]
        refine ⟨⟨k + 1, by rw [List.replicate_succ]; rfl, by omega⟩, ?_⟩
        rw [lenOf_list, lenOf_list]
        simp
        omega
      · by_cases h1 : (k : Int) + t.length < wd
        · have h2 : 64 ≤ k + t.length := by omega
          clear hlt
          go_wp2
          go_ret
          refine ⟨retS ?_, rfl⟩
          have : k = (min (max wd 0) 64).toNat - t.length := by omega
          rw [this]
        · clear hlt
          go_wp2
          go_ret
          refine ⟨retS ?_, rfl⟩
          have : k = (min (max wd 0) 64).toNat - t.length := by omega
          rw [this]
  · have hb : isB b = false := by simpa using hb
    have ht : padR n b wd = [] := by rw [padR, if_pos (.inr hb)]
    rw [ht]
    have HB := Lib.hid hb
    clear hb ht
    go_enter Tryd.func12, Tryd.ntmps12
    go_wp2_with (go_at_call 23; refine (based_any _ _).mono ?_; rw [HB.out]; rintro e w' ⟨rfl, rfl⟩)
    go_ret
    exact ⟨rfl, rfl⟩
end Go.Proofs.YtddiaoilelcfkaaDoor
