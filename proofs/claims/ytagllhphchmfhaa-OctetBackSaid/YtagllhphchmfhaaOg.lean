/-
  Hexadecimal digits: plain functions and lemmas; the reference's digit; strings.IndexByte over the digits.
-/
import Derived.Test.YtagllhphchmfhaaOf
import Derived.Lib.Strings
import Derived.Handy
namespace Go.Proofs.Ytagllhphchmfhaa
open Go.RowKit

/-- The digits. -/
def digS : ByteArray := ⟨#[48, 49, 50, 51, 52, 53, 54, 55, 56, 57, 97, 98, 99, 100, 101, 102]⟩
/-- The letter of a digit. -/
def dch (d : Nat) : UInt8 := if d < 10 then UInt8.ofNat (48 + d) else UInt8.ofNat (87 + d)
/-- The value of a digit; -1 if the byte is none. -/
def digV (c : UInt8) : Int := if 48 ≤ c.toNat ∧ c.toNat ≤ 57 then c.toNat - 48 else if 97 ≤ c.toNat ∧ c.toNat ≤ 102 then c.toNat - 87 else -1
/-- The hexadecimal form. -/
def hexL : List UInt8 → List UInt8
  | [] => []
  | c :: l => dch (c.toNat / 16) :: dch (c.toNat % 16) :: hexL l
/-- The bytes whose hexadecimal form it is. -/
def unhexL : List UInt8 → Option (List UInt8)
  | [] => some []
  | [_] => none
  | a :: b :: l => if digV a < 0 ∨ digV b < 0 then none else (unhexL l).map (UInt8.ofNat (16 * (digV a).toNat + (digV b).toNat) :: ·)
/-- What Unhex comes to (2: ErrForm). -/
def unhexR (l : List UInt8) : List UInt8 × Int := match unhexL l with | none => ([], 2) | some r => (r, 0)

theorem digV_lt (c : UInt8) : -1 ≤ digV c ∧ digV c ≤ 15 := by unfold digV; (repeat' split) <;> omega
theorem digV_dch : ∀ d : Fin 16, digV (dch d.val) = d.val := by decide
theorem dch_digV (c : UInt8) (h : ¬ digV c < 0) : dch (digV c).toNat = c := by
  have hc := c.toNat_lt
  unfold digV at h ⊢
  apply UInt8.toNat_inj.1
  split at h
  · rename_i h1
    rw [if_pos h1, dch, if_pos (by omega), UInt8.toNat_ofNat']; omega
  · rename_i h1
    rw [if_neg h1]
    split at h
    · rename_i h2
      rw [if_pos h2, dch, if_neg (by omega), UInt8.toNat_ofNat']; omega
    · omega
theorem unhex_hex (l : List UInt8) : unhexL (hexL l) = some l := by
  induction l with
  | nil => rfl
  | cons c l ih =>
    have hc := c.toNat_lt
    have h1 := digV_dch ⟨c.toNat / 16, by omega⟩
    have h2 := digV_dch ⟨c.toNat % 16, by omega⟩
    simp only at h1 h2
    rw [hexL, unhexL, h1, h2, if_neg (by omega), ih]
    simp only [Option.map_some, Option.some.injEq, List.cons.injEq, and_true]
    rw [show 16 * ((c.toNat / 16 : Nat) : Int).toNat + ((c.toNat % 16 : Nat) : Int).toNat = c.toNat by omega]
    simp
theorem hex_unhex : ∀ (l r : List UInt8), unhexL l = some r → hexL r = l
  | [], r, h => by cases h; rfl
  | [_], r, h => by cases h
  | a :: b :: l, r, h => by
    rw [unhexL] at h
    split at h
    · cases h
    · rename_i hd
      obtain ⟨t, ht, rfl⟩ := Option.map_eq_some_iff.1 h
      have ha := digV_lt a
      have hb := digV_lt b
      rw [hexL, hex_unhex l t ht]
      have e : (UInt8.ofNat (16 * (digV a).toNat + (digV b).toNat)).toNat = 16 * (digV a).toNat + (digV b).toNat := by rw [UInt8.toNat_ofNat']; omega
      rw [e, show (16 * (digV a).toNat + (digV b).toNat) / 16 = (digV a).toNat by omega, show (16 * (digV a).toNat + (digV b).toNat) % 16 = (digV b).toNat by omega, dch_digV a (by omega), dch_digV b (by omega)]
theorem hexL_len (l : List UInt8) : (hexL l).length = 2 * l.length := by induction l with
  | nil => rfl
  | cons c l ih => simp only [hexL, List.length_cons, ih]; omega
theorem hexL_snoc (l : List UInt8) (c : UInt8) : hexL (l ++ [c]) = hexL l ++ [dch (c.toNat / 16), dch (c.toNat % 16)] := by induction l with
  | nil => rfl
  | cons d l ih => simp only [hexL, List.cons_append, ih]
theorem unhexL_odd : ∀ (l : List UInt8), l.length % 2 ≠ 0 → unhexL l = none
  | [], h => by simp at h
  | [_], _ => rfl
  | a :: b :: l, h => by
    rw [unhexL, unhexL_odd l (by simp only [List.length_cons] at h; omega)]
    split <;> rfl

theorem at_dig (d : Nat) (hd : d < 16) (h : d < digS.size) : digS[d]'h = dch d := by
  have : ∀ d : Fin 16, digS[d.val]'(by have := d.isLt; show d.val < 16; omega) = dch d.val := by decide
  exact this ⟨d, hd⟩
theorem index_dig (c : UInt8) : Lib.indexByte digS.data.toList c = digV c := by
  have h : ∀ d : Fin 256, Lib.indexByte digS.data.toList (UInt8.ofNat d.val) = digV (UInt8.ofNat d.val) := by decide +kernel
  have := h ⟨c.toNat, c.toNat_lt⟩
  simpa using this

set_option maxRecDepth 100000 in
set_option maxHeartbeats 800000 in
theorem digit_any (c : UInt8) (w : World) :
    Calls Try.prog 25 #[.int .u8 (c.toNat : Int)] w fun e w' => e = .returned (.int .i64 (digV c)) ∧ w = w' := by
  go_enter Try.func25, Try.ntmps25
  go_wp2
  go_loop [3] (fun vi => ∃ k : Nat, vi = .int .i64 (k : Int) ∧ k ≤ 16 ∧ Hid (∀ j, j < k → dch j ≠ c)) (fun vi => 16 - (intOf vi).toNat)
  case atStart => exact ⟨0, rfl, by omega, fun j h => by omega⟩
  case round =>
    obtain ⟨k, rfl, hk, hn⟩ := hrel
    by_cases hk16 : k < 16
    · have hd := at_dig k hk16
      unfold digS at hd
      by_cases hc : dch k = c
      · have hR : digV c = k := by rw [← hc]; exact digV_dch ⟨k, hk16⟩
        have HR := Lib.hid hR
        have hq : (((dch k).toNat : Int) == (c.toNat : Int)) = true := by rw [hc]; simp
        clear hR hc
        go_wp2
        go_ret
        rw [HR.out]
        exact ⟨rfl, rfl⟩
      · have hq : (((dch k).toNat : Int) == (c.toNat : Int)) = false := by
          rw [beq_eq_false_iff_ne]; intro h; exact hc (UInt8.toNat_inj.1 (by omega))
        have HC := Lib.hid hc
        clear hc
        go_wp2
        exact ⟨⟨k + 1, by go_num, by omega, fun j hj => by
          rcases Nat.lt_or_ge j k with h | h
          · exact hn.out j h
          · obtain rfl : j = k := by omega
            exact HC.out⟩, by simp [intOf]; omega⟩
    · obtain rfl : k = 16 := by omega
      have hR : digV c = -1 := by
        have hl := digV_lt c
        rcases Int.lt_or_le (digV c) 0 with h | h
        · omega
        · exact absurd (dch_digV c (by omega)) (hn.out _ (by omega))
      have HR := Lib.hid hR
      clear hR
      go_wp2
      go_ret
      rw [HR.out]
      exact ⟨rfl, rfl⟩
end Go.Proofs.Ytagllhphchmfhaa
