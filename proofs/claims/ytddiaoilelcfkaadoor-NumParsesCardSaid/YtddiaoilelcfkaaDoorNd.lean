/-
  The walk over formatBits at the bases 8 and 16.
-/
import Derived.Test.YtddiaoilelcfkaaDoorNa
import Derived.Test.YtddiaoilelcfkaaDoorNb
import Derived.Laws.BitsAllLaws
import Derived.Lib.ItoaMem
namespace Go.Proofs.YtddiaoilelcfkaaDoor
open Go.RowKit

set_option maxHeartbeats 400000 in
theorem isPow_8 (w : World) : Calls Tryd.prog 57 #[.int .i64 8] w fun e w' => e = .returned (.bool true) ∧ w = w' := by
  go_enter Tryd.func57, Tryd.ntmps57
  go_wp2
  go_ret
  exact ⟨rfl, rfl⟩
set_option maxHeartbeats 400000 in
theorem isPow_16 (w : World) : Calls Tryd.prog 57 #[.int .i64 16] w fun e w' => e = .returned (.bool true) ∧ w = w' := by
  go_enter Tryd.func57, Tryd.ntmps57
  go_wp2
  go_ret
  exact ⟨rfl, rfl⟩
set_option maxHeartbeats 400000 in
theorem tz_8 (w : World) (h : w.cell? ⟨5, 7, none⟩ = some (.int .u8 3)) : Calls Tryd.prog 58 #[.int .u64 8] w fun e w' => e = .returned (.int .i64 3) ∧ w = w' := by
  have e1 : bits BinOp.and IntKind.u64 8 (IntKind.u64.wrap (-8)) = 8 := by decide +kernel
  have e2 : IntKind.u64.wrap (8 * 285870213051353865) / 288230376151711744 = 7 := by decide +kernel
  go_enter Tryd.func58, Tryd.ntmps58
  go_wp2
  go_ret
  exact ⟨rfl, rfl⟩
set_option maxHeartbeats 400000 in
theorem tz_16 (w : World) (h : w.cell? ⟨5, 15, none⟩ = some (.int .u8 4)) : Calls Tryd.prog 58 #[.int .u64 16] w fun e w' => e = .returned (.int .i64 4) ∧ w = w' := by
  have e1 : bits BinOp.and IntKind.u64 16 (IntKind.u64.wrap (-16)) = 16 := by decide +kernel
  have e2 : IntKind.u64.wrap (16 * 285870213051353865) / 288230376151711744 = 15 := by decide +kernel
  go_enter Tryd.func58, Tryd.ntmps58
  go_wp2
  go_ret
  exact ⟨rfl, rfl⟩

/-- The array of formatBits, behind the digits acc: 65 cells. -/
def arrOf (acc : List UInt8) : Array Value := (List.replicate (65 - acc.length) (Value.int .u8 0) ++ acc.map fun c => Value.int .u8 c.toNat).toArray
theorem arrOf_nil : Tryd.zeroCells86 = arrOf [] := by kernel_rfl
theorem arrOf_size (acc : List UInt8) (h : acc.length ≤ 65) : (arrOf acc).size = 65 := by simp [arrOf]; omega
theorem arrOf_set (acc : List UInt8) (c : UInt8) (h : acc.length < 65) : (arrOf acc).setIfInBounds (65 - acc.length - 1) (.int .u8 c.toNat) = arrOf (c :: acc) := by
  obtain ⟨k, hk⟩ : ∃ k, 65 - acc.length = k + 1 := ⟨64 - acc.length, by omega⟩
  have hk' : 65 - acc.length - 1 = k := by omega
  rw [hk']
  simp only [arrOf, hk, List.length_cons, show 65 - (acc.length + 1) = k by omega, List.map_cons]
  apply Array.ext'
  simp only [Array.toList_setIfInBounds]
  rw [List.replicate_succ']
  simp [List.set_append]
theorem arrOf_zero (acc : List UInt8) (h : acc.length < 65) : (arrOf acc)[65 - acc.length - 1]? = some (.int .u8 0) := by
  simp [arrOf, List.getElem?_append_left, List.getElem?_replicate, show 65 - acc.length - 1 < 65 - acc.length by omega]
theorem arrOf_at (acc : List UInt8) (h : acc.length ≤ 65) (j : Nat) (hj : j < acc.length) : (arrOf acc)[65 - acc.length + j]? = some (.int .u8 (acc[j]).toNat) := by
  simp [arrOf, List.getElem?_append_right, hj]

theorem sz_step {m l : Nat} (h : m < 2 ^ (64 - l)) (h8 : 8 ≤ m) : m / 8 < 2 ^ (64 - (l + 1)) ∧ l ≤ 60 := by
  have hl : l ≤ 60 := by
    rcases Nat.lt_or_ge l 61 with h' | h'
    · omega
    · have : 2 ^ (64 - l) ≤ 2 ^ 3 := Nat.pow_le_pow_right (by omega) (by omega)
      omega
  obtain ⟨k, hk⟩ : ∃ k, 64 - l = k + 1 := ⟨63 - l, by omega⟩
  rw [hk, Nat.pow_succ] at h
  rw [show 64 - (l + 1) = k by omega]
  exact ⟨by omega, hl⟩
theorem and_7 (m : Nat) (h : m < 18446744073709551616) : bits BinOp.and IntKind.u64 (m : Int) 7 = ((m % 8 : Nat) : Int) := by
  have e := u64_and_nat m 7 h (by decide)
  have e2 := Nat.and_two_pow_sub_one_eq_mod m 3
  rw [show (2 ^ 3 - 1 : Nat) = 7 from rfl] at e2
  rw [e2] at e; exact e
theorem and_15 (m : Nat) (h : m < 18446744073709551616) : bits BinOp.and IntKind.u64 (m : Int) 15 = ((m % 16 : Nat) : Int) := by
  have e := u64_and_nat m 15 h (by decide)
  have e2 := Nat.and_two_pow_sub_one_eq_mod m 4
  rw [show (2 ^ 4 - 1 : Nat) = 15 from rfl] at e2
  rw [e2] at e; exact e

/-- The letters of all bases up to 36, as the library has them. -/
theorem hex36_at : ∀ d : Fin 16, (⟨#[48, 49, 50, 51, 52, 53, 54, 55, 56, 57, 97, 98, 99, 100, 101, 102, 103, 104, 105, 106, 107, 108, 109, 110, 111, 112, 113, 114, 115, 116, 117, 118, 119, 120, 121, 122]⟩ : ByteArray)[d.val]'(by have := d.isLt; show d.val < 36; omega) = dch d.val := by decide
theorem arr_put (acc : List UInt8) (h : acc.length < 65) (d : Nat) (hd : d < 16) : ∀ h36 : d < (⟨#[48, 49, 50, 51, 52, 53, 54, 55, 56, 57, 97, 98, 99, 100, 101, 102, 103, 104, 105, 106, 107, 108, 109, 110, 111, 112, 113, 114, 115, 116, 117, 118, 119, 120, 121, 122]⟩ : ByteArray).size,
    (arrOf acc).setIfInBounds (65 - acc.length - 1) (.int .u8 (((⟨#[48, 49, 50, 51, 52, 53, 54, 55, 56, 57, 97, 98, 99, 100, 101, 102, 103, 104, 105, 106, 107, 108, 109, 110, 111, 112, 113, 114, 115, 116, 117, 118, 119, 120, 121, 122]⟩ : ByteArray)[d]'h36).toNat : Int)) = arrOf (dch d :: acc) := by
  intro h36
  rw [← arrOf_set acc (dch d) h, ← hex36_at ⟨d, hd⟩]
theorem slice_arr (N l : Nat) (i : Int) (h0 : 0 < l) (hl : l ≤ 65) (hi : i = 65 - (l : Int)) (W : World) : (Instr.sliceAt 86 (.pointer (some ⟨N, 0, none⟩)) (some (.int .i64 i)) none none).run Tryd.prog W = .ok (.slice (some ⟨N, 65 - l, none⟩) l l) W := by
  subst hi
  have hal : Tryd.prog.arrayLen 86 = 65 := by kernel_rfl
  have hel : Tryd.prog.elem 86 = 5 := by kernel_rfl
  rw [run_sliceAt_array_l (P := Tryd.prog) (w := W) (t := 86) (a := ⟨N, 0, none⟩) Tryd.underlying86 .i64 (65 - (l : Int)) (by omega) (by rw [hal]; omega), hal, hel]
  go_simp
  constructor <;> omega
theorem conv_arr (w : World) (acc : List UInt8) (o : Nat) (hl : acc.length ≤ 65) (ho : o = 65 - acc.length) : (convert 52 9 (.slice (some ⟨w.heap.size, o, none⟩) acc.length acc.length)).run Tryd.prog (w.alloc (.cells (arrOf acc) 86)) = .ok (.string ⟨acc.toArray⟩) (w.alloc (.cells (arrOf acc) 86)) := by
  subst ho
  refine run_convert_bytes_back (P := Tryd.prog) _ 52 9 5 ⟨w.heap.size, 65 - acc.length, none⟩ acc.length acc Tryd.underlying52 Tryd.underlying5 Tryd.underlying9 ?_
  intro j hj
  have e := arrOf_at acc hl j hj
  rw [Lib.add_plain, World.cell?_alloc_new]
  exact e

set_option maxRecDepth 100000 in
set_option maxHeartbeats 400000 in
theorem formatBits_8_false (u : Nat) (w : World) (hu : u ≤ 9223372036854775808) (h7 : w.cell? ⟨5, 7, none⟩ = some (.int .u8 3)) (hw : 5 < w.heap.size) :
    Calls Tryd.prog 43 #[.slice none 0 0, .int .u64 u, .int .i64 8, .bool false, .bool false] w fun e w' => e = .returned (.tuple #[.slice none 0 0, .string ⟨(digs 8 u).toArray⟩]) ∧ Below w.heap.size w w' := by
  have h7' : ∀ o, (w.alloc o).cell? ⟨5, 7, none⟩ = some (.int .u8 3) := fun o => (World.cell?_alloc_lt _ _ _ hw).trans h7
  go_enter Tryd.func43, Tryd.ntmps43
  go_wp2_with (first
    | (go_at_call 57; refine (isPow_8 _).mono ?_; rintro e w' ⟨rfl, rfl⟩)
    | (go_at_call 58; refine (tz_8 _ (h7' _)).mono ?_; rintro e w' ⟨rfl, rfl⟩))
  go_loopw [1, 13] (fun vu vi wr => ∃ (m : Nat) (acc : List UInt8), vu = .int .u64 (m : Int) ∧ vi = .int .i64 (65 - (acc.length : Int)) ∧ wr = w.alloc (.cells (arrOf acc) 86) ∧ m < 18446744073709551616 ∧ acc.length ≤ 61 ∧ Hid (m < 2 ^ (64 - acc.length) ∧ digs 8 u = digs 8 m ++ acc))
    (fun vu vi wr => (intOf vu).toNat)
  case atStart => exact ⟨u, [], rfl, rfl, by rw [arrOf_nil], by omega, by simp, by simp only [List.length_nil]; omega, by simp⟩
  case round =>
    obtain ⟨m, acc, rfl, rfl, rfl, hm, hl, hd⟩ := hrel
    have e7 := and_7 m hm
    have hat := arrOf_zero acc (by omega)
    by_cases h0 : m < 8
    · have hset := arr_put acc (by omega) m (by omega)
      have hsl := slice_arr w.heap.size (acc.length + 1) (65 - (acc.length : Int) - 1) (by omega) (by omega) (by omega)
      have hcv := conv_arr w (dch m :: acc) (64 - acc.length) (by simp; omega) (by simp)
      simp only [List.length_cons] at hcv
      go_wp2
      go_ret2
      refine ⟨?_, (Below.refl _ _).alloc (Nat.le_refl _) _⟩
      rw [hd.out.2, digs_lt h0]
      rfl
    · go_wp2
      rw [arr_put acc (by omega) (m % 8) (by omega)]
      have hs := sz_step hd.out.1 (by omega)
      have h8 : m / 8 ≤ m / 8 := by omega
      refine ⟨⟨m / 8, dch (m % 8) :: acc, by congr 1, by congr 1; simp; omega, rfl, by omega, by simp; omega, ⟨by simp only [List.length_cons]; omega, ?_⟩⟩, ?_⟩
      · rw [hd.out.2, digs_ge (by omega) h0]; simp
      · simp only [intOf]; omega

set_option maxRecDepth 100000 in
set_option maxHeartbeats 400000 in
theorem formatBits_8_true (u : Nat) (w : World) (hu : u ≤ 9223372036854775808) (a : Int) (ha : IntKind.u64.wrap (-a) = u) (h7 : w.cell? ⟨5, 7, none⟩ = some (.int .u8 3)) (hw : 5 < w.heap.size) :
    Calls Tryd.prog 43 #[.slice none 0 0, .int .u64 a, .int .i64 8, .bool true, .bool false] w fun e w' => e = .returned (.tuple #[.slice none 0 0, .string ⟨(45 :: digs 8 u).toArray⟩]) ∧ Below w.heap.size w w' := by
  have h7' : ∀ o, (w.alloc o).cell? ⟨5, 7, none⟩ = some (.int .u8 3) := fun o => (World.cell?_alloc_lt _ _ _ hw).trans h7
  go_enter Tryd.func43, Tryd.ntmps43
  go_wp2_with (first
    | (go_at_call 57; refine (isPow_8 _).mono ?_; rintro e w' ⟨rfl, rfl⟩)
    | (go_at_call 58; refine (tz_8 _ (h7' _)).mono ?_; rintro e w' ⟨rfl, rfl⟩))
  go_loopw [1, 13] (fun vu vi wr => ∃ (m : Nat) (acc : List UInt8), vu = .int .u64 (m : Int) ∧ vi = .int .i64 (65 - (acc.length : Int)) ∧ wr = w.alloc (.cells (arrOf acc) 86) ∧ m < 18446744073709551616 ∧ acc.length ≤ 61 ∧ Hid (m < 2 ^ (64 - acc.length) ∧ digs 8 u = digs 8 m ++ acc))
    (fun vu vi wr => (intOf vu).toNat)
  case atStart => exact ⟨u, [], rfl, rfl, by rw [arrOf_nil], by omega, by simp, by simp only [List.length_nil]; omega, by simp⟩
  case round =>
    obtain ⟨m, acc, rfl, rfl, rfl, hm, hl, hd⟩ := hrel
    have e7 := and_7 m hm
    have hat := arrOf_zero acc (by omega)
    by_cases h0 : m < 8
    · have hset := arr_put acc (by omega) m (by omega)
      have hat2 : (arrOf (dch m :: acc))[65 - acc.length - 1 - 1]? = some (.int .u8 0) := by
        have h := arrOf_zero (dch m :: acc) (by simp; omega)
        rw [List.length_cons, show 65 - (acc.length + 1) - 1 = 65 - acc.length - 1 - 1 by omega] at h; exact h
      have hset2 : (arrOf (dch m :: acc)).setIfInBounds (65 - acc.length - 1 - 1) (.int .u8 45) = arrOf (45 :: dch m :: acc) := by
        have h := arrOf_set (dch m :: acc) 45 (by simp; omega)
        rw [List.length_cons, show 65 - (acc.length + 1) - 1 = 65 - acc.length - 1 - 1 by omega] at h; exact h
      have hsl := slice_arr w.heap.size (acc.length + 1 + 1) (65 - (acc.length : Int) - 1 - 1) (by omega) (by omega) (by omega)
      have hcv := conv_arr w (45 :: dch m :: acc) (63 - acc.length) (by simp; omega) (by simp)
      simp only [List.length_cons] at hcv
      go_wp2
      go_ret2
      refine ⟨?_, (Below.refl _ _).alloc (Nat.le_refl _) _⟩
      rw [hd.out.2, digs_lt h0]
      rfl
    · go_wp2
      rw [arr_put acc (by omega) (m % 8) (by omega)]
      have hs := sz_step hd.out.1 (by omega)
      have h8 : m / 8 ≤ m / 8 := by omega
      refine ⟨⟨m / 8, dch (m % 8) :: acc, by congr 1, by congr 1; simp; omega, rfl, by omega, by simp; omega, ⟨by simp only [List.length_cons]; omega, ?_⟩⟩, ?_⟩
      · rw [hd.out.2, digs_ge (by omega) h0]; simp
      · simp only [intOf]; omega

set_option maxRecDepth 100000 in
set_option maxHeartbeats 400000 in
theorem formatBits_16_false (u : Nat) (w : World) (hu : u ≤ 9223372036854775808) (h7 : w.cell? ⟨5, 15, none⟩ = some (.int .u8 4)) (hw : 5 < w.heap.size) :
    Calls Tryd.prog 43 #[.slice none 0 0, .int .u64 u, .int .i64 16, .bool false, .bool false] w fun e w' => e = .returned (.tuple #[.slice none 0 0, .string ⟨(digs 16 u).toArray⟩]) ∧ Below w.heap.size w w' := by
  have h7' : ∀ o, (w.alloc o).cell? ⟨5, 15, none⟩ = some (.int .u8 4) := fun o => (World.cell?_alloc_lt _ _ _ hw).trans h7
  go_enter Tryd.func43, Tryd.ntmps43
  go_wp2_with (first
    | (go_at_call 57; refine (isPow_16 _).mono ?_; rintro e w' ⟨rfl, rfl⟩)
    | (go_at_call 58; refine (tz_16 _ (h7' _)).mono ?_; rintro e w' ⟨rfl, rfl⟩))
  go_loopw [1, 13] (fun vu vi wr => ∃ (m : Nat) (acc : List UInt8), vu = .int .u64 (m : Int) ∧ vi = .int .i64 (65 - (acc.length : Int)) ∧ wr = w.alloc (.cells (arrOf acc) 86) ∧ m < 18446744073709551616 ∧ acc.length ≤ 61 ∧ Hid (m < 2 ^ (64 - acc.length) ∧ digs 16 u = digs 16 m ++ acc))
    (fun vu vi wr => (intOf vu).toNat)
  case atStart => exact ⟨u, [], rfl, rfl, by rw [arrOf_nil], by omega, by simp, by simp only [List.length_nil]; omega, by simp⟩
  case round =>
    obtain ⟨m, acc, rfl, rfl, rfl, hm, hl, hd⟩ := hrel
    have e7 := and_15 m hm
    have hat := arrOf_zero acc (by omega)
    by_cases h0 : m < 16
    · have hset := arr_put acc (by omega) m (by omega)
      have hsl := slice_arr w.heap.size (acc.length + 1) (65 - (acc.length : Int) - 1) (by omega) (by omega) (by omega)
      have hcv := conv_arr w (dch m :: acc) (64 - acc.length) (by simp; omega) (by simp)
      simp only [List.length_cons] at hcv
      go_wp2
      go_ret2
      refine ⟨?_, (Below.refl _ _).alloc (Nat.le_refl _) _⟩
      rw [hd.out.2, digs_lt h0]
      rfl
    · go_wp2
      rw [arr_put acc (by omega) (m % 16) (by omega)]
      have hs := sz_step hd.out.1 (by omega)
      have h8 : m / 16 ≤ m / 8 := by omega
      refine ⟨⟨m / 16, dch (m % 16) :: acc, by congr 1, by congr 1; simp; omega, rfl, by omega, by simp; omega, ⟨by simp only [List.length_cons]; omega, ?_⟩⟩, ?_⟩
      · rw [hd.out.2, digs_ge (by omega) h0]; simp
      · simp only [intOf]; omega

set_option maxRecDepth 100000 in
set_option maxHeartbeats 400000 in
theorem formatBits_16_true (u : Nat) (w : World) (hu : u ≤ 9223372036854775808) (a : Int) (ha : IntKind.u64.wrap (-a) = u) (h7 : w.cell? ⟨5, 15, none⟩ = some (.int .u8 4)) (hw : 5 < w.heap.size) :
    Calls Tryd.prog 43 #[.slice none 0 0, .int .u64 a, .int .i64 16, .bool true, .bool false] w fun e w' => e = .returned (.tuple #[.slice none 0 0, .string ⟨(45 :: digs 16 u).toArray⟩]) ∧ Below w.heap.size w w' := by
  have h7' : ∀ o, (w.alloc o).cell? ⟨5, 15, none⟩ = some (.int .u8 4) := fun o => (World.cell?_alloc_lt _ _ _ hw).trans h7
  go_enter Tryd.func43, Tryd.ntmps43
  go_wp2_with (first
    | (go_at_call 57; refine (isPow_16 _).mono ?_; rintro e w' ⟨rfl, rfl⟩)
    | (go_at_call 58; refine (tz_16 _ (h7' _)).mono ?_; rintro e w' ⟨rfl, rfl⟩))
  go_loopw [1, 13] (fun vu vi wr => ∃ (m : Nat) (acc : List UInt8), vu = .int .u64 (m : Int) ∧ vi = .int .i64 (65 - (acc.length : Int)) ∧ wr = w.alloc (.cells (arrOf acc) 86) ∧ m < 18446744073709551616 ∧ acc.length ≤ 61 ∧ Hid (m < 2 ^ (64 - acc.length) ∧ digs 16 u = digs 16 m ++ acc))
    (fun vu vi wr => (intOf vu).toNat)
  case atStart => exact ⟨u, [], rfl, rfl, by rw [arrOf_nil], by omega, by simp, by simp only [List.length_nil]; omega, by simp⟩
  case round =>
    obtain ⟨m, acc, rfl, rfl, rfl, hm, hl, hd⟩ := hrel
    have e7 := and_15 m hm
    have hat := arrOf_zero acc (by omega)
    by_cases h0 : m < 16
    · have hset := arr_put acc (by omega) m (by omega)
      have hat2 : (arrOf (dch m :: acc))[65 - acc.length - 1 - 1]? = some (.int .u8 0) := by
        have h := arrOf_zero (dch m :: acc) (by simp; omega)
        rw [List.length_cons, show 65 - (acc.length + 1) - 1 = 65 - acc.length - 1 - 1 by omega] at h; exact h
      have hset2 : (arrOf (dch m :: acc)).setIfInBounds (65 - acc.length - 1 - 1) (.int .u8 45) = arrOf (45 :: dch m :: acc) := by
        have h := arrOf_set (dch m :: acc) 45 (by simp; omega)
        rw [List.length_cons, show 65 - (acc.length + 1) - 1 = 65 - acc.length - 1 - 1 by omega] at h; exact h
      have hsl := slice_arr w.heap.size (acc.length + 1 + 1) (65 - (acc.length : Int) - 1 - 1) (by omega) (by omega) (by omega)
      have hcv := conv_arr w (45 :: dch m :: acc) (63 - acc.length) (by simp; omega) (by simp)
      simp only [List.length_cons] at hcv
      go_wp2
      go_ret2
      refine ⟨?_, (Below.refl _ _).alloc (Nat.le_refl _) _⟩
      rw [hd.out.2, digs_lt h0]
      rfl
    · go_wp2
      rw [arr_put acc (by omega) (m % 16) (by omega)]
      have hs := sz_step hd.out.1 (by omega)
      have h8 : m / 16 ≤ m / 8 := by omega
      refine ⟨⟨m / 16, dch (m % 16) :: acc, by congr 1, by congr 1; simp; omega, rfl, by omega, by simp; omega, ⟨by simp only [List.length_cons]; omega, ?_⟩⟩, ?_⟩
      · rw [hd.out.2, digs_ge (by omega) h0]; simp
      · simp only [intOf]; omega

end Go.Proofs.YtddiaoilelcfkaaDoor
