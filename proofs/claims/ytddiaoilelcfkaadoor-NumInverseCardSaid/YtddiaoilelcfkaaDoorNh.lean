/-
  The walk over the library's ParseUint at the bases 8, 10 and 16, 64 bits: what it does with a text of digits of that base whose number fits.
-/
import Derived.Test.YtddiaoilelcfkaaDoorNa
import Derived.Test.YtddiaoilelcfkaaDoorNg
import Derived.Test.YtddiaoilelcfkaaDoorShelf
import Derived.Lib.ConvBytes
import Derived.Lib.AtoiAllMem
import Derived.Lib.Walk
import Derived.Laws.Strings3
import Derived.Laws.Closers25
import Derived.Laws.Closers25b
import Derived.BigCall
import Derived.BigGuard
namespace Go.Proofs.YtddiaoilelcfkaaDoor
open Go.RowKit

/-- nil, or one of the two errors of the library. -/
def ErrIs (v : Value) : Prop := v = .nilIface ∨ v = .iface 77 (.int .i64 1) ∨ v = .iface 77 (.int .i64 2)
/-- What is returned: some number of 64 bits and perhaps an error; if the text is a number that fits, that number and no error. -/
def PU (b : Nat) (l : List UInt8) (w : World) (e : Ending) (w' : World) : Prop :=
  Below w.heap.size w w' ∧ ∃ (a : Int) (er : Value), e = .returned (.tuple #[.int .u64 a, er]) ∧ 0 ≤ a ∧ a < 18446744073709551616 ∧ ErrIs er ∧
    (∀ v, l ≠ [] → val b 0 l = some v → v < 18446744073709551616 → a = v ∧ er = .nilIface)
/-- What the loop has: a is the number so far. -/
def PUrel (b : Nat) (bs : List UInt8) (k : Nat) (a : Int) : Prop := ∀ v, val b 0 bs = some v → v < 18446744073709551616 → ∃ acc : Nat, a = acc ∧ val b acc (bs.drop k) = some v
theorem PUrel_step {b : Nat} {bs : List UInt8} {k : Nat} {a : Int} (hb : 1 ≤ b) (hk : k < bs.length) (h : PUrel b bs k a) (v : Nat) (hv : val b 0 bs = some v) (hv2 : v < 18446744073709551616) :
    0 ≤ digN bs[k] ∧ digN bs[k] < b ∧ 0 ≤ a ∧ a * b + digN bs[k] < 18446744073709551616 ∧ ∃ acc : Nat, a * b + digN bs[k] = acc ∧ val b acc (bs.drop (k + 1)) = some v := by
  obtain ⟨acc, ha, h'⟩ := h v hv hv2
  subst ha
  replace h := h'
  rw [List.drop_eq_getElem_cons hk] at h
  simp only [val] at h
  split at h
  · rename_i hd
    have hge := val_ge b hb _ _ _ h
    have e : ((acc * b + (digN bs[k]).toNat : Nat) : Int) = (acc : Int) * b + digN bs[k] := by
      rw [Int.natCast_add, Int.natCast_mul]; omega
    exact ⟨hd.1, hd.2, by omega, by omega, _, e.symm, h⟩
  · cases h
theorem PUrel_next {b : Nat} {bs : List UInt8} {k : Nat} {a : Int} (hb : 1 ≤ b) (hk : k < bs.length) (h : PUrel b bs k a) (a' : Int) (ha : 0 ≤ digN bs[k] → a' = a * b + digN bs[k]) : PUrel b bs (k + 1) a' := fun v hv hv2 => by
  obtain ⟨h1, _, _, _, acc, h5, h6⟩ := PUrel_step hb hk h v hv hv2
  exact ⟨acc, by rw [ha h1]; exact h5, h6⟩
theorem PU_err {b : Nat} {l : List UInt8} {w w' : World} (hB : Below w.heap.size w w') (er : Value) (a : Int) (h0 : 0 ≤ a) (h1 : a < 18446744073709551616) (he : ErrIs er) (hno : ∀ v, val b 0 l = some v → v < 18446744073709551616 → False) :
    PU b l w (.returned (.tuple #[.int .u64 a, er])) w' := ⟨hB, a, er, rfl, h0, h1, he, fun v _ h h2 => (hno v h h2).elim⟩
theorem PU_ok {b : Nat} {l : List UInt8} {w w' : World} (hB : Below w.heap.size w w') (a : Int) (h0 : 0 ≤ a) (h1 : a < 18446744073709551616) (h : PUrel b l l.length a) :
    PU b l w (.returned (.tuple #[.int .u64 a, .nilIface])) w' := ⟨hB, a, _, rfl, h0, h1, .inl rfl, fun v _ hv h2 => by
  obtain ⟨acc, ha, h⟩ := h v hv h2
  rw [List.drop_length] at h; simp [val] at h
  exact ⟨by rw [ha, h], rfl⟩⟩
theorem below_bytesWorld (w : World) (t : TypeId) (s : ByteArray) : Below w.heap.size w (Lib.bytesWorld w t s) := by
  refine ⟨rfl, rfl, rfl, ?_, fun k hk => ?_⟩
  · unfold Lib.bytesWorld; simp [World.freeze, World.alloc]
  · unfold Lib.bytesWorld
    have h1 : (w.drew.alloc (.cells (Lib.bytesCells w t s) t)).heap[k]? = w.heap[k]? := Below.heap_alloc w.drew _ k hk
    rw [← h1]
    show ((w.drew.alloc (.cells (Lib.bytesCells w t s) t)).heap.modify w.heap.size _)[k]? = _
    rw [Array.getElem?_modify, if_neg (by omega)]
theorem or32 : ∀ k : Fin 256, 97 ≤ k.val → k.val ≤ 102 → bits .or .u8 (k.val : Int) 32 = k.val := by decide +kernel

set_option maxHeartbeats 3200000 in
set_option maxRecDepth 100000 in
theorem pu_8 (t : ByteArray) (hne : t.size ≠ 0) (hmax : t.size ≤ 9223372036854775806) (w : World) :
    Calls Tryd.prog 49 #[.string t, .int .i64 8, .int .i64 64] w (PU 8 t.data.toList w) := by
  have hemp : t.toList.isEmpty = false := by
    rw [← decide_eq_emptyBytes]
    exact decide_eq_false (fun h => hne (by rw [h]; rfl))
  have hcv := Lib.run_convert_string_bytes (P := Tryd.prog) w 9 52 5 t (u := .string) Tryd.underlying9 Tryd.underlying52 Tryd.underlying5
  have hB : ∀ j, j < t.size → (Lib.bytesWorld w 5 t).cell? ⟨w.heap.size, j, none⟩ = some (.int .u8 (t.data.toList.getD j 0).toNat) := fun j hj => Lib.bytesWorld_cell w 5 t j hj
  have hbl := below_bytesWorld w 5 t
  obtain ⟨W1, hW1⟩ : ∃ W1, W1 = Lib.bytesWorld w 5 t := ⟨_, rfl⟩
  rw [← hW1] at hcv hB hbl
  clear hW1
  obtain ⟨bs, hL⟩ : ∃ bs, bs = t.data.toList := ⟨_, rfl⟩
  have hLn : bs.length = t.size := by rw [hL, Lib.size_eq]
  rw [← hL] at hB ⊢
  clear hL
  have hmv : IntKind.u64.wrap (IntKind.u64.wrap 18446744073709551616 - 1) = 18446744073709551615 := by
    rw [IntKind.wrap_u64, IntKind.wrap_u64]
    decide
  have HBL := Lib.hid hbl
  have HLN := Lib.hid hLn
  clear hbl hLn
  go_enter Tryd.func49, Tryd.ntmps49
  go_wp2
  go_loop [12, 13, 101] (fun vu vn vi => ∃ (k : Nat) (a : Int), vu = .bool false ∧ vn = .int .u64 a ∧ vi = .int .i64 k ∧ k ≤ t.size ∧ 0 ≤ a ∧ a < 18446744073709551616 ∧ Hid (PUrel 8 bs k a))
    (fun _ _ vi => t.size - (intOf vi).toNat)
  case atStart => exact ⟨0, 0, rfl, rfl, rfl, by omega, by omega, by omega, fun v hv h2 => ⟨0, rfl, hv⟩⟩
  case round =>
    obtain ⟨k, a, rfl, rfl, rfl, hk, a0, a1, hr⟩ := hrel
    by_cases hkn : k < t.size
    · have hc := hB k hkn
      have hkl : k < bs.length := by have := HLN.out; omega
      have hget : bs.getD k 0 = bs[k] := by simp [List.getD, List.getElem?_eq_getElem hkl]
      rw [hget] at hc
      have hstep := Lib.hid (PUrel_step (b := 8) (by omega) hkl hr.out)
      have hnext := Lib.hid (PUrel_next (b := 8) (by omega) hkl hr.out)
      generalize bs[k] = c at hc hstep hnext
      have hc256 : c.toNat < 256 := c.toNat_lt
      clear hB hget
      by_cases hdig : 48 ≤ c.toNat ∧ c.toNat ≤ 57
      · obtain ⟨hd0, hd1⟩ := hdig
        have hdn : digN c = (c.toNat : Int) - 48 := by rw [digN, if_pos ⟨hd0, hd1⟩]
        rw [hdn] at hstep hnext
        clear hdn
        by_cases hdb : c.toNat < 48 + 8
        · by_cases hcut : 2305843009213693952 ≤ a
          · go_wp2
            all_goals go_ret2
            all_goals exact PU_err HBL.out _ _ (by omega) (by omega) (.inr (.inl rfl)) fun v h1 h2 => by have := hstep.out v h1 h2; omega
          · by_cases hov : 18446744073709551616 ≤ a * 8 + ((c.toNat : Int) - 48)
            · have hwr : IntKind.u64.wrap (a * 8 + ((c.toNat : Int) - 48)) = a * 8 + ((c.toNat : Int) - 48) - 18446744073709551616 := by rw [IntKind.wrap_u64]; omega
              go_wp2
              all_goals go_ret2
              all_goals exact PU_err HBL.out _ _ (by omega) (by omega) (.inr (.inl rfl)) fun v h1 h2 => by have := hstep.out v h1 h2; omega
            · go_wp2
              refine ⟨⟨k + 1, a * 8 + ((c.toNat : Int) - 48), rfl, (by first | rfl | (congr 1; omega)), (by first | rfl | (congr 1; omega)), by omega, by omega, by omega, hnext.out _ fun _ => rfl⟩, by simp [intOf]; omega⟩
        · go_wp2
          all_goals go_ret2
          all_goals exact PU_err HBL.out _ _ (by omega) (by omega) (.inr (.inr rfl)) fun v h1 h2 => by have := hstep.out v h1 h2; omega
      · by_cases h95 : c.toNat = 95
        · have c95 : c = 95 := by apply UInt8.toNat_inj.1; rw [h95]; rfl
          subst c95
          have hlow := fun W => Tryd.internal_strconv_lower 95 W
          rw [show bits .or .u8 95 32 = 127 by decide +kernel] at hlow
          have HLOW := Lib.hid hlow
          clear hlow h95
          rw [show ((95 : UInt8).toNat : Int) = 95 from rfl] at hc
          have hdn : digN 95 = -1 := by decide
          go_wp2_with (go_at_call 61; refine (HLOW.out _).mono ?_; rintro e w' ⟨rfl, rfl⟩)
          all_goals go_ret2
          all_goals exact PU_err HBL.out _ _ (by omega) (by omega) (.inr (.inr rfl)) fun v h1 h2 => by have := hstep.out v h1 h2; omega
        have h95' : ¬ (c.toNat : Int) = 95 := by omega
        clear h95
        obtain ⟨y, hy⟩ : ∃ y, bits .or .u8 (c.toNat : Int) 32 = y := ⟨_, rfl⟩
        have hlow := fun W => Tryd.internal_strconv_lower (c.toNat : Int) W
        rw [hy] at hlow
        have HLOW := Lib.hid hlow
        have y0 := bits_lo_u8 .or (c.toNat : Int) 32
        have y1 := bits_hi_u8 .or (c.toNat : Int) 32
        rw [hy] at y0 y1
        have hdn : 0 ≤ digN c → digN c = y - 87 ∧ 97 ≤ y ∧ y ≤ 102 := by
          intro h
          by_cases hlet : 97 ≤ c.toNat ∧ c.toNat ≤ 102
          · have e := or32 ⟨c.toNat, hc256⟩ hlet.1 hlet.2
            rw [hy] at e
            simp only at e
            rw [digN, if_neg hdig, if_pos hlet]; omega
          · rw [digN, if_neg hdig, if_neg hlet] at h; omega
        have HDN := Lib.hid hdn
        clear hdn hy hlow
        by_cases hlt : 97 ≤ y ∧ y ≤ 122
        · obtain ⟨l0, l1⟩ := hlt
          go_wp2_with (go_at_call 61; refine (HLOW.out _).mono ?_; rintro e w' ⟨rfl, rfl⟩)
          all_goals go_ret2
          all_goals exact PU_err HBL.out _ _ (by omega) (by omega) (.inr (.inr rfl)) fun v h1 h2 => by have := hstep.out v h1 h2; have := HDN.out; omega
        · by_cases hy0 : 97 ≤ y
          · have hy1 : 122 < y := by omega
            clear hlt
            go_wp2_with (go_at_call 61; refine (HLOW.out _).mono ?_; rintro e w' ⟨rfl, rfl⟩)
            all_goals go_ret2
            all_goals exact PU_err HBL.out _ _ (by omega) (by omega) (.inr (.inr rfl)) fun v h1 h2 => by have := hstep.out v h1 h2; have := HDN.out; omega
          · clear hlt
            go_wp2_with (go_at_call 61; refine (HLOW.out _).mono ?_; rintro e w' ⟨rfl, rfl⟩)
            all_goals go_ret2
            all_goals exact PU_err HBL.out _ _ (by omega) (by omega) (.inr (.inr rfl)) fun v h1 h2 => by have := hstep.out v h1 h2; have := HDN.out; omega
    · have hkk : k = t.size := by omega
      subst hkk
      go_wp2
      go_ret2
      exact PU_ok HBL.out _ a0 a1 (by rw [HLN.out]; exact hr.out)

set_option maxHeartbeats 3200000 in
set_option maxRecDepth 100000 in
theorem pu_10 (t : ByteArray) (hne : t.size ≠ 0) (hmax : t.size ≤ 9223372036854775806) (w : World) :
    Calls Tryd.prog 49 #[.string t, .int .i64 10, .int .i64 64] w (PU 10 t.data.toList w) := by
  have hemp : t.toList.isEmpty = false := by
    rw [← decide_eq_emptyBytes]
    exact decide_eq_false (fun h => hne (by rw [h]; rfl))
  have hcv := Lib.run_convert_string_bytes (P := Tryd.prog) w 9 52 5 t (u := .string) Tryd.underlying9 Tryd.underlying52 Tryd.underlying5
  have hB : ∀ j, j < t.size → (Lib.bytesWorld w 5 t).cell? ⟨w.heap.size, j, none⟩ = some (.int .u8 (t.data.toList.getD j 0).toNat) := fun j hj => Lib.bytesWorld_cell w 5 t j hj
  have hbl := below_bytesWorld w 5 t
  obtain ⟨W1, hW1⟩ : ∃ W1, W1 = Lib.bytesWorld w 5 t := ⟨_, rfl⟩
  rw [← hW1] at hcv hB hbl
  clear hW1
  obtain ⟨bs, hL⟩ : ∃ bs, bs = t.data.toList := ⟨_, rfl⟩
  have hLn : bs.length = t.size := by rw [hL, Lib.size_eq]
  rw [← hL] at hB ⊢
  clear hL
  have hmv : IntKind.u64.wrap (IntKind.u64.wrap 18446744073709551616 - 1) = 18446744073709551615 := by
    rw [IntKind.wrap_u64, IntKind.wrap_u64]
    decide
  have HBL := Lib.hid hbl
  have HLN := Lib.hid hLn
  clear hbl hLn
  go_enter Tryd.func49, Tryd.ntmps49
  go_wp2
  go_loop [12, 13, 101] (fun vu vn vi => ∃ (k : Nat) (a : Int), vu = .bool false ∧ vn = .int .u64 a ∧ vi = .int .i64 k ∧ k ≤ t.size ∧ 0 ≤ a ∧ a < 18446744073709551616 ∧ Hid (PUrel 10 bs k a))
    (fun _ _ vi => t.size - (intOf vi).toNat)
  case atStart => exact ⟨0, 0, rfl, rfl, rfl, by omega, by omega, by omega, fun v hv h2 => ⟨0, rfl, hv⟩⟩
  case round =>
    obtain ⟨k, a, rfl, rfl, rfl, hk, a0, a1, hr⟩ := hrel
    by_cases hkn : k < t.size
    · have hc := hB k hkn
      have hkl : k < bs.length := by have := HLN.out; omega
      have hget : bs.getD k 0 = bs[k] := by simp [List.getD, List.getElem?_eq_getElem hkl]
      rw [hget] at hc
      have hstep := Lib.hid (PUrel_step (b := 10) (by omega) hkl hr.out)
      have hnext := Lib.hid (PUrel_next (b := 10) (by omega) hkl hr.out)
      generalize bs[k] = c at hc hstep hnext
      have hc256 : c.toNat < 256 := c.toNat_lt
      clear hB hget
      by_cases hdig : 48 ≤ c.toNat ∧ c.toNat ≤ 57
      · obtain ⟨hd0, hd1⟩ := hdig
        have hdn : digN c = (c.toNat : Int) - 48 := by rw [digN, if_pos ⟨hd0, hd1⟩]
        rw [hdn] at hstep hnext
        clear hdn
        by_cases hdb : c.toNat < 48 + 10
        · by_cases hcut : 1844674407370955162 ≤ a
          · go_wp2
            all_goals go_ret2
            all_goals exact PU_err HBL.out _ _ (by omega) (by omega) (.inr (.inl rfl)) fun v h1 h2 => by have := hstep.out v h1 h2; omega
          · by_cases hov : 18446744073709551616 ≤ a * 10 + ((c.toNat : Int) - 48)
            · have hwr : IntKind.u64.wrap (a * 10 + ((c.toNat : Int) - 48)) = a * 10 + ((c.toNat : Int) - 48) - 18446744073709551616 := by rw [IntKind.wrap_u64]; omega
              go_wp2
              all_goals go_ret2
              all_goals exact PU_err HBL.out _ _ (by omega) (by omega) (.inr (.inl rfl)) fun v h1 h2 => by have := hstep.out v h1 h2; omega
            · go_wp2
              refine ⟨⟨k + 1, a * 10 + ((c.toNat : Int) - 48), rfl, (by first | rfl | (congr 1; omega)), (by first | rfl | (congr 1; omega)), by omega, by omega, by omega, hnext.out _ fun _ => rfl⟩, by simp [intOf]; omega⟩
        · go_wp2
          all_goals go_ret2
          all_goals exact PU_err HBL.out _ _ (by omega) (by omega) (.inr (.inr rfl)) fun v h1 h2 => by have := hstep.out v h1 h2; omega
      · by_cases h95 : c.toNat = 95
        · have c95 : c = 95 := by apply UInt8.toNat_inj.1; rw [h95]; rfl
          subst c95
          have hlow := fun W => Tryd.internal_strconv_lower 95 W
          rw [show bits .or .u8 95 32 = 127 by decide +kernel] at hlow
          have HLOW := Lib.hid hlow
          clear hlow h95
          rw [show ((95 : UInt8).toNat : Int) = 95 from rfl] at hc
          have hdn : digN 95 = -1 := by decide
          go_wp2_with (go_at_call 61; refine (HLOW.out _).mono ?_; rintro e w' ⟨rfl, rfl⟩)
          all_goals go_ret2
          all_goals exact PU_err HBL.out _ _ (by omega) (by omega) (.inr (.inr rfl)) fun v h1 h2 => by have := hstep.out v h1 h2; omega
        have h95' : ¬ (c.toNat : Int) = 95 := by omega
        clear h95
        obtain ⟨y, hy⟩ : ∃ y, bits .or .u8 (c.toNat : Int) 32 = y := ⟨_, rfl⟩
        have hlow := fun W => Tryd.internal_strconv_lower (c.toNat : Int) W
        rw [hy] at hlow
        have HLOW := Lib.hid hlow
        have y0 := bits_lo_u8 .or (c.toNat : Int) 32
        have y1 := bits_hi_u8 .or (c.toNat : Int) 32
        rw [hy] at y0 y1
        have hdn : 0 ≤ digN c → digN c = y - 87 ∧ 97 ≤ y ∧ y ≤ 102 := by
          intro h
          by_cases hlet : 97 ≤ c.toNat ∧ c.toNat ≤ 102
          · have e := or32 ⟨c.toNat, hc256⟩ hlet.1 hlet.2
            rw [hy] at e
            simp only at e
            rw [digN, if_neg hdig, if_pos hlet]; omega
          · rw [digN, if_neg hdig, if_neg hlet] at h; omega
        have HDN := Lib.hid hdn
        clear hdn hy hlow
        by_cases hlt : 97 ≤ y ∧ y ≤ 122
        · obtain ⟨l0, l1⟩ := hlt
          go_wp2_with (go_at_call 61; refine (HLOW.out _).mono ?_; rintro e w' ⟨rfl, rfl⟩)
          all_goals go_ret2
          all_goals exact PU_err HBL.out _ _ (by omega) (by omega) (.inr (.inr rfl)) fun v h1 h2 => by have := hstep.out v h1 h2; have := HDN.out; omega
        · by_cases hy0 : 97 ≤ y
          · have hy1 : 122 < y := by omega
            clear hlt
            go_wp2_with (go_at_call 61; refine (HLOW.out _).mono ?_; rintro e w' ⟨rfl, rfl⟩)
            all_goals go_ret2
            all_goals exact PU_err HBL.out _ _ (by omega) (by omega) (.inr (.inr rfl)) fun v h1 h2 => by have := hstep.out v h1 h2; have := HDN.out; omega
          · clear hlt
            go_wp2_with (go_at_call 61; refine (HLOW.out _).mono ?_; rintro e w' ⟨rfl, rfl⟩)
            all_goals go_ret2
            all_goals exact PU_err HBL.out _ _ (by omega) (by omega) (.inr (.inr rfl)) fun v h1 h2 => by have := hstep.out v h1 h2; have := HDN.out; omega
    · have hkk : k = t.size := by omega
      subst hkk
      go_wp2
      go_ret2
      exact PU_ok HBL.out _ a0 a1 (by rw [HLN.out]; exact hr.out)

set_option maxHeartbeats 3200000 in
set_option maxRecDepth 100000 in
theorem pu_16 (t : ByteArray) (hne : t.size ≠ 0) (hmax : t.size ≤ 9223372036854775806) (w : World) :
    Calls Tryd.prog 49 #[.string t, .int .i64 16, .int .i64 64] w (PU 16 t.data.toList w) := by
  have hemp : t.toList.isEmpty = false := by
    rw [← decide_eq_emptyBytes]
    exact decide_eq_false (fun h => hne (by rw [h]; rfl))
  have hcv := Lib.run_convert_string_bytes (P := Tryd.prog) w 9 52 5 t (u := .string) Tryd.underlying9 Tryd.underlying52 Tryd.underlying5
  have hB : ∀ j, j < t.size → (Lib.bytesWorld w 5 t).cell? ⟨w.heap.size, j, none⟩ = some (.int .u8 (t.data.toList.getD j 0).toNat) := fun j hj => Lib.bytesWorld_cell w 5 t j hj
  have hbl := below_bytesWorld w 5 t
  obtain ⟨W1, hW1⟩ : ∃ W1, W1 = Lib.bytesWorld w 5 t := ⟨_, rfl⟩
  rw [← hW1] at hcv hB hbl
  clear hW1
  obtain ⟨bs, hL⟩ : ∃ bs, bs = t.data.toList := ⟨_, rfl⟩
  have hLn : bs.length = t.size := by rw [hL, Lib.size_eq]
  rw [← hL] at hB ⊢
  clear hL
  have hmv : IntKind.u64.wrap (IntKind.u64.wrap 18446744073709551616 - 1) = 18446744073709551615 := by
    rw [IntKind.wrap_u64, IntKind.wrap_u64]
    decide
  have HBL := Lib.hid hbl
  have HLN := Lib.hid hLn
  clear hbl hLn
  go_enter Tryd.func49, Tryd.ntmps49
  go_wp2
  go_loop [12, 13, 101] (fun vu vn vi => ∃ (k : Nat) (a : Int), vu = .bool false ∧ vn = .int .u64 a ∧ vi = .int .i64 k ∧ k ≤ t.size ∧ 0 ≤ a ∧ a < 18446744073709551616 ∧ Hid (PUrel 16 bs k a))
    (fun _ _ vi => t.size - (intOf vi).toNat)
  case atStart => exact ⟨0, 0, rfl, rfl, rfl, by omega, by omega, by omega, fun v hv h2 => ⟨0, rfl, hv⟩⟩
  case round =>
    obtain ⟨k, a, rfl, rfl, rfl, hk, a0, a1, hr⟩ := hrel
    by_cases hkn : k < t.size
    · have hc := hB k hkn
      have hkl : k < bs.length := by have := HLN.out; omega
      have hget : bs.getD k 0 = bs[k] := by simp [List.getD, List.getElem?_eq_getElem hkl]
      rw [hget] at hc
      have hstep := Lib.hid (PUrel_step (b := 16) (by omega) hkl hr.out)
      have hnext := Lib.hid (PUrel_next (b := 16) (by omega) hkl hr.out)
      generalize bs[k] = c at hc hstep hnext
      have hc256 : c.toNat < 256 := c.toNat_lt
      clear hB hget
      by_cases hdig : 48 ≤ c.toNat ∧ c.toNat ≤ 57
      · obtain ⟨hd0, hd1⟩ := hdig
        have hdn : digN c = (c.toNat : Int) - 48 := by rw [digN, if_pos ⟨hd0, hd1⟩]
        rw [hdn] at hstep hnext
        clear hdn
        by_cases hdb : c.toNat < 48 + 16
        · by_cases hcut : 1152921504606846976 ≤ a
          · go_wp2
            all_goals go_ret2
            all_goals exact PU_err HBL.out _ _ (by omega) (by omega) (.inr (.inl rfl)) fun v h1 h2 => by have := hstep.out v h1 h2; omega
          · by_cases hov : 18446744073709551616 ≤ a * 16 + ((c.toNat : Int) - 48)
            · have hwr : IntKind.u64.wrap (a * 16 + ((c.toNat : Int) - 48)) = a * 16 + ((c.toNat : Int) - 48) - 18446744073709551616 := by rw [IntKind.wrap_u64]; omega
              go_wp2
              all_goals go_ret2
              all_goals exact PU_err HBL.out _ _ (by omega) (by omega) (.inr (.inl rfl)) fun v h1 h2 => by have := hstep.out v h1 h2; omega
            · go_wp2
              refine ⟨⟨k + 1, a * 16 + ((c.toNat : Int) - 48), rfl, (by first | rfl | (congr 1; omega)), (by first | rfl | (congr 1; omega)), by omega, by omega, by omega, hnext.out _ fun _ => rfl⟩, by simp [intOf]; omega⟩
        · go_wp2
          all_goals go_ret2
          all_goals exact PU_err HBL.out _ _ (by omega) (by omega) (.inr (.inr rfl)) fun v h1 h2 => by have := hstep.out v h1 h2; omega
      · by_cases h95 : c.toNat = 95
        · have c95 : c = 95 := by apply UInt8.toNat_inj.1; rw [h95]; rfl
          subst c95
          have hlow := fun W => Tryd.internal_strconv_lower 95 W
          rw [show bits .or .u8 95 32 = 127 by decide +kernel] at hlow
          have HLOW := Lib.hid hlow
          clear hlow h95
          rw [show ((95 : UInt8).toNat : Int) = 95 from rfl] at hc
          have hdn : digN 95 = -1 := by decide
          go_wp2_with (go_at_call 61; refine (HLOW.out _).mono ?_; rintro e w' ⟨rfl, rfl⟩)
          all_goals go_ret2
          all_goals exact PU_err HBL.out _ _ (by omega) (by omega) (.inr (.inr rfl)) fun v h1 h2 => by have := hstep.out v h1 h2; omega
        have h95' : ¬ (c.toNat : Int) = 95 := by omega
        clear h95
        obtain ⟨y, hy⟩ : ∃ y, bits .or .u8 (c.toNat : Int) 32 = y := ⟨_, rfl⟩
        have hlow := fun W => Tryd.internal_strconv_lower (c.toNat : Int) W
        rw [hy] at hlow
        have HLOW := Lib.hid hlow
        have y0 := bits_lo_u8 .or (c.toNat : Int) 32
        have y1 := bits_hi_u8 .or (c.toNat : Int) 32
        rw [hy] at y0 y1
        have hdn : 0 ≤ digN c → digN c = y - 87 ∧ 97 ≤ y ∧ y ≤ 102 := by
          intro h
          by_cases hlet : 97 ≤ c.toNat ∧ c.toNat ≤ 102
          · have e := or32 ⟨c.toNat, hc256⟩ hlet.1 hlet.2
            rw [hy] at e
            simp only at e
            rw [digN, if_neg hdig, if_pos hlet]; omega
          · rw [digN, if_neg hdig, if_neg hlet] at h; omega
        have HDN := Lib.hid hdn
        clear hdn hy hlow
        by_cases hlt : 97 ≤ y ∧ y ≤ 122
        · obtain ⟨l0, l1⟩ := hlt
          by_cases hdb : y < 87 + 16
          · by_cases hcut : 1152921504606846976 ≤ a
            · go_wp2_with (go_at_call 61; refine (HLOW.out _).mono ?_; rintro e w' ⟨rfl, rfl⟩)
              all_goals go_ret2
              all_goals exact PU_err HBL.out _ _ (by omega) (by omega) (.inr (.inl rfl)) fun v h1 h2 => by have := hstep.out v h1 h2; have := HDN.out; omega
            · by_cases hov : 18446744073709551616 ≤ a * 16 + (y - 87)
              · have hwr : IntKind.u64.wrap (a * 16 + (y - 97 + 10)) = a * 16 + (y - 97 + 10) - 18446744073709551616 := by rw [IntKind.wrap_u64]; omega
                go_wp2_with (go_at_call 61; refine (HLOW.out _).mono ?_; rintro e w' ⟨rfl, rfl⟩)
                all_goals go_ret2
                all_goals exact PU_err HBL.out _ _ (by omega) (by omega) (.inr (.inl rfl)) fun v h1 h2 => by have := hstep.out v h1 h2; have := HDN.out; omega
              · go_wp2_with (go_at_call 61; refine (HLOW.out _).mono ?_; rintro e w' ⟨rfl, rfl⟩)
                all_goals refine ⟨⟨k + 1, a * 16 + (y - 97 + 10), rfl, (by first | rfl | (congr 1; omega)), (by first | rfl | (congr 1; omega)), by omega, by omega, by omega, hnext.out _ fun h => by have := HDN.out h; omega⟩, by simp [intOf]; omega⟩
          · go_wp2_with (go_at_call 61; refine (HLOW.out _).mono ?_; rintro e w' ⟨rfl, rfl⟩)
            all_goals go_ret2
            all_goals exact PU_err HBL.out _ _ (by omega) (by omega) (.inr (.inr rfl)) fun v h1 h2 => by have := hstep.out v h1 h2; have := HDN.out; omega
        · by_cases hy0 : 97 ≤ y
          · have hy1 : 122 < y := by omega
            clear hlt
            go_wp2_with (go_at_call 61; refine (HLOW.out _).mono ?_; rintro e w' ⟨rfl, rfl⟩)
            all_goals go_ret2
            all_goals exact PU_err HBL.out _ _ (by omega) (by omega) (.inr (.inr rfl)) fun v h1 h2 => by have := hstep.out v h1 h2; have := HDN.out; omega
          · clear hlt
            go_wp2_with (go_at_call 61; refine (HLOW.out _).mono ?_; rintro e w' ⟨rfl, rfl⟩)
            all_goals go_ret2
            all_goals exact PU_err HBL.out _ _ (by omega) (by omega) (.inr (.inr rfl)) fun v h1 h2 => by have := hstep.out v h1 h2; have := HDN.out; omega
    · have hkk : k = t.size := by omega
      subst hkk
      go_wp2
      go_ret2
      exact PU_ok HBL.out _ a0 a1 (by rw [HLN.out]; exact hr.out)

end Go.Proofs.YtddiaoilelcfkaaDoor
