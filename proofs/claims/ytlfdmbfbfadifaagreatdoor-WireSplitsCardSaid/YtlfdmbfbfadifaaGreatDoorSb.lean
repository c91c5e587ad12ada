/-
  Package octet: what its Put, Get, PutText, GetText come to; names: package path's Valid and the reference's.
  Descriptions in memory: where their numbers and texts lie; the table of formats; the small tests of numbers.
-/
import Derived.Test.YtlfdmbfbfadifaaGreatDoorSa
import Derived.Test.YtlfdmbfbfadifaaGreatDoorRows
import Derived.Test.YtlfdmbfbfadifaaGreatDoorShelf
import Derived.WalkKit
import Derived.WalkSmall
import Derived.WalkSpells
import Derived.WalkLawsBesides
import Derived.Laws.BytesArg
import Derived.Lib.Hide
import Derived.LoopTactic
import Derived.StillTailTactics
import Derived.Deep.MidRow
import Derived.Lib.SmallJoins
import Derived.IntWalk
namespace Go.Proofs.YtlfdmbfbfadifaaGreatDoor.St
open Go.RowKit

def mk (l : List UInt8) : ByteArray := ⟨l.toArray⟩
theorem mk_toList (l : List UInt8) : (mk l).toList = l := by rw [Lib.toList_data]; simp [mk]
theorem mk_data (l : List UInt8) : (mk l).data.toList = l := by simp [mk]
theorem mk_of (s : ByteArray) : mk s.data.toList = s := by apply ByteArray.ext; simp [mk]
theorem mk_size (l : List UInt8) : (mk l).size = l.length := by simp [mk, ByteArray.size]
theorem mk_inj {a b : List UInt8} (h : mk a = mk b) : a = b := by rw [← mk_data a, ← mk_data b, h]
theorem mk_app (a b : List UInt8) : mk a ++ mk b = mk (a ++ b) := by
  apply ByteArray.ext
  simp [mk, ByteArray.data_append]
theorem mk_get (l : List UInt8) (k : Nat) (h : k < (mk l).size) : (mk l)[k] = l[k]'(by rw [mk_size] at h; exact h) := by
  simp only [mk]; rfl
theorem mk_cut (l : List UInt8) (a n : Nat) : (mk l).extract a (a + n) = mk (cut l a n) := by
  apply ByteArray.ext
  apply Array.ext'
  simp [mk, ByteArray.data_extract, cut, List.extract]
def sv (x : List UInt8) : Value := .string (mk x)
theorem add_at (b o j : Nat) : (⟨b, o, none⟩ : Addr).add j = ⟨b, o + j, none⟩ := by
  unfold Addr.add
  split
  · rename_i h; subst h; rfl
  · rfl

/-! ### Package octet -/
/-- The widths. -/
def wdB (w : Int) : Bool := decide (1 ≤ w) && decide (w ≤ 8)
theorem wdB_iff (w : Int) : wdB w = true ↔ 1 ≤ w ∧ w ≤ 8 := by simp [wdB]

set_option maxHeartbeats 400000 in
theorem isWidth_any (n : Int) (w : World) :
    Calls Tryz.prog 39 #[.int .i64 n] w fun e w' => e = .returned (.bool (wdB n)) ∧ w = w' := by
  go_enter Tryz.func39, Tryz.ntmps39
  go_wp2
  all_goals go_ret
  all_goals (refine ⟨retb ?_, rfl⟩; simp_all [wdB]; try omega)
theorem retSE {a b : List UInt8} {x y : Int} (h : (a, x) = (b, y)) : Ending.returned (.tuple #[.string ⟨a.toArray⟩, .int .i64 x]) = .returned (.tuple #[.string ⟨b.toArray⟩, .int .i64 y]) := by cases h; rfl

/-- A byte as a value; bytes as values. -/
def byteV (c : UInt8) : Value := .int .u8 (c.toNat : Int)
def bv (l : List UInt8) : List Value := l.map byteV
theorem u8_wrap (n : Int) (h : 0 ≤ n) : (IntKind.u8.wrap n) = ((UInt8.ofNat (n.toNat % 256)).toNat : Int) := by
  rw [IntKind.wrap_u8]; simp; omega
theorem info_u8 : (Tryz.prog.info? 5).map (fun i => (i.zero, i.size, i.bytes)) = some (some (.int .u8 0), 1, 1) := by kernel_rfl
/-- 'string(b)' of bytes that the call owns. -/
theorem string_own {w : World} {base n : Nat} {v : Value} {l : List UInt8} (hn : l.length = n) (h : w.ownsRow base 5 1 v n (bv l)) :
    (convert 45 9 v).run Tryz.prog w = .ok (.string ⟨l.toArray⟩) w := by
  have hx := h.1
  subst hn
  rcases h.2 with ⟨rfl, h0⟩ | ⟨g, cap, cur, rfl, rest⟩
  · have : l = [] := by simpa [bv] using h0
    subst this
    exact run_convert_bytes_nil w _ _ Tryz.underlying45 Tryz.underlying5 _ _ _ Tryz.underlying9
  · refine run_convert_bytes_back w _ _ _ _ cap l Tryz.underlying45 Tryz.underlying5 Tryz.underlying9 fun j hj => ?_
    exact World.ownsRow.cells (v := .slice (some ⟨g, 0, none⟩) l.length cap) ⟨hx, .inr ⟨g, cap, cur, rfl, rest⟩⟩ rfl j _ (by simp [bv, byteV, hj])

theorem putR_bad {n w : Int} (h : wdB w = false) : putR n w = ([], 1) := by
  rw [putR, if_pos]; simp [wdB] at h; omega
theorem putR_no {n w : Int} (h : 1 ≤ w ∧ w ≤ 8) (h2 : n < 0 ∨ (256 ^ w.toNat : Nat) ≤ n.toNat) : putR n w = ([], 5) := by
  rw [putR, if_neg (by omega), if_pos h2]
theorem putR_ok {n w : Int} (h : 1 ≤ w ∧ w ≤ 8) (h2 : 0 ≤ n) (h3 : n.toNat < 256 ^ w.toNat) : putR n w = (le w.toNat n.toNat, 0) := by
  rw [putR, if_neg (by omega), if_neg (by omega)]
theorem shr_eq (n k : Nat) : (n : Int) / 2 ^ (8 * k) = ((n / 256 ^ k : Nat) : Int) := by
  rw [Int.natCast_ediv, show (256 : Nat) = 2 ^ 8 from rfl, ← Nat.pow_mul]; simp
theorem le_fill (j k n : Nat) (h : j < k) : (bv (le j n ++ List.replicate (k - j) 0)).set j (byteV (UInt8.ofNat (n / 256 ^ j % 256))) = bv (le (j + 1) n ++ List.replicate (k - (j + 1)) 0) := by
  obtain ⟨d, rfl⟩ : ∃ d, k = j + 1 + d := ⟨k - (j + 1), by omega⟩
  rw [show j + 1 + d - j = d + 1 by omega, show j + 1 + d - (j + 1) = d by omega, le_snoc, List.replicate_succ]
  have hl : (bv (le j n)).length = j := by simp [bv, le_len]
  simp only [bv, List.map_append, List.map_cons, List.append_assoc] at hl ⊢
  rw [List.set_append_right _ _ (by omega), hl]
  simp

theorem byteV_of (m j : Nat) : byteV (UInt8.ofNat (m / 256 ^ j % 256)) = .int .u8 ((m : Int) / 256 ^ j % 256) := by
  unfold byteV
  congr 1
  rw [UInt8.toNat_ofNat']
  simp

set_option maxRecDepth 100000 in
set_option maxHeartbeats 800000 in
theorem Put_any (n wd : Int) (hn : inI n) (w : World) :
    Calls Tryz.prog 20 #[.int .i64 n, .int .i64 wd] w fun e w' => e = .returned (.tuple #[.string ⟨(putR n wd).1.toArray⟩, .int .i64 (putR n wd).2]) ∧ Below w.heap.size w w' := by
  obtain ⟨hn1, hn2⟩ := hn
  by_cases hwd : wdB wd = true
  · have hwr := (wdB_iff wd).1 hwd
    obtain ⟨hw1, hw2⟩ := hwr
    have HW := Lib.hid hwd
    clear hwd
    by_cases h0 : n < 0
    · rw [putR_no ⟨hw1, hw2⟩ (.inl h0)]
      go_enter Tryz.func20, Tryz.ntmps20
      go_wp2_with (go_at_call 39; refine (isWidth_any _ _).mono ?_; rw [HW.out]; rintro e w' ⟨rfl, rfl⟩)
      go_ret2
      exact ⟨rfl, Below.refl _ _⟩
    · obtain ⟨k, rfl⟩ : ∃ k : Nat, wd = k := ⟨wd.toNat, by omega⟩
      obtain ⟨m, rfl⟩ : ∃ m : Nat, n = m := ⟨n.toNat, by omega⟩
      have hsh := shr_eq m k
      by_cases hf : m < 256 ^ k
      · have hq : (((m / 256 ^ k : Nat) : Int) != 0) = false := by rw [Nat.div_eq_of_lt hf]; rfl
        rw [← hsh] at hq
        have hR := putR_ok ⟨hw1, hw2⟩ (show (0 : Int) ≤ (m : Int) by omega) (by simpa using hf)
        have HR := Lib.hid hR
        clear hR hsh hf
        obtain ⟨i0, hi, hz0, hz1, hz2⟩ := info_parts info_u8
        go_enter Tryz.func20, Tryz.ntmps20
        go_wp2_with (first | (go_at_call 39; refine (isWidth_any _ _).mono ?_; rw [HW.out]; rintro e w' ⟨rfl, rfl⟩) | (at_make; refine wpList_make_full _ rfl _ _ 45 rfl w.heap.size 5 i0 (.int .u8 0) 1 Tryz.underlying45 hi hz0 hz1 _ _ _ _ k rfl rfl rfl rfl (by rw [hz2]; omega) (by unfold maxLen; omega) (Nat.le_refl _) ?_))
        intro w0 hown hgrow
        have hB := (Below.refl w.heap.size w).grown hgrow (Nat.le_refl _) (fun _ h => by cases h)
        have HO := Lib.hid hown
        have HB := Lib.hid hB
        clear hown hgrow hB hq
        go_wp2
        go_loopw [24] (fun vj wr => ∃ j : Nat, vj = .int .i64 (j : Int) ∧ j ≤ k ∧ Hid (wr.ownsRow w.heap.size 5 1 (.slice (some ⟨w.heap.size, 0, none⟩) k k) k (bv (le j m ++ List.replicate (k - j) 0))) ∧ Hid (Below w.heap.size w wr)) (fun vj _ => k - (intOf vj).toNat)
        case atStart =>
          refine ⟨0, rfl, by omega, ?_, HB⟩
          have h := HO.out
          rw [toList_madeCells_one] at h
          have e : (bv (le 0 m ++ List.replicate (k - 0) 0)) = List.replicate k (.int .u8 0) := by simp [le, bv, byteV]
          rw [e]
          exact h
        case round =>
          obtain ⟨j, rfl, hj, ho, hb⟩ := hrel
          by_cases hjk : j < k
          · have hc := ho.out.cellAt j (by omega)
            have hfz := ho.out.frozenAt j
            have hlt : j < (bv (le j m ++ List.replicate (k - j) 0)).length := by simp [bv, le_len]; omega
            rw [List.getElem?_eq_getElem hlt] at hc
            generalize (bv (le j m ++ List.replicate (k - j) 0))[j] = x at hc
            clear hlt
            have he := shr_eq m j
            go_wp2
            refine ⟨⟨j + 1, by go_num, by omega, ?_, ?_⟩, by simp [intOf]; omega⟩
            · have h := (ho.out.stored j (byteV (UInt8.ofNat (m / 256 ^ j % 256)))).1
              rw [le_fill j k m hjk, byteV_of] at h
              exact h
            · exact hb.out.setCell (Nat.le_refl _) _
          · obtain rfl : j = k := by omega
            have hst := string_own (l := le j m) (by rw [le_len]) (by have h := ho.out; rwa [Nat.sub_self, List.replicate_zero, List.append_nil] at h)
            go_wp2
            go_ret2
            rw [HR.out]
            exact ⟨by simp, hb.out⟩
      · have hq : (((m / 256 ^ k : Nat) : Int) != 0) = true := by
          have : 0 < m / 256 ^ k := Nat.div_pos (by omega) (Nat.pow_pos (by omega))
          rw [bne_iff_ne]; omega
        rw [← hsh] at hq
        have hR := putR_no ⟨hw1, hw2⟩ (.inr (by simp; omega : 256 ^ ((k : Int)).toNat ≤ ((m : Int)).toNat))
        have HR := Lib.hid hR
        clear hR hsh hf
        go_enter Tryz.func20, Tryz.ntmps20
        go_wp2_with (go_at_call 39; refine (isWidth_any _ _).mono ?_; rw [HW.out]; rintro e w' ⟨rfl, rfl⟩)
        go_ret2
        rw [HR.out]
        exact ⟨by simp, Below.refl _ _⟩
  · have hb : wdB wd = false := by simpa using hwd
    rw [putR_bad hb]
    have HB := Lib.hid hb
    clear hb hwd
    go_enter Tryz.func20, Tryz.ntmps20
    go_wp2_with (go_at_call 39; refine (isWidth_any _ _).mono ?_; rw [HB.out]; rintro e w' ⟨rfl, rfl⟩)
    go_ret2
    exact ⟨rfl, Below.refl _ _⟩
theorem app_byte (l : List UInt8) (c : UInt8) : (⟨l.toArray⟩ : ByteArray) ++ ⟨#[c]⟩ = ⟨(l ++ [c]).toArray⟩ := by
  apply ByteArray.ext
  simp [ByteArray.data_append]

/-- 'string([]byte{c})'. -/
theorem string_one (w : World) (c : UInt8) (x : Int) (hx : x = (c.toNat : Int)) :
    (convert 45 9 (.slice (some ⟨w.heap.size, 0, none⟩) 1 1)).run Tryz.prog (w.alloc (.cells #[.int .u8 x] 5)) = .ok (.string ⟨[c].toArray⟩) (w.alloc (.cells #[.int .u8 x] 5)) := by
  subst hx
  refine run_convert_bytes_back _ _ _ _ ⟨w.heap.size, 0, none⟩ 1 [c] Tryz.underlying45 Tryz.underlying5 Tryz.underlying9 fun j hj => ?_
  obtain rfl : j = 0 := by simpa using hj
  rw [show (⟨w.heap.size, 0, none⟩ : Addr).add 0 = ⟨w.heap.size, 0, none⟩ by simp [Addr.add], World.cell?_alloc_new]
  rfl

/-- The bytes of s from a on, k of them. -/
def sub (s : ByteArray) (a k : Nat) : List UInt8 := (s.data.toList.drop a).take k

theorem sub_len (s : ByteArray) (a k : Nat) (h : a + k ≤ s.size) : (sub s a k).length = k := by
  have hlen : s.data.toList.length = s.size := Array.length_toList
  unfold sub; rw [List.length_take, List.length_drop]; omega
theorem sub_snoc (s : ByteArray) (a k : Nat) (h : a + k < s.size) : sub s a (k + 1) = sub s a k ++ [s[a + k]] := by
  have hlen : s.data.toList.length = s.size := Array.length_toList
  unfold sub
  rw [List.take_succ_eq_append_getElem (by rw [List.length_drop]; omega), List.getElem_drop]
  rfl
theorem val_sub (s : ByteArray) (a k : Nat) (h : a + k < s.size) : val (sub s a (k + 1)) = val (sub s a k) + 256 ^ k * s[a + k].toNat := by
  rw [sub_snoc s a k h, val_snoc, sub_len s a k (by omega)]
theorem val_sub_lt (s : ByteArray) (a k : Nat) (h : a + k ≤ s.size) : val (sub s a k) < 256 ^ k := by
  have := val_lt (sub s a k); rwa [sub_len s a k h] at this
theorem pow_step {j : Nat} (hj : j < 8) : 256 ^ j * 256 ≤ 18446744073709551616 := by
  rcases (show j = 0 ∨ j = 1 ∨ j = 2 ∨ j = 3 ∨ j = 4 ∨ j = 5 ∨ j = 6 ∨ j = 7 by omega) with rfl | rfl | rfl | rfl | rfl | rfl | rfl | rfl <;> decide
theorem lt_step {j n c : Nat} (hn : n < 256 ^ j) (hc : c < 256) : n + 256 ^ j * c < 256 ^ j * 256 := by
  have h : 256 ^ j * c + 256 ^ j ≤ 256 ^ j * 256 := by rw [← Nat.mul_succ]; exact Nat.mul_le_mul_left _ (by omega)
  omega
theorem or_step (n j c : Nat) (hn : n < 256 ^ j) (hc : c < 256) (hj : j < 8) : bits .or .u64 (n : Int) (IntKind.u64.wrap (IntKind.u64.wrap (c : Int) * 2 ^ (8 * j))) = ((n + 256 ^ j * c : Nat) : Int) := by
  have hp := pow_step hj
  have hs := lt_step hn hc
  have e2 : (2 : Nat) ^ (8 * j) = 256 ^ j := by rw [Nat.pow_mul]
  have e1 : IntKind.u64.wrap (c : Int) = c := by rw [IntKind.wrap_u64]; omega
  have e3 : ((c : Int) * 2 ^ (8 * j)) = ((256 ^ j * c : Nat) : Int) := by rw [← e2, Int.natCast_mul, Int.natCast_pow, Int.mul_comm]; rfl
  rw [e1, e3, show IntKind.u64.wrap ((256 ^ j * c : Nat) : Int) = ((256 ^ j * c : Nat) : Int) by rw [IntKind.wrap_u64]; omega, u64_or_nat _ _ (by omega) (by omega), Nat.or_comm, ← e2, ← Nat.two_pow_add_eq_or_of_lt (by rw [e2]; exact hn), Nat.add_comm]

set_option maxRecDepth 100000 in
set_option maxHeartbeats 800000 in
theorem Get_any (s : ByteArray) (at' wd : Int) (hs : s.size ≤ maxLen) (w : World) :
    Calls Tryz.prog 31 #[.string s, .int .i64 at', .int .i64 wd] w fun e w' => e = .returned (.tuple #[.int .i64 (getR s.data.toList at' wd).1, .int .i64 (getR s.data.toList at' wd).2.1, .int .i64 (getR s.data.toList at' wd).2.2]) ∧ w = w' := by
  have hlen : s.data.toList.length = s.size := Array.length_toList
  unfold maxLen at hs
  by_cases hwd : wdB wd = true
  · have hwr := (wdB_iff wd).1 hwd
    obtain ⟨hw1, hw2⟩ := hwr
    have HW := Lib.hid hwd
    clear hwd
    by_cases h0 : at' < 0
    · have HR : Hid (getR s.data.toList at' wd = (0, 0, 1)) := by rw [getR, if_pos (by omega)]; exact rfl
      clear hlen
      go_enter Tryz.func31, Tryz.ntmps31
      go_wp2_with (go_at_call 39; refine (isWidth_any _ _).mono ?_; rw [HW.out]; rintro e w' ⟨rfl, rfl⟩)
      go_ret3
      rw [HR.out]
      exact ⟨rfl, rfl⟩
    obtain ⟨a, rfl⟩ : ∃ a : Nat, at' = a := ⟨at'.toNat, by omega⟩
    obtain ⟨k, rfl⟩ : ∃ k : Nat, wd = k := ⟨wd.toNat, by omega⟩
    by_cases h1 : s.size < a
    · have HR : Hid (getR s.data.toList a k = (0, 0, 1)) := by rw [getR, if_pos (by omega)]; exact rfl
      clear hlen
      go_enter Tryz.func31, Tryz.ntmps31
      go_wp2_with (go_at_call 39; refine (isWidth_any _ _).mono ?_; rw [HW.out]; rintro e w' ⟨rfl, rfl⟩)
      go_ret3
      rw [HR.out]
      exact ⟨rfl, rfl⟩
    by_cases h2 : s.size < a + k
    · have HR : Hid (getR s.data.toList a k = (0, 0, 3)) := by rw [getR, if_neg (by omega), if_pos (by omega)]; exact rfl
      clear hlen
      go_enter Tryz.func31, Tryz.ntmps31
      go_wp2_with (go_at_call 39; refine (isWidth_any _ _).mono ?_; rw [HW.out]; rintro e w' ⟨rfl, rfl⟩)
      go_ret3
      rw [HR.out]
      exact ⟨rfl, rfl⟩
    have HL := Lib.hid hlen
    clear hlen
    go_enter Tryz.func31, Tryz.ntmps31
    go_wp2_with (go_at_call 39; refine (isWidth_any _ _).mono ?_; rw [HW.out]; rintro e w' ⟨rfl, rfl⟩)
    go_loop [9, 31] (fun vn vj => ∃ (j n : Nat), vj = .int .i64 (j : Int) ∧ vn = .int .u64 (n : Int) ∧ j ≤ k ∧ n < 18446744073709551616 ∧ Hid (n = val (sub s a j))) (fun _ vj => k - (intOf vj).toNat)
    case atStart => exact ⟨0, 0, rfl, rfl, by omega, by omega, (by simp [sub, val] : 0 = val (sub s a 0))⟩
    case round =>
      obtain ⟨j, n, rfl, rfl, hj, hn, hv⟩ := hrel
      by_cases hjk : j < k
      · have hbd : a + j < s.size := by omega
        have hvs := val_sub s a j hbd
        have hvl := val_sub_lt s a j (by omega)
        rw [← hv.out] at hvs hvl
        have hos := or_step n j s[a + j].toNat hvl s[a + j].toNat_lt (by omega)
        have hbig := Nat.lt_of_lt_of_le (lt_step hvl s[a + j].toNat_lt) (pow_step (show j < 8 by omega))
        have HV := Lib.hid hvs
        have HO := Lib.hid hos
        clear hvs hvl hos
        go_wp2
        rw [HO.out]
        exact ⟨⟨j + 1, n + 256 ^ j * s[a + j].toNat, by go_num, rfl, by omega, hbig, HV.out.symm⟩, by simp [intOf]; omega⟩
      · obtain rfl : j = k := by omega
        have hsub : sub s a j = (s.data.toList.drop (a : Int).toNat).take (j : Int).toNat := rfl
        by_cases hm : 9223372036854775808 ≤ n
        · have HR : Hid (getR s.data.toList a j = (0, 0, 5)) := by
            have := HL.out
            rw [getR, if_neg (by omega), if_neg (by omega), ← hsub, ← hv.out, if_pos hm]; exact rfl
          clear hsub
          go_wp2
          go_ret3
          rw [HR.out]
          exact ⟨rfl, rfl⟩
        · have HR : Hid (getR s.data.toList a j = ((n : Int), (a : Int) + (j : Int), 0)) := by
            have := HL.out
            rw [getR, if_neg (by omega), if_neg (by omega), ← hsub, ← hv.out, if_neg hm]; exact rfl
          clear hsub
          go_wp2
          go_ret3
          rw [HR.out]
          exact ⟨rfl, rfl⟩
  · have hb : wdB wd = false := by simpa using hwd
    have HR : Hid (getR s.data.toList at' wd = (0, 0, 1)) := by
      have : ¬ (1 ≤ wd ∧ wd ≤ 8) := fun h => by rw [(wdB_iff wd).2 h] at hb; cases hb
      rw [getR, if_pos (by omega)]; exact rfl
    have HB := Lib.hid hb
    clear hb hwd hlen
    go_enter Tryz.func31, Tryz.ntmps31
    go_wp2_with (go_at_call 39; refine (isWidth_any _ _).mono ?_; rw [HB.out]; rintro e w' ⟨rfl, rfl⟩)
    go_ret3
    rw [HR.out]
    exact ⟨rfl, rfl⟩
theorem putR_len (n : Nat) : putR (n : Int) 2 = if 65536 ≤ n then ([], 5) else (le 2 n, 0) := by
  by_cases h : 65536 ≤ n
  · rw [if_pos h, putR_no ⟨by omega, by omega⟩ (.inr (by simpa using h))]
  · rw [if_neg h, putR_ok ⟨by omega, by omega⟩ (by omega) (by simp; omega)]; rfl
theorem app_text (a : List UInt8) (s : ByteArray) : (⟨a.toArray⟩ : ByteArray) ++ s = ⟨(a ++ s.data.toList).toArray⟩ := by
  apply ByteArray.ext
  simp [ByteArray.data_append]

set_option maxRecDepth 100000 in
set_option maxHeartbeats 800000 in
theorem PutText_any (s : ByteArray) (hs : s.size ≤ maxLen) (w : World) :
    Calls Tryz.prog 121 #[.string s] w fun e w' => e = .returned (.tuple #[.string ⟨(putTextR s.data.toList).1.toArray⟩, .int .i64 (putTextR s.data.toList).2]) ∧ Below w.heap.size w w' := by
  have hlen : s.data.toList.length = s.size := Array.length_toList
  unfold maxLen at hs
  have hp := Put_any s.size 2 ⟨by omega, by omega⟩ w
  rw [putR_len] at hp
  by_cases h : 65536 ≤ s.size
  · have HR : Hid (putTextR s.data.toList = ([], 4)) := by rw [putTextR, if_pos (by omega)]; exact rfl
    rw [if_pos h] at hp
    have HP := Lib.hid hp
    clear hp hlen
    go_enter Tryz.func121, Tryz.ntmps121
    go_wp2_with fail
    refine HP.out.mono ?_
    rintro e w' ⟨rfl, hB⟩
    go_wp2
    go_ret2
    rw [HR.out]
    exact ⟨rfl, hB⟩
  · have HR : Hid (putTextR s.data.toList = (le 2 s.size ++ s.data.toList, 0)) := by rw [putTextR, if_neg (by omega), hlen]; exact rfl
    rw [if_neg h] at hp
    have HP := Lib.hid hp
    have hz : (⟨(le 2 s.size).toArray⟩ : ByteArray).size = 2 := by show (le 2 s.size).toArray.size = 2; rw [List.size_toArray, le_len]
    have h2 : s.size ≤ 65535 := by omega
    clear hp hlen
    go_enter Tryz.func121, Tryz.ntmps121
    go_wp2_with fail
    refine HP.out.mono ?_
    rintro e w' ⟨rfl, hB⟩
    go_wp2
    go_ret2
    rw [HR.out, app_text]
    exact ⟨rfl, hB⟩
/-- What Get of two bytes comes to: an error, or a length below 65536 and the offset behind it. -/
theorem getR2 (s : ByteArray) (a : Int) : (∃ c, c ≠ 0 ∧ 0 < c ∧ c < 6 ∧ getR s.data.toList a 2 = (0, 0, c)) ∨ (∃ (n b : Nat), n < 65536 ∧ a = b ∧ b + 2 ≤ s.size ∧ getR s.data.toList a 2 = ((n : Int), (b : Int) + 2, 0)) := by
  have hlen : s.data.toList.length = s.size := Array.length_toList
  by_cases h1 : a < 0 ∨ (s.size : Int) < a
  · exact .inl ⟨1, by omega, by omega, by omega, by rw [getR, if_pos (by omega)]⟩
  by_cases h2 : (s.size : Int) - a < 2
  · exact .inl ⟨3, by omega, by omega, by omega, by rw [getR, if_neg (by omega), if_pos (by omega)]⟩
  obtain ⟨b, rfl⟩ : ∃ b : Nat, a = b := ⟨a.toNat, by omega⟩
  have hv := val_sub_lt s b 2 (by omega)
  refine .inr ⟨val (sub s b 2), b, by simpa using hv, rfl, by omega, ?_⟩
  rw [getR, if_neg (by omega), if_neg (by omega), if_neg (by show ¬ _ ≤ val (sub s b 2); omega)]
  rfl
theorem ex_sub (s : ByteArray) (b n : Nat) : s.extract b (b + n) = ⟨(sub s b n).toArray⟩ := by
  apply ByteArray.ext
  apply Array.ext'
  simp [ByteArray.data_extract, sub, Array.toList_extract, List.extract]
theorem getTextR_bad {l : List UInt8} {a c : Int} (h : getR l a 2 = (0, 0, c)) (hc : c ≠ 0) : getTextR l a = ([], 0, c) := by rw [getTextR, h, if_pos hc]
theorem getTextR_short {l : List UInt8} {b n : Nat} {m : Nat} (hl : l.length = m) (h : getR l (b : Int) 2 = ((n : Int), (b : Int) + 2, 0)) (h2 : m < b + 2 + n) : getTextR l b = ([], 0, 3) := by
  rw [getTextR, h, if_neg (by simp), if_pos (by simp only; omega)]
theorem getTextR_ok {l : List UInt8} {b n : Nat} {m : Nat} (hl : l.length = m) (h : getR l (b : Int) 2 = ((n : Int), (b : Int) + 2, 0)) (h2 : ¬ m < b + 2 + n) : getTextR l b = ((l.drop (b + 2)).take n, (b : Int) + 2 + n, 0) := by
  rw [getTextR, h, if_neg (by simp), if_neg (by simp only; omega)]
  simp only [Int.toNat_natCast]
  rw [show ((b : Int) + 2).toNat = b + 2 by omega]

set_option maxHeartbeats 400000 in
theorem sClone_any (s : ByteArray) (w : World) (hs : s.size ≤ 281474976710656) :
    Calls Tryz.prog 32 #[.string s] w fun e w' => e = .returned (.string s) ∧ Below w.heap.size w w' := by
  have H := Lib.hid (Tryz.stringslite_Clone s w hs)
  go_enter Tryz.func32, Tryz.ntmps32
  go_wp2_with fail
  refine H.out.mono ?_
  rintro e w' ⟨rfl, hB⟩
  go_wp2
  go_ret
  exact ⟨rfl, hB⟩
theorem retSEF {a b : ByteArray} {x y x' y' : Int} (h : a = b) (h2 : x = x') (h3 : y = y') : Ending.returned (.tuple #[.string a, .int .i64 x, .int .i64 y]) = .returned (.tuple #[.string b, .int .i64 x', .int .i64 y']) := by rw [h, h2, h3]

set_option maxRecDepth 100000 in
set_option maxHeartbeats 800000 in
theorem GetText_any (s : ByteArray) (at' : Int) (hs : s.size ≤ maxLen) (w : World) :
    Calls Tryz.prog 144 #[.string s, .int .i64 at'] w fun e w' => e = .returned (.tuple #[.string ⟨(getTextR s.data.toList at').1.toArray⟩, .int .i64 (getTextR s.data.toList at').2.1, .int .i64 (getTextR s.data.toList at').2.2]) ∧ Below w.heap.size w w' := by
  have hlen : s.data.toList.length = s.size := Array.length_toList
  have hg := Get_any s at' 2 hs w
  unfold maxLen at hs
  rcases getR2 s at' with ⟨c, hc, hc1, hc2, hr⟩ | ⟨n, b, hn, rfl, hb, hr⟩
  · have HR := Lib.hid (getTextR_bad hr hc)
    rw [hr] at hg
    have HG := Lib.hid hg
    have hcb : (c != 0) = true := by simpa using hc
    clear hg hr hlen
    go_enter Tryz.func144, Tryz.ntmps144
    go_wp2_with fail
    refine HG.out.mono ?_
    rintro e w' ⟨rfl, rfl⟩
    go_wp2
    go_ret3
    rw [HR.out]
    exact ⟨rfl, Below.refl _ _⟩
  · rw [hr] at hg
    have HG := Lib.hid hg
    by_cases h2 : s.size < b + 2 + n
    · have HR := Lib.hid (getTextR_short hlen hr h2)
      clear hg hr hlen
      go_enter Tryz.func144, Tryz.ntmps144
      go_wp2_with fail
      refine HG.out.mono ?_
      rintro e w' ⟨rfl, rfl⟩
      go_wp2
      go_ret3
      rw [HR.out]
      exact ⟨rfl, Below.refl _ _⟩
    · have HR := Lib.hid (getTextR_ok hlen hr h2)
      have HX := Lib.hid (ex_sub s (b + 2) n)
      clear hg hr hlen
      go_enter Tryz.func144, Tryz.ntmps144
      go_wp2_with fail
      refine HG.out.mono ?_
      rintro e w' ⟨rfl, rfl⟩
      go_wp2_with fail
      refine (sClone_any _ _ (by rw [ByteArray.size_extract]; omega)).mono ?_
      rintro e w' ⟨rfl, hB⟩
      go_wp2
      go_ret3
      rw [HR.out]
      exact ⟨retSEF HX.out rfl rfl, hB⟩

/-! ### Names -/
theorem isNameByte_any (c : UInt8) (w : World) :
    Calls Tryz.prog 93 #[.int .u8 (c.toNat : Int)] w fun e w' => e = .returned (.bool (nameB c)) ∧ w = w' := by
  have hc := c.toNat_lt
  by_cases h1 : 33 ≤ c.toNat
  · by_cases h2 : c.toNat ≤ 126
    · have hr : nameB c = ((c.toNat : Int) != 47) := by
        unfold nameB; rw [Bool.eq_iff_iff]; simp; omega
      rw [hr]
      clear hr
      go_enter Tryz.func93, Tryz.ntmps93
      go_wp2
      go_ret
      exact ⟨rfl, rfl⟩
    · have hr : nameB c = false := by unfold nameB; simp; omega
      rw [hr]
      clear hr
      go_enter Tryz.func93, Tryz.ntmps93
      go_wp2
      go_ret
      exact ⟨rfl, rfl⟩
  · have hr : nameB c = false := by unfold nameB; simp; omega
    rw [hr]
    clear hr
    go_enter Tryz.func93, Tryz.ntmps93
    go_wp2
    go_ret
    exact ⟨rfl, rfl⟩

theorem validL_bad {s : ByteArray} (h : s.toList = [] ∨ 64 < s.size ∨ s.toList = [46] ∨ s.toList = [46, 46]) : validL s.data.toList = false := by
  rw [Lib.toList_data] at h
  have hl : s.data.toList.length = s.size := Array.length_toList
  unfold validL
  rw [Bool.and_eq_false_iff]
  left
  rw [decide_eq_false_iff_not]
  rintro ⟨a, b, c, d⟩
  rcases h with h | h | h | h
  · exact a h
  · omega
  · exact c h
  · exact d h
theorem validL_good {s : ByteArray} (h1 : s.toList ≠ []) (h2 : s.size ≤ 64) (h3 : s.toList ≠ [46]) (h4 : s.toList ≠ [46, 46]) : validL s.data.toList = s.data.toList.all nameB := by
  rw [Lib.toList_data] at h1 h3 h4
  have hl : s.data.toList.length = s.size := Array.length_toList
  unfold validL
  rw [decide_eq_true ⟨h1, by omega, h3, h4⟩, Bool.true_and]
theorem take_all (s : ByteArray) (k : Nat) (h : k < s.size) (ha : (s.data.toList.take k).all nameB = true) (hb : nameB s[k] = true) : (s.data.toList.take (k + 1)).all nameB = true := by
  have hl : s.data.toList.length = s.size := Array.length_toList
  rw [List.take_succ_eq_append_getElem (by omega), List.all_append, ha]
  simp
  exact hb
theorem take_none (s : ByteArray) (k : Nat) (h : k < s.size) (hb : nameB s[k] = false) : s.data.toList.all nameB = false := by
  have hl : s.data.toList.length = s.size := Array.length_toList
  rw [List.all_eq_false]
  refine ⟨s[k], ?_, by simp [hb]⟩
  rw [show s[k] = s.data.toList[k]'(by omega) from by simp [Array.getElem_toList]; rfl]
  exact List.getElem_mem _

set_option maxHeartbeats 800000 in
theorem Valid_any (s : ByteArray) (hs : s.size ≤ 9223372036854775807) (w : World) :
    Calls Tryz.prog 84 #[.string s] w fun e w' => e = .returned (.bool (validL s.data.toList)) ∧ w = w' := by
  have hl : s.data.toList.length = s.size := Array.length_toList
  have HL := Lib.hid hl
  clear hl
  by_cases hbad : s.toList = [] ∨ 64 < s.size ∨ s.toList = [46] ∨ s.toList = [46, 46]
  · have HR := Lib.hid (validL_bad hbad)
    rw [HR.out]
    rcases hbad with h | h | h | h
    · have g2 : (s.toList == [46]) = false := by rw [h]; decide
      go_enter Tryz.func84, Tryz.ntmps84
      go_wp2
      go_ret
      exact ⟨rfl, rfl⟩
    · have g1 : s.toList ≠ [] := by
        intro e; rw [Lib.toList_data] at e; have := HL.out; rw [e] at this; simp at this; omega
      go_enter Tryz.func84, Tryz.ntmps84
      go_wp2
      go_ret
      exact ⟨rfl, rfl⟩
    · have g1 : s.toList ≠ [] := by rw [h]; simp
      have g3 : s.size ≤ 64 := by have := HL.out; rw [← Lib.toList_data, h] at this; simp at this; omega
      go_enter Tryz.func84, Tryz.ntmps84
      go_wp2
      go_ret
      exact ⟨rfl, rfl⟩
    · have g1 : s.toList ≠ [] := by rw [h]; simp
      have g2 : (s.toList == [46]) = false := by rw [h]; decide
      have g3 : s.size ≤ 64 := by have := HL.out; rw [← Lib.toList_data, h] at this; simp at this; omega
      have g4 : (s.toList == [46, 46]) = true := by rw [h]; decide
      go_enter Tryz.func84, Tryz.ntmps84
      go_wp2
      go_ret
      exact ⟨rfl, rfl⟩
  · simp only [not_or] at hbad
    obtain ⟨h1, h2, h3, h4⟩ := hbad
    have hr := validL_good h1 (by omega) h3 h4
    generalize validL s.data.toList = r at hr ⊢
    have HR := Lib.hid hr
    clear hr
    have g0 : s.toList.isEmpty = false := by simp [h1]
    have g2 : (s.toList == [46]) = false := by simpa using h3
    have g4 : (s.toList == [46, 46]) = false := by simpa using h4
    have g3 : s.size ≤ 64 := by omega
    go_enter Tryz.func84, Tryz.ntmps84
    go_wp2
    go_loop [21] (fun vi => ∃ k : Nat, vi = .int .i64 (k : Int) ∧ k ≤ s.size ∧ Hid ((s.data.toList.take k).all nameB = true)) (fun vi => s.size - (intOf vi).toNat)
    case atStart => exact ⟨0, rfl, by omega, by simp [Hid]⟩
    case round =>
      obtain ⟨k, rfl, hk, ha⟩ := hrel
      by_cases hlt : k < s.size
      · have N := isNameByte_any s[k] w
        by_cases hb : nameB s[k] = true
        · rw [hb] at N
          have HN := Lib.hid N
          have HA := Lib.hid (take_all s k hlt ha.out hb)
          clear N hb
          go_wp2_with (go_at_call 93; refine HN.out.mono ?_; rintro e w' ⟨rfl, rfl⟩)
          exact ⟨⟨k + 1, by go_num, by omega, HA⟩, by simp [intOf]; omega⟩
        · have hb : nameB s[k] = false := by simpa using hb
          rw [hb] at N
          have HN := Lib.hid N
          have HA := Lib.hid (take_none s k hlt hb)
          clear N hb
          go_wp2_with (go_at_call 93; refine HN.out.mono ?_; rintro e w' ⟨rfl, rfl⟩)
          go_ret
          rw [HR.out, HA.out]
          exact ⟨rfl, rfl⟩
      · have hkn : k = s.size := by omega
        have ha' := ha.out
        rw [hkn, ← HL.out, List.take_length] at ha'
        have HA := Lib.hid ha'
        clear ha'
        go_wp2
        go_ret
        rw [HR.out, HA.out]
        exact ⟨rfl, rfl⟩

theorem nameB_eq (c : UInt8) : nameB c = (!decide ((c.toNat : Int) < 33) && (!decide (126 < (c.toNat : Int)) && !((c.toNat : Int) == 47))) := by
  unfold nameB; rw [Bool.eq_iff_iff]; simp; omega
theorem validL_long {s : ByteArray} (h : s.data.toList.all nameB = true) : validL s.data.toList = decide (1 ≤ s.size ∧ s.size ≤ 64 ∧ s.toList ≠ [46] ∧ s.toList ≠ [46, 46]) := by
  have hl : s.data.toList.length = s.size := Array.length_toList
  unfold validL
  rw [h, Bool.and_true, Lib.toList_data, ← hl]
  congr 1
  apply propext
  constructor
  · rintro ⟨a, b, c⟩; exact ⟨List.length_pos_iff.2 a, b, c⟩
  · rintro ⟨a, b, c⟩; exact ⟨List.length_pos_iff.1 a, b, c⟩
theorem validL_not {s : ByteArray} (h : s.data.toList.all nameB = false) : validL s.data.toList = false := by
  unfold validL; rw [h, Bool.and_false]

set_option maxHeartbeats 1600000 in
theorem RValid_any (s : ByteArray) (hs : s.size ≤ 9223372036854775807) (w : World) :
    Calls Tryz.prog 87 #[.string s] w fun e w' => e = .returned (.bool (validL s.data.toList)) ∧ w = w' := by
  have hl : s.data.toList.length = s.size := Array.length_toList
  have HL := Lib.hid hl
  clear hl
  have HG := Lib.hid (fun h => validL_long (s := s) h)
  have HN := Lib.hid (fun h => validL_not (s := s) h)
  generalize validL s.data.toList = r at HG HN ⊢
  go_enter Tryz.func87, Tryz.ntmps87
  go_wp2
  go_loop [3] (fun vi => ∃ k : Nat, vi = .int .i64 (k : Int) ∧ k ≤ s.size ∧ Hid ((s.data.toList.take k).all nameB = true)) (fun vi => s.size - (intOf vi).toNat)
  case atStart => exact ⟨0, rfl, by omega, by simp [Hid]⟩
  case round =>
    obtain ⟨k, rfl, hk, ha⟩ := hrel
    by_cases hlt : k < s.size
    · have hc := s[k].toNat_lt
      have hn := nameB_eq s[k]
      have HA := fun h => Lib.hid (take_all s k hlt ha.out h)
      have HB := fun h => Lib.hid (HN.out (take_none s k hlt h))
      by_cases h1 : (s[k].toNat : Int) < 33
      · have HB' := HB (by rw [hn]; simp [h1])
        clear HA HB hn
        go_wp2
        go_ret
        rw [HB'.out]
        exact ⟨rfl, rfl⟩
      by_cases h2 : 126 < (s[k].toNat : Int)
      · have HB' := HB (by rw [hn]; simp [h2])
        clear HA HB hn
        go_wp2
        go_ret
        rw [HB'.out]
        exact ⟨rfl, rfl⟩
      have h3' : ((s[k].toNat : Int) == 47) = decide ((s[k].toNat : Int) = 47) := rfl
      by_cases h3 : (s[k].toNat : Int) = 47
      · have HB' := HB (by rw [hn]; simp [h3])
        have h4 : ((s[k].toNat : Int) == 47) = true := by rw [h3]; rfl
        clear HA HB hn h3 h3'
        go_wp2
        go_ret
        rw [HB'.out]
        exact ⟨rfl, rfl⟩
      · have HA' := HA (by rw [hn]; simp [h1, h2, h3])
        have h4 : ((s[k].toNat : Int) == 47) = false := by simpa using h3
        clear HA HB hn h3 h3'
        go_wp2
        exact ⟨⟨k + 1, by go_num, by omega, HA'⟩, by simp [intOf]; omega⟩
    · have hkn : k = s.size := by omega
      have ha' := ha.out
      rw [hkn, ← HL.out, List.take_length] at ha'
      have hr := HG.out ha'
      clear ha'
      by_cases h1 : 1 ≤ s.size
      · by_cases h2 : s.size ≤ 64
        · by_cases h3 : s.toList = [46]
          · have h4 : (s.toList == [46]) = true := by rw [h3]; decide
            have HA : Hid (r = false) := by rw [hr]; simp [Hid, h3]
            clear hr h3
            go_wp2
            go_ret
            rw [HA.out]
            exact ⟨rfl, rfl⟩
          · have h4 : (s.toList == [46]) = false := by simpa using h3
            have HA : Hid (r = !(s.toList == [46, 46])) := by
              rw [hr]; show _ = _; rw [Bool.eq_iff_iff]; simp [h1, h2, h3]
            clear hr h3
            go_wp2
            go_ret
            rw [HA.out]
            exact ⟨rfl, rfl⟩
        · have HA : Hid (r = false) := by rw [hr]; simp [Hid, h2]
          clear hr
          go_wp2
          go_ret
          rw [HA.out]
          exact ⟨rfl, rfl⟩
      · have HA : Hid (r = false) := by rw [hr]; simp [Hid, h1]
        clear hr
        go_wp2
        go_ret
        rw [HA.out]
        exact ⟨rfl, rfl⟩


/-! ### The same over lists of bytes -/
theorem PutM (n wd : Int) (hn : inI n) (w : World) :
    Calls Tryz.prog 20 #[.int .i64 n, .int .i64 wd] w fun e w' => e = .returned (.tuple #[.string (mk (putR n wd).1), .int .i64 (putR n wd).2]) ∧ Below w.heap.size w w' := Put_any n wd hn w
theorem GetM (l : List UInt8) (at' wd : Int) (hs : l.length ≤ maxLen) (w : World) :
    Calls Tryz.prog 31 #[.string (mk l), .int .i64 at', .int .i64 wd] w fun e w' => e = .returned (.tuple #[.int .i64 (getR l at' wd).1, .int .i64 (getR l at' wd).2.1, .int .i64 (getR l at' wd).2.2]) ∧ w = w' := by
  have h := Get_any (mk l) at' wd (by rw [mk_size]; exact hs) w
  rw [mk_data] at h
  exact h
theorem PutTextM (l : List UInt8) (hs : l.length ≤ maxLen) (w : World) :
    Calls Tryz.prog 121 #[.string (mk l)] w fun e w' => e = .returned (.tuple #[.string (mk (putTextR l).1), .int .i64 (putTextR l).2]) ∧ Below w.heap.size w w' := by
  have h := PutText_any (mk l) (by rw [mk_size]; exact hs) w
  rw [mk_data] at h
  exact h
theorem GetTextM (l : List UInt8) (at' : Int) (hs : l.length ≤ maxLen) (w : World) :
    Calls Tryz.prog 144 #[.string (mk l), .int .i64 at'] w fun e w' => e = .returned (.tuple #[.string (mk (getTextR l at').1), .int .i64 (getTextR l at').2.1, .int .i64 (getTextR l at').2.2]) ∧ Below w.heap.size w w' := by
  have h := GetText_any (mk l) at' (by rw [mk_size]; exact hs) w
  rw [mk_data] at h
  exact h
theorem ValidM (l : List UInt8) (hs : l.length ≤ maxLen) (w : World) :
    Calls Tryz.prog 84 #[.string (mk l)] w fun e w' => e = .returned (.bool (validL l)) ∧ w = w' := by
  have h := Valid_any (mk l) (by rw [mk_size]; unfold maxLen at hs; omega) w
  rw [mk_data] at h
  exact h
theorem RValidM (l : List UInt8) (hs : l.length ≤ maxLen) (w : World) :
    Calls Tryz.prog 87 #[.string (mk l)] w fun e w' => e = .returned (.bool (validL l)) ∧ w = w' := by
  have h := RValid_any (mk l) (by rw [mk_size]; unfold maxLen at hs; omega) w
  rw [mk_data] at h
  exact h
end Go.Proofs.YtlfdmbfbfadifaaGreatDoor.St

namespace Go.Proofs.YtlfdmbfbfadifaaGreatDoor.St
open Go.RowKit

/-- The cells of a description. -/
def cellsD (d : DD) : List Value := [.int .i64 d.ty, .int .i64 d.dv, .int .i64 d.qt, .int .i64 d.qv, .int .i64 d.qp, .int .i64 d.mo, .int .i64 d.ai, .int .i64 d.mi, .int .i64 d.ln, .string (mk d.nm), .string (mk d.ui), .string (mk d.gi), .string (mk d.mu)]
theorem cellsD_num (d : DD) {k : Nat} (hk : k < 9) : (cellsD d)[k]? = some (.int .i64 (num d k)) := by
  rcases k9 hk with rfl | rfl | rfl | rfl | rfl | rfl | rfl | rfl | rfl <;> rfl
theorem cellsD_txt (d : DD) {k : Nat} (hk : k < 4) : (cellsD d)[9 + k]? = some (.string (mk (txt d k))) := by
  rcases k4 hk with rfl | rfl | rfl | rfl <;> rfl
def cellsA (d : DD) : Array Value := (cellsD d).toArray
/-- The description as a value. -/
def dirV (d : DD) : Value := .agg (cellsA d)
theorem cellsA_size (d : DD) : (cellsA d).size = 13 := rfl
theorem cellsA_one (d : DD) : (cellsA d).all (·.oneCell') = true := by simp [cellsA, cellsD, Value.oneCell']
/-- The block b is that of the description d. -/
def BlkD (w : World) (b : Nat) (d : DD) : Prop := w.heap[b]? = some (.cells (cellsA d) 27 (0, 0))
theorem BlkD.lt {w : World} {b : Nat} {d : DD} (h : BlkD w b d) : b < w.heap.size := (Array.getElem?_eq_some_iff.1 h).1
theorem BlkD.cell {w : World} {b : Nat} {d : DD} (h : BlkD w b d) (i : Nat) : w.cell? ⟨b, i, none⟩ = (cellsD d)[i]? := by
  rw [Joins.cell_of_block h i]; simp [cellsA]
theorem BlkD.frozen {w : World} {b : Nat} {d : DD} (h : BlkD w b d) (i : Nat) : w.frozen? ⟨b, i, none⟩ = false := by
  unfold BlkD at h
  simp [World.frozen?, h]
theorem BlkD.numc {w : World} {b : Nat} {d : DD} (h : BlkD w b d) {k : Nat} (hk : k < 9) : w.cell? ⟨b, k, none⟩ = some (.int .i64 (num d k)) := (h.cell k).trans (cellsD_num d hk)
theorem BlkD.txtc {w : World} {b : Nat} {d : DD} (h : BlkD w b d) {k : Nat} (hk : k < 4) : w.cell? ⟨b, 9 + k, none⟩ = some (.string (mk (txt d k))) := (h.cell (9 + k)).trans (cellsD_txt d hk)
theorem BlkD.new (w : World) (d : DD) : BlkD (w.alloc (.cells (cellsA d) 27)) w.heap.size d := heap_alloc_new w _
theorem BlkD.alloc {w : World} {b : Nat} {d : DD} (h : BlkD w b d) (o : Obj) : BlkD (w.alloc o) b d := (Below.heap_alloc w o b h.lt).trans h
theorem BlkD.below {w w' : World} {b B : Nat} {d : DD} (h : BlkD w b d) (hB : Below B w w') (hb : b < B) : BlkD w' b d := (hB.block b hb).trans h
theorem BlkD.drew {w : World} {b : Nat} {d : DD} (h : BlkD w b d) : BlkD w.drew b d := h
theorem BlkD.drewN {w : World} {b : Nat} {d : DD} (h : BlkD w b d) (n : Nat) : BlkD (w.drewN n) b d := h

theorem cells13 {w : World} {b : Nat} {d : DD} (h : BlkD w b d) : w.cell? ⟨b, 0, none⟩ = some (.int .i64 d.ty) ∧ w.cell? ⟨b, 1, none⟩ = some (.int .i64 d.dv) ∧ w.cell? ⟨b, 2, none⟩ = some (.int .i64 d.qt) ∧ w.cell? ⟨b, 3, none⟩ = some (.int .i64 d.qv) ∧ w.cell? ⟨b, 4, none⟩ = some (.int .i64 d.qp) ∧ w.cell? ⟨b, 5, none⟩ = some (.int .i64 d.mo) ∧ w.cell? ⟨b, 6, none⟩ = some (.int .i64 d.ai) ∧ w.cell? ⟨b, 7, none⟩ = some (.int .i64 d.mi) ∧ w.cell? ⟨b, 8, none⟩ = some (.int .i64 d.ln) ∧ w.cell? ⟨b, 9, none⟩ = some (.string (mk d.nm)) ∧ w.cell? ⟨b, 10, none⟩ = some (.string (mk d.ui)) ∧ w.cell? ⟨b, 11, none⟩ = some (.string (mk d.gi)) ∧ w.cell? ⟨b, 12, none⟩ = some (.string (mk d.mu)) :=
  ⟨h.cell 0, h.cell 1, h.cell 2, h.cell 3, h.cell 4, h.cell 5, h.cell 6, h.cell 7, h.cell 8, h.cell 9, h.cell 10, h.cell 11, h.cell 12⟩

/-! ### Where the numbers and the texts lie -/
def ptr (b k : Nat) : Value := .pointer (some ⟨b, k, none⟩)
def ptrs (b k : Nat) : Nat → List Value
  | 0 => []
  | n + 1 => ptr b k :: ptrs b (k + 1) n
theorem nums_index (b : Nat) {k : Nat} (hk : k < 9) (w : World) : (Instr.index 136 (.agg (ptrs b 0 9).toArray) (.int .i64 (k : Int))).run Tryz.prog w = .ok (.pointer (some ⟨b, k, none⟩)) w := by
  rcases k9 hk with rfl | rfl | rfl | rfl | rfl | rfl | rfl | rfl | rfl
  all_goals (show _ = _; kernel_rfl)
theorem txts_index (b : Nat) {k : Nat} (hk : k < 4) (w : World) : (Instr.index 172 (.agg (ptrs b 9 4).toArray) (.int .i64 (k : Int))).run Tryz.prog w = .ok (.pointer (some ⟨b, 9 + k, none⟩)) w := by
  rcases k4 hk with rfl | rfl | rfl | rfl
  all_goals (show _ = _; kernel_rfl)

/-! ### The table of formats -/
def formatsL : List Value := [.int .i64 2, .int .i64 65534, .bool false, .int .i64 4, .int .i64 4294967294, .bool false, .int .i64 1, .int .i64 232, .bool true, .int .i64 4, .int .i64 2147483647, .bool false, .int .i64 8, .int .i64 1099511627776, .bool false,
  .int .i64 4, .int .i64 3892314623, .bool true, .int .i64 8, .int .i64 1099511627776, .bool false, .int .i64 8, .int .i64 1099511627776, .bool false, .int .i64 8, .int .i64 9007199254740991, .bool false]
/-- The table of formats lies in memory. -/
def G (W : World) : Prop := 1 < W.heap.size ∧ W.rangeAt 1 0 formatsL
theorem G.below {W w : World} (g : G W) (h : Below W.heap.size W w) : G w :=
  ⟨Nat.lt_of_lt_of_le g.1 h.size, fun j v hj => (h.cell (p := ⟨_, _, none⟩) g.1).trans (g.2 j v hj)⟩
theorem G.fmt {W : World} (g : G W) {k : Nat} (hk : k < 9) : W.cell? ⟨1, k * 3, none⟩ = some (.int .i64 (fW k : Int)) ∧ W.cell? ⟨1, k * 3 + 1, none⟩ = some (.int .i64 (fG k : Int)) ∧ W.cell? ⟨1, k * 3 + 2, none⟩ = some (.bool (fS k)) := by
  have h := g.2
  have h0 := fun j v hj => (congrArg (fun i => W.cell? ⟨1, i, none⟩) (Nat.zero_add j)).symm.trans (h j v hj)
  rcases k9 hk with rfl | rfl | rfl | rfl | rfl | rfl | rfl | rfl | rfl
  all_goals exact ⟨h0 _ _ rfl, h0 _ _ rfl, h0 _ _ rfl⟩

theorem below_drew {B : Nat} {a w : World} (h : Below B a w) : Below B a w.drew := ⟨h.os, h.tape, h.output, h.size, h.block⟩
theorem below_drewN {B : Nat} {a w : World} (h : Below B a w) (n : Nat) : Below B a (w.drewN n) := ⟨h.os, h.tape, h.output, h.size, h.block⟩
end Go.Proofs.YtlfdmbfbfadifaaGreatDoor.St
