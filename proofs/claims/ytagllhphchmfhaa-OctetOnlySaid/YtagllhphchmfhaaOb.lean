/-
  The walks over package octet's and the reference's small functions: isWidth, valid; bytes in memory; octet.Put.
-/
import Derived.Test.YtagllhphchmfhaaRows
import Derived.Test.YtagllhphchmfhaaOa
import Derived.WalkSpells
import Derived.WalkLawsBesides
import Derived.Laws.BytesArg
namespace Go.Proofs.Ytagllhphchmfhaa
open Go.RowKit

/-- The widths. -/
def wdB (w : Int) : Bool := decide (1 ≤ w) && decide (w ≤ 8)
theorem wdB_iff (w : Int) : wdB w = true ↔ 1 ≤ w ∧ w ≤ 8 := by simp [wdB]

set_option maxHeartbeats 400000 in
theorem isWidth_any (n : Int) (w : World) :
    Calls Try.prog 21 #[.int .i64 n] w fun e w' => e = .returned (.bool (wdB n)) ∧ w = w' := by
  go_enter Try.func21, Try.ntmps21
  go_wp2
  all_goals go_ret
  all_goals (refine ⟨retb ?_, rfl⟩; simp_all [wdB]; try omega)
set_option maxHeartbeats 400000 in
theorem valid_any (n : Int) (w : World) :
    Calls Try.prog 22 #[.int .i64 n] w fun e w' => e = .returned (.bool (wdB n)) ∧ w = w' := by
  go_enter Try.func22, Try.ntmps22
  go_wp2
  all_goals go_ret
  all_goals (refine ⟨retb ?_, rfl⟩; simp_all [wdB]; try omega)

theorem retSE {a b : List UInt8} {x y : Int} (h : (a, x) = (b, y)) : Ending.returned (.tuple #[.string ⟨a.toArray⟩, .int .i64 x]) = .returned (.tuple #[.string ⟨b.toArray⟩, .int .i64 y]) := by cases h; rfl

/-- A byte as a value; bytes as values. -/
def byteV (c : UInt8) : Value := .int .u8 (c.toNat : Int)
def bv (l : List UInt8) : List Value := l.map byteV
theorem u8_wrap (n : Int) (h : 0 ≤ n) : (IntKind.u8.wrap n) = ((UInt8.ofNat (n.toNat % 256)).toNat : Int) := by
  rw [IntKind.wrap_u8]; simp; omega
theorem info_u8 : (Try.prog.info? 5).map (fun i => (i.zero, i.size, i.bytes)) = some (some (.int .u8 0), 1, 1) := by kernel_rfl
/-- 'string(b)' of bytes that the call owns. -/
theorem string_own {w : World} {base n : Nat} {v : Value} {l : List UInt8} (hn : l.length = n) (h : w.ownsRow base 5 1 v n (bv l)) :
    (convert 39 9 v).run Try.prog w = .ok (.string ⟨l.toArray⟩) w := by
  have hx := h.1
  subst hn
  rcases h.2 with ⟨rfl, h0⟩ | ⟨g, cap, cur, rfl, rest⟩
  · have : l = [] := by simpa [bv] using h0
    subst this
    exact run_convert_bytes_nil w _ _ Try.underlying39 Try.underlying5 _ _ _ Try.underlying9
  · refine run_convert_bytes_back w _ _ _ _ cap l Try.underlying39 Try.underlying5 Try.underlying9 fun j hj => ?_
    exact World.ownsRow.cells (v := .slice (some ⟨g, 0, none⟩) l.length cap) ⟨hx, .inr ⟨g, cap, cur, rfl, rest⟩⟩ rfl j _ (by simp [bv, byteV, hj])

theorem putR_bad {n w : Int} (h : wdB w = false) : putR n w = ([], 1) := by
  rw [putR, if_pos]; simp [wdB] at h; omega
theorem putR_no {n w : Int} (h : 1 ≤ w ∧ w ≤ 8) (h2 : n < 0 ∨ (256 ^ w.toNat : Nat) ≤ n.toNat) : putR n w = ([], 5) := by
  rw [putR, if_neg (by omega), if_pos h2]
theorem putR_ok {n w : Int} (h : 1 ≤ w ∧ w ≤ 8) (h2 : 0 ≤ n) (h3 : n.toNat < 256 ^ w.toNat) : putR n w = (le w.toNat n.toNat, 0) := by
  rw [putR, if_neg (by omega), if_neg (by omega)]
theorem shr_eq (n k : Nat) : (n : Int) / 2 ^ (8 * k) = ((n / 256 ^ k : Nat) : Int) := by
  rw [Int.natCast_ediv, show (256 : Nat) = 2 ^ 8 from rfl, ← Nat.pow_mul]; simp
theorem le_fill (j k n : Nat) (h : j < k) : (bv (le j n ++ List.replicate (k - j) 0)).set j (byteV (UInt8.ofNat (n / 256 ^ j % 256))) = bv (le (j + 1) n ++ List.replicate (k - (j + 1)) 0) := by
  obtain ⟨d, rfl⟩ : ∃ d, k = j + 1 + d := ⟨k - (j + 1), by omega⟩
  rw [show j + 1 + d - j = d + 1 by omega, show j + 1 + d - (j + 1) = d by omega, le_snoc, List.replicate_succ]
  have hl : (bv (le j n)).length = j := by simp [bv, le_len]
  simp only [bv, List.map_append, List.map_cons, List.append_assoc] at hl ⊢
  rw [List.set_append_right _ _ (by omega), hl]
  simp

theorem byteV_of (m j : Nat) : byteV (UInt8.ofNat (m / 256 ^ j % 256)) = .int .u8 ((m : Int) / 256 ^ j % 256) := by
  unfold byteV
  congr 1
  rw [UInt8.toNat_ofNat']
  simp

set_option maxRecDepth 100000 in
set_option maxHeartbeats 800000 in
theorem Put_any (n wd : Int) (hn : inI n) (w : World) :
    Calls Try.prog 9 #[.int .i64 n, .int .i64 wd] w fun e w' => e = .returned (.tuple #[.string ⟨(putR n wd).1.toArray⟩, .int .i64 (putR n wd).2]) ∧ Below w.heap.size w w' := by
  obtain ⟨hn1, hn2⟩ := hn
  by_cases hwd : wdB wd = true
  · have hwr := (wdB_iff wd).1 hwd
    obtain ⟨hw1, hw2⟩ := hwr
    have HW := Lib.hid hwd
    clear hwd
    by_cases h0 : n < 0
    · rw [putR_no ⟨hw1, hw2⟩ (.inl h0)]
      go_enter Try.func9, Try.ntmps9
      go_wp2_with (go_at_call 21; refine (isWidth_any _ _).mono ?_; rw [HW.out]; rintro e w' ⟨rfl, rfl⟩)
      go_ret2
      exact ⟨rfl, Below.refl _ _⟩
    · obtain ⟨k, rfl⟩ : ∃ k : Nat, wd = k := ⟨wd.toNat, by omega⟩
      obtain ⟨m, rfl⟩ : ∃ m : Nat, n = m := ⟨n.toNat, by omega⟩
      have hsh := shr_eq m k
      by_cases hf : m < 256 ^ k
      · have hq : (((m / 256 ^ k : Nat) : Int) != 0) = false := by rw [Nat.div_eq_of_lt hf]; rfl
        rw [← hsh] at hq
        have hR := putR_ok ⟨hw1, hw2⟩ (show (0 : Int) ≤ (m : Int) by omega) (by simpa using hf)
        have HR := Lib.hid hR
        clear hR hsh hf
        obtain ⟨i0, hi, hz0, hz1, hz2⟩ := info_parts info_u8
        go_enter Try.func9, Try.ntmps9
        go_wp2_with (first | (go_at_call 21; refine (isWidth_any _ _).mono ?_; rw [HW.out]; rintro e w' ⟨rfl, rfl⟩) | (at_make; refine wpList_make_full _ rfl _ _ 39 rfl w.heap.size 5 i0 (.int .u8 0) 1 Try.underlying39 hi hz0 hz1 _ _ _ _ k rfl rfl rfl rfl (by rw [hz2]; omega) (by unfold maxLen; omega) (Nat.le_refl _) ?_))
        intro w0 hown hgrow
        have hB := (Below.refl w.heap.size w).grown hgrow (Nat.le_refl _) (fun _ h => by cases h)
        have HO := Lib.hid hown
        have HB := Lib.hid hB
        clear hown hgrow hB hq
        go_wp2
        go_loopw [24] (fun vj wr => ∃ j : Nat, vj = .int .i64 (j : Int) ∧ j ≤ k ∧ Hid (wr.ownsRow w.heap.size 5 1 (.slice (some ⟨w.heap.size, 0, none⟩) k k) k (bv (le j m ++ List.replicate (k - j) 0))) ∧ Hid (Below w.heap.size w wr)) (fun vj _ => k - (intOf vj).toNat)
        case atStart =>
          refine ⟨0, rfl, by omega, ?_, HB⟩
          have h := HO.out
          rw [toList_madeCells_one] at h
          have e : (bv (le 0 m ++ List.replicate (k - 0) 0)) = List.replicate k (.int .u8 0) := by simp [le, bv, byteV]
          rw [e]
          exact h
        case round =>
          obtain ⟨j, rfl, hj, ho, hb⟩ := hrel
          by_cases hjk : j < k
          · have hc := ho.out.cellAt j (by omega)
            have hfz := ho.out.frozenAt j
            have hlt : j < (bv (le j m ++ List.replicate (k - j) 0)).length := by simp [bv, le_len]; omega
            rw [List.getElem?_eq_getElem hlt] at hc
            generalize (bv (le j m ++ List.replicate (k - j) 0))[j] = x at hc
            clear hlt
            have he := shr_eq m j
            go_wp2
            refine ⟨⟨j + 1, by go_num, by omega, ?_, ?_⟩, by simp [intOf]; omega⟩
            · have h := (ho.out.stored j (byteV (UInt8.ofNat (m / 256 ^ j % 256)))).1
              rw [le_fill j k m hjk, byteV_of] at h
              exact h
            · exact hb.out.setCell (Nat.le_refl _) _
          · obtain rfl : j = k := by omega
            have hst := string_own (l := le j m) (by rw [le_len]) (by have h := ho.out; rwa [Nat.sub_self, List.replicate_zero, List.append_nil] at h)
            go_wp2
            go_ret2
            rw [HR.out]
            exact ⟨by simp, hb.out⟩
      · have hq : (((m / 256 ^ k : Nat) : Int) != 0) = true := by
          have : 0 < m / 256 ^ k := Nat.div_pos (by omega) (Nat.pow_pos (by omega))
          rw [bne_iff_ne]; omega
        rw [← hsh] at hq
        have hR := putR_no ⟨hw1, hw2⟩ (.inr (by simp; omega : 256 ^ ((k : Int)).toNat ≤ ((m : Int)).toNat))
        have HR := Lib.hid hR
        clear hR hsh hf
        go_enter Try.func9, Try.ntmps9
        go_wp2_with (go_at_call 21; refine (isWidth_any _ _).mono ?_; rw [HW.out]; rintro e w' ⟨rfl, rfl⟩)
        go_ret2
        rw [HR.out]
        exact ⟨by simp, Below.refl _ _⟩
  · have hb : wdB wd = false := by simpa using hwd
    rw [putR_bad hb]
    have HB := Lib.hid hb
    clear hb hwd
    go_enter Try.func9, Try.ntmps9
    go_wp2_with (go_at_call 21; refine (isWidth_any _ _).mono ?_; rw [HB.out]; rintro e w' ⟨rfl, rfl⟩)
    go_ret2
    exact ⟨rfl, Below.refl _ _⟩
end Go.Proofs.Ytagllhphchmfhaa
