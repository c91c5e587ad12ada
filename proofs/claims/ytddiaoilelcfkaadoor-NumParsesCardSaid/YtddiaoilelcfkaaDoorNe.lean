/-
  num.Text and the reference's Text: both are the canonical form, whatever the number and the base.
-/
import Derived.Test.YtddiaoilelcfkaaDoorNc
import Derived.Test.YtddiaoilelcfkaaDoorNd
import Derived.Test.YtddiaoilelcfkaaDoorShelf
import Derived.WalkSmall
namespace Go.Proofs.YtddiaoilelcfkaaDoor
open Go.RowKit

theorem below_grow (w : World) (k : Nat) (os : Array Obj) : Below w.heap.size w (Sort.grow (w.drewN k) os) := by
  refine ⟨rfl, rfl, rfl, ?_, fun i hi => ?_⟩
  · show w.heap.size ≤ (w.heap ++ os).size; simp
  · show (w.heap ++ os)[i]? = _
    rw [Array.getElem?_append_left hi]

/-- What the walks ask of the package-level variables of the library: tables hold what their text lays, and the two errors are values of interface type. -/
structure G (w : World) : Prop where
  p10 : Lib.TabIs Tryd.prog w "internal/strconv.uint64pow10" .u64 Lib.pow10Tab
  c7 : w.cell? ⟨5, 7, none⟩ = some (.int .u8 3)
  c15 : w.cell? ⟨5, 15, none⟩ = some (.int .u8 4)
  es : ∃ t p, w.cell? ⟨1, 0, none⟩ = some (.iface t p)
  er : ∃ t p, w.cell? ⟨2, 0, none⟩ = some (.iface t p)
  size : 6 ≤ w.heap.size

theorem gpow : Tryd.prog.globalNamed "internal/strconv.uint64pow10" = some 0 := by kernel_rfl
theorem G.below {w w' : World} (g : G w) (h : Below w.heap.size w w') : G w' := by
  have hs := g.size
  refine ⟨var?_below h gpow (by omega) g.p10, ?_, ?_, ?_, ?_, Nat.le_trans hs h.size⟩
  · rw [h.cell (p := ⟨5, 7, none⟩) (by show 5 < _; omega)]; exact g.c7
  · rw [h.cell (p := ⟨5, 15, none⟩) (by show 5 < _; omega)]; exact g.c15
  · obtain ⟨t, p, e⟩ := g.es
    exact ⟨t, p, by rw [h.cell (p := ⟨1, 0, none⟩) (by show 1 < _; omega)]; exact e⟩
  · obtain ⟨t, p, e⟩ := g.er
    exact ⟨t, p, by rw [h.cell (p := ⟨2, 0, none⟩) (by show 2 < _; omega)]; exact e⟩

theorem decDigits_digs : ∀ u : Nat, Lib.decDigits u = digs 10 u := by
  intro u
  induction u using Nat.strongRecOn with
  | _ u ih =>
    by_cases h : u < 10
    · rw [Lib.decDigits, dif_pos h, digs_lt h, dch, if_pos h]
    · rw [Lib.decDigits, dif_neg h, digs_ge (by omega) h, ih (u / 10) (by omega), dch, if_pos (by omega)]
theorem itoa_text (n : Int) : Lib.itoa n = textL n 10 := by
  unfold Lib.itoa textL
  rw [decDigits_digs, decDigits_digs]
  split
  · rfl
  · rw [show n.toNat = n.natAbs by omega]

def inI (n : Int) : Prop := -9223372036854775808 ≤ n ∧ n ≤ 9223372036854775807

set_option maxHeartbeats 400000 in
/-- internal/strconv.FormatInt at the bases 8 and 16. -/
theorem fmtIn_pow (b : Nat) (bv : Int) (hb : (b = 8 ∧ bv = 8) ∨ (b = 16 ∧ bv = 16)) (n : Int) (hn : inI n) (w : World) (g : G w) :
    Calls Tryd.prog 31 #[.int .i64 n, .int .i64 bv] w fun e w' => e = .returned (.string ⟨(textL n b).toArray⟩) ∧ Below w.heap.size w w' := by
  obtain ⟨hn1, hn2⟩ := hn
  have hs := g.size
  have h7 := g.c7
  have h15 := g.c15
  clear g
  by_cases hneg : n < 0
  · have ht : textL n b = 45 :: digs b n.natAbs := by rw [textL, if_pos hneg]
    have hw1 : IntKind.u64.wrap (-IntKind.u64.wrap n) = (n.natAbs : Int) := by rw [IntKind.wrap_u64, IntKind.wrap_u64]; omega
    rw [ht]
    have hd : decide (n < 0) = true := by simpa using hneg
    rcases hb with ⟨rfl, rfl⟩ | ⟨rfl, rfl⟩
    · have F := Lib.hid (formatBits_8_true n.natAbs w (by omega) _ hw1 h7 (by omega))
      clear hw1 h7 h15 ht
      go_enter Tryd.func31, Tryd.ntmps31
      go_wp2_with (go_at_call 43; refine F.out.mono ?_; rintro e w' ⟨rfl, hB⟩)
      go_ret
      exact ⟨rfl, hB⟩
    · have F := Lib.hid (formatBits_16_true n.natAbs w (by omega) _ hw1 h15 (by omega))
      clear hw1 h7 h15 ht
      go_enter Tryd.func31, Tryd.ntmps31
      go_wp2_with (go_at_call 43; refine F.out.mono ?_; rintro e w' ⟨rfl, hB⟩)
      go_ret
      exact ⟨rfl, hB⟩
  · have ht : textL n b = digs b n.natAbs := by rw [textL, if_neg hneg]
    rw [ht]
    clear ht
    obtain ⟨u, rfl⟩ : ∃ u : Nat, n = u := ⟨n.toNat, by omega⟩
    rw [show (u : Int).natAbs = u by omega]
    rcases hb with ⟨rfl, rfl⟩ | ⟨rfl, rfl⟩
    · have F := Lib.hid (formatBits_8_false u w (by omega) h7 (by omega))
      clear h7 h15
      go_enter Tryd.func31, Tryd.ntmps31
      go_wp2_with (go_at_call 43; refine F.out.mono ?_; rintro e w' ⟨rfl, hB⟩)
      go_ret
      exact ⟨rfl, hB⟩
    · have F := Lib.hid (formatBits_16_false u w (by omega) h15 (by omega))
      clear h7 h15
      go_enter Tryd.func31, Tryd.ntmps31
      go_wp2_with (go_at_call 43; refine F.out.mono ?_; rintro e w' ⟨rfl, hB⟩)
      go_ret
      exact ⟨rfl, hB⟩
set_option maxHeartbeats 400000 in
theorem fmt_pow (b : Nat) (bv : Int) (hb : (b = 8 ∧ bv = 8) ∨ (b = 16 ∧ bv = 16)) (n : Int) (hn : inI n) (w : World) (g : G w) :
    Calls Tryd.prog 22 #[.int .i64 n, .int .i64 bv] w fun e w' => e = .returned (.string ⟨(textL n b).toArray⟩) ∧ Below w.heap.size w w' := by
  have F := Lib.hid (fmtIn_pow b bv hb n hn w g)
  clear hb
  go_enter Tryd.func22, Tryd.ntmps22
  go_wp2_with (go_at_call 31; refine F.out.mono ?_; rintro e w' ⟨rfl, hB⟩)
  go_ret
  exact ⟨rfl, hB⟩
/-- strconv.FormatInt at the three bases. -/
theorem fmt_any (b : Nat) (hb : b = 8 ∨ b = 10 ∨ b = 16) (n : Int) (hn : inI n) (w : World) (g : G w) :
    Calls Tryd.prog 22 #[.int .i64 n, .int .i64 (b : Int)] w fun e w' => e = .returned (.string ⟨(textL n b).toArray⟩) ∧ Below w.heap.size w w' := by
  rcases hb with rfl | rfl | rfl
  · exact fmt_pow 8 8 (.inl ⟨rfl, rfl⟩) n hn w g
  · refine (Tryd.strconv_FormatInt_10 n hn.1 hn.2 w g.p10).mono ?_
    rintro e w' ⟨rfl, k, os, rfl⟩
    exact ⟨by rw [itoa_text], below_grow w k os⟩
  · exact fmt_pow 16 16 (.inr ⟨rfl, rfl⟩) n hn w g

/-- What Text returns: the canonical form, or nothing. -/
def textR (n b : Int) : List UInt8 := if isB b then textL n b.toNat else []

set_option maxHeartbeats 400000 in
theorem Text_any (n b : Int) (hn : inI n) (w : World) (g : G w) :
    Calls Tryd.prog 9 #[.int .i64 n, .int .i64 b] w fun e w' => e = .returned (.string ⟨(textR n b).toArray⟩) ∧ Below w.heap.size w w' := by
  by_cases hb : isB b = true
  · have ht : textR n b = textL n b.toNat := by rw [textR, if_pos hb]
    rw [ht]
    have hb' : b = 8 ∨ b = 10 ∨ b = 16 := by simp [isB] at hb; omega
    have F := Lib.hid (fmt_any b.toNat (by omega) n hn w g)
    rw [show (b.toNat : Int) = b by omega] at F
    have HB := Lib.hid hb
    clear hb hb' ht
    go_enter Tryd.func9, Tryd.ntmps9
    go_wp2_with (go_at_call 21; refine (isBase_any _ _).mono ?_; rw [HB.out]; rintro e w' ⟨rfl, rfl⟩)
    refine F.out.mono ?_
    rintro e w' ⟨rfl, hB⟩
    go_wp2
    go_ret
    exact ⟨rfl, hB⟩
  · have hb : isB b = false := by simpa using hb
    have ht : textR n b = [] := by rw [textR, if_neg (by simp [hb])]
    rw [ht]
    have HB := Lib.hid hb
    clear hb ht
    go_enter Tryd.func9, Tryd.ntmps9
    go_wp2_with (go_at_call 21; refine (isBase_any _ _).mono ?_; rw [HB.out]; rintro e w' ⟨rfl, rfl⟩)
    go_ret
    exact ⟨rfl, Below.refl _ _⟩
end Go.Proofs.YtddiaoilelcfkaaDoor
