/-
  octet.Unhex.
-/
import Derived.Test.YtagllhphchmfhaaOj
namespace Go.Proofs.Ytagllhphchmfhaa
open Go.RowKit

/-- strings.IndexByte over the digits. -/
theorem indexB_any (c : UInt8) (w : World) : Calls Try.prog 24 #[.string ⟨#[48, 49, 50, 51, 52, 53, 54, 55, 56, 57, 97, 98, 99, 100, 101, 102]⟩, .int .u8 (c.toNat : Int)] w fun e w' => e = .returned (.int .i64 (digV c)) ∧ w = w' :=
  (Try.strings_IndexByte digS (c.toNat : Int) w).mono fun e w' ⟨h1, h2⟩ => ⟨by rw [h1, show (c.toNat : Int).toNat.toUInt8 = c by simp, index_dig], h2.symm⟩
theorem ownsRow_drewN {w : World} {base : Nat} {e : TypeId} {size : Nat} {v : Value} {n : Nat} {xs : List Value} (h : w.ownsRow base e size v n xs) (k : Nat) : (w.drewN k).ownsRow base e size v n xs := h
theorem or16 {x y : Int} (hx : 0 ≤ x ∧ x ≤ 15) (hy : 0 ≤ y ∧ y ≤ 15) : bits .or .i64 (x * 16) y = 16 * x + y := by
  obtain ⟨a, rfl⟩ : ∃ a : Fin 16, x = (a.val : Int) := ⟨⟨x.toNat, by omega⟩, by simp only; omega⟩
  obtain ⟨b, rfl⟩ : ∃ b : Fin 16, y = (b.val : Int) := ⟨⟨y.toNat, by omega⟩, by simp only; omega⟩
  have h : ∀ a b : Fin 16, bits .or .i64 ((a.val : Int) * 16) (b.val : Int) = 16 * (a.val : Int) + (b.val : Int) := by decide
  exact h a b

set_option maxRecDepth 100000 in
set_option maxHeartbeats 800000 in
theorem Unhex_any (s : ByteArray) (hs : s.size ≤ 100000000) (w : World) :
    Calls Try.prog 17 #[.string s] w fun e w' => e = .returned (.tuple #[.string ⟨(unhexR s.data.toList).1.toArray⟩, .int .i64 (unhexR s.data.toList).2]) ∧ Below w.heap.size w w' := by
  have hlen : s.data.toList.length = s.size := Array.length_toList
  obtain ⟨i0, hi0, hz0, hz1, hz2⟩ := info_parts info_u8
  by_cases hodd : s.size % 2 = 0
  · obtain ⟨m, hm⟩ : ∃ m, s.size = 2 * m := ⟨s.size / 2, by omega⟩
    have hq : ((s.size : Int) % 2 != 0) = false := by rw [bne_eq_false_iff_eq]; omega
    have HM := Lib.hid hm
    clear hlen hodd hm
    go_enter Try.func17, Try.ntmps17
    go_wp2_with (at_make; refine wpList_make_own _ rfl _ _ 39 rfl w.heap.size 5 i0 (.int .u8 0) 1 Try.underlying39 hi0 hz0 hz1 _ _ _ (s.size / 2) rfl rfl (by omega) (by rw [hz2]; omega) (by unfold maxLen; omega) (Nat.le_refl _) ?_)
    intro w0 hown hgrow
    have HO0 := Lib.hid hown
    have HB0 := Lib.hid ((Below.refl w.heap.size w).grown hgrow (Nat.le_refl _) (fun _ h => by cases h))
    clear hown hgrow
    go_wp2
    go_loopw [4, 5] (fun vt vj wr => ∃ (j : Nat) (l : List UInt8) (i : Nat), vj = .int .i64 (i : Int) ∧ i = 2 * j ∧ Hid (wr.ownsRow w.heap.size 5 1 vt j (bv l)) ∧ i ≤ s.size ∧ l.length = j ∧ Hid (URel s.data.toList j l) ∧ Hid (Below w.heap.size w wr)) (fun _ vj _ => s.size - (intOf vj).toNat)
    case atStart => exact ⟨0, [], 0, rfl, rfl, HO0, by omega, rfl, URel_start _, HB0⟩
    case round =>
      obtain ⟨j, l, i, rfl, hi, ho, hij, hl, hrel, hb⟩ := hrel
      have HI0 := Lib.hid hi
      by_cases hjs : i < s.size
      · have hi1 : i + 1 < s.size := by have := HM.out; omega
        have d1 := fun W => indexB_any s[i] W
        have d2 := fun W => indexB_any s[i + 1] W
        have b1 := digV_lt s[i]
        have b2 := digV_lt s[i + 1]
        have HS : Hid (¬ (digV s[i] < 0 ∨ digV s[i + 1] < 0) → URel s.data.toList (j + 1) (l ++ [UInt8.ofNat (16 * (digV s[i]).toNat + (digV s[i + 1]).toNat)])) := by subst hi; exact fun h => URel_step hrel.out hi1 h
        have HB : Hid (digV s[i] < 0 ∨ digV s[i + 1] < 0 → unhexR s.data.toList = ([], 2)) := by subst hi; exact fun h => URel_bad hrel.out hi1 h
        have HI := Lib.hid hi
        generalize hc1 : s[i] = c1 at d1 b1 HS HB
        generalize hc2 : s[i + 1] = c2 at d2 b2 HS HB
        generalize digV c1 = x at d1 b1 HS HB
        generalize digV c2 = y at d2 b2 HS HB
        have D1 := Lib.hid d1
        have D2 := Lib.hid d2
        have hbs := hb.out.size
        have e1 : IntKind.i64.wrap ((i : Int) + 1) = (i : Int) + 1 := IntWalk.i64_in _ (by omega)
        have e2 : ((i : Int) + 1).toNat = i + 1 := by omega
        have e3 : (0 : Int) ≤ (i : Int) + 1 := by omega
        have e4 : (i : Int) + 1 < (s.size : Int) := by omega
        have e5 : (i : Int) < (s.size : Int) := by omega
        have hjb : l.length ≤ 100000000 := by omega
        clear d1 d2 hi
        go_wp2
        go_quiet ((go_at_call 24; first | with_reducible exact quiet_same (D1.out _) | with_reducible exact quiet_same (D2.out _)))
        clear e1 e2 e3 e4 e5
        by_cases hx : x < 0
        · have HR := Lib.hid (HB.out (.inl hx))
          go_wp2
          go_ret2
          rw [HR.out]
          exact ⟨rfl, hb.out.trans ((below_dn _ _).mono hbs)⟩
        by_cases hy : y < 0
        · have HR := Lib.hid (HB.out (.inr hy))
          go_wp2
          go_ret2
          rw [HR.out]
          exact ⟨rfl, hb.out.trans ((below_dn _ _).mono hbs)⟩
        have HT := Lib.hid (HS.out (by omega))
        have hx' : decide (x < 0) = false := by simpa using hx
        have hy' : decide (y < 0) = false := by simpa using hy
        have hx0 : 0 ≤ x := by omega
        have hy0 : 0 ≤ y := by omega
        have h1 : UInt8.ofNat (16 * x.toNat + y.toNat) = UInt8.ofNat (16 * x.toNat + y.toNat) := rfl
        generalize hzz : UInt8.ofNat (16 * x.toNat + y.toNat) = z at h1 HT
        have h2 : (16 * x + y) % 256 = 16 * x + y := by omega
        go_wp2_with (at_builtin; refine wpList_append_own _ rfl _ _ 39 rfl w.heap.size 5 i0 (.int .u8 0) 1 1 Try.underlying39 hi0 hz0 hz1 hz2 rfl (by decide) _ _ _ rfl ((ownsRow_drewN ho.out nq).alloc _) ⟨wr.heap.size, 0, none⟩ 1 1 _ rfl rfl (cells_new1 _ _ _) (by simp [Value.oneCell']) (by unfold maxLen; omega) (by omega) (by simp; omega) ?_)
        intro v' w1 hown1 hgrow1 _
        have e : bv l ++ [Value.int .u8 (bits .or .i64 (x * 16) y % 256)] = bv (l ++ [z]) := by
          rw [or16 ⟨hx0, b1.2⟩ ⟨hy0, b2.2⟩, h2]
          have hz : (z.toNat : Int) = 16 * x + y := by rw [← hzz, UInt8.toNat_ofNat']; omega
          simp [bv, byteV, hz]
        rw [e] at hown1
        have HO1 := Lib.hid hown1
        have HB1 := Lib.hid (((hb.out.trans ((below_dn _ _).mono hbs)).alloc hbs _).grown hgrow1 (by simp; omega) (fun k' hk' => (ho.out.lt k' hk').1))
        clear hown1 hgrow1 e h1
        go_wp2
        have hI := HI.out
        exact ⟨⟨j + 1, l ++ [z], i + 2, by go_num, by omega, HO1, by omega, by simp; omega, HT, HB1⟩, by simp [intOf]; omega⟩
      · have hi2 := HI0.out
        have hR := URel_end hrel.out (show s.size ≤ 2 * j by omega)
        have HR := Lib.hid hR
        have hst := string_own hl ho.out
        clear hR hi2
        go_wp2
        go_ret2
        rw [HR.out]
        exact ⟨rfl, hb.out⟩
  · have hq : ((s.size : Int) % 2 != 0) = true := by rw [bne_iff_ne]; omega
    have hR : unhexR s.data.toList = ([], 2) := by rw [unhexR, unhexL_odd _ (by omega)]
    have HR := Lib.hid hR
    clear hR hodd hlen
    go_enter Try.func17, Try.ntmps17
    go_wp2
    go_ret2
    rw [HR.out]
    exact ⟨rfl, Below.refl _ _⟩
end Go.Proofs.Ytagllhphchmfhaa
