/-
  Unhex, package octet's and the reference's.
-/
import Derived.Test.YtagllhphchmfhaaOi
import Derived.Deep.RegionWith
namespace Go.Proofs.Ytagllhphchmfhaa
open Go.RowKit

/-- What has been done when the loop comes to j: the first j bytes are decoded. -/
def URel (l : List UInt8) (j : Nat) (done : List UInt8) : Prop := unhexL l = (unhexL (l.drop (2 * j))).map (done ++ ·)
theorem URel_start (l : List UInt8) : URel l 0 [] := by unfold URel; simp
theorem drop2 {s : ByteArray} {j : Nat} (h : 2 * j + 1 < s.size) : s.data.toList.drop (2 * j) = s[2 * j] :: s[2 * j + 1] :: s.data.toList.drop (2 * (j + 1)) := by
  have hlen : s.data.toList.length = s.size := Array.length_toList
  rw [List.drop_eq_getElem_cons (by omega), List.drop_eq_getElem_cons (by omega), show 2 * (j + 1) = 2 * j + 1 + 1 by omega]
  rfl
theorem URel_bad {s : ByteArray} {j : Nat} {done : List UInt8} (h : URel s.data.toList j done) (hj : 2 * j + 1 < s.size) (hd : digV s[2 * j] < 0 ∨ digV s[2 * j + 1] < 0) : unhexR s.data.toList = ([], 2) := by
  unfold unhexR
  rw [h, drop2 hj, unhexL, if_pos hd]; rfl
theorem URel_step {s : ByteArray} {j : Nat} {done : List UInt8} (h : URel s.data.toList j done) (hj : 2 * j + 1 < s.size) (hd : ¬ (digV s[2 * j] < 0 ∨ digV s[2 * j + 1] < 0)) : URel s.data.toList (j + 1) (done ++ [UInt8.ofNat (16 * (digV s[2 * j]).toNat + (digV s[2 * j + 1]).toNat)]) := by
  unfold URel at h ⊢
  rw [h, drop2 hj, unhexL, if_neg hd]
  simp [Option.map_map, Function.comp_def]
theorem URel_end {s : ByteArray} {j : Nat} {done : List UInt8} (h : URel s.data.toList j done) (hj : s.size ≤ 2 * j) : unhexR s.data.toList = (done, 0) := by
  have hlen : s.data.toList.length = s.size := Array.length_toList
  unfold unhexR
  rw [h, List.drop_eq_nil_of_le (by omega)]; simp [unhexL]

theorem quiet_same {P : Program} {f : FuncId} {args : Array Value} {w : World} {n : Nat} {v : Value}
    (h : Calls P f args (w.drewN n) fun e w' => e = .returned v ∧ w.drewN n = w') : Calls P f args (w.drewN n) fun e w'' => e = .returned v ∧ ∃ m, w'' = w.drewN m :=
  h.mono fun _ _ ⟨he, hm⟩ => ⟨he, n, hm.symm⟩

set_option maxRecDepth 100000 in
set_option maxHeartbeats 800000 in
theorem RUnhex_any (s : ByteArray) (hs : s.size ≤ 100000000) (w : World) :
    Calls Try.prog 18 #[.string s] w fun e w' => e = .returned (.tuple #[.string ⟨(unhexR s.data.toList).1.toArray⟩, .int .i64 (unhexR s.data.toList).2]) ∧ Below w.heap.size w w' := by
  have hlen : s.data.toList.length = s.size := Array.length_toList
  by_cases hodd : s.size % 2 = 0
  · obtain ⟨m, hm⟩ : ∃ m, s.size = 2 * m := ⟨s.size / 2, by omega⟩
    have hq : ((s.size : Int) % 2 != 0) = false := by rw [bne_eq_false_iff_eq]; omega
    have HM := Lib.hid hm
    clear hlen hodd hm
    go_enter Try.func18, Try.ntmps18
    go_wp2
    go_loopw [4, 5] (fun vt vj wr => ∃ (j : Nat) (l : List UInt8) (i : Nat), vj = .int .i64 (i : Int) ∧ i = 2 * j ∧ vt = .string ⟨l.toArray⟩ ∧ i ≤ s.size ∧ l.length = j ∧ Hid (URel s.data.toList j l) ∧ Hid (Below w.heap.size w wr)) (fun _ vj _ => s.size - (intOf vj).toNat)
    case atStart => exact ⟨0, [], 0, rfl, rfl, rfl, by omega, rfl, URel_start _, Below.refl _ _⟩
    case round =>
      obtain ⟨j, l, i, rfl, hi, rfl, hij, hl, hrel, hb⟩ := hrel
      have HI0 := Lib.hid hi
      by_cases hjs : i < s.size
      · have hi1 : i + 1 < s.size := by have := HM.out; omega
        have d1 := fun W => digit_any s[i] W
        have d2 := fun W => digit_any s[i + 1] W
        have b1 := digV_lt s[i]
        have b2 := digV_lt s[i + 1]
        have HS : Hid (¬ (digV s[i] < 0 ∨ digV s[i + 1] < 0) → URel s.data.toList (j + 1) (l ++ [UInt8.ofNat (16 * (digV s[i]).toNat + (digV s[i + 1]).toNat)])) := by subst hi; exact fun h => URel_step hrel.out hi1 h
        have HB : Hid (digV s[i] < 0 ∨ digV s[i + 1] < 0 → unhexR s.data.toList = ([], 2)) := by subst hi; exact fun h => URel_bad hrel.out hi1 h
        have HI := Lib.hid hi
        generalize hc1 : s[i] = c1 at d1 b1 HS HB
        generalize hc2 : s[i + 1] = c2 at d2 b2 HS HB
        generalize digV c1 = x at d1 b1 HS HB
        generalize digV c2 = y at d2 b2 HS HB
        have D1 := Lib.hid d1
        have D2 := Lib.hid d2
        have hbs := hb.out.size
        have e1 : IntKind.i64.wrap ((i : Int) + 1) = (i : Int) + 1 := IntWalk.i64_in _ (by omega)
        have e2 : ((i : Int) + 1).toNat = i + 1 := by omega
        have e3 : (0 : Int) ≤ (i : Int) + 1 := by omega
        have e4 : (i : Int) + 1 < (s.size : Int) := by omega
        have e5 : (i : Int) < (s.size : Int) := by omega
        have hjb : l.length ≤ 100000000 := by omega
        clear d1 d2 hi
        go_wp2
        go_quiet ((go_at_call 25; first | with_reducible exact quiet_same (D1.out _) | with_reducible exact quiet_same (D2.out _)))
        clear e1 e2 e3 e4 e5
        by_cases hx : x < 0
        · have HR := Lib.hid (HB.out (.inl hx))
          go_wp2
          go_ret2
          rw [HR.out]
          exact ⟨rfl, hb.out.trans ((below_dn _ _).mono hbs)⟩
        by_cases hy : y < 0
        · have HR := Lib.hid (HB.out (.inr hy))
          go_wp2
          go_ret2
          rw [HR.out]
          exact ⟨rfl, hb.out.trans ((below_dn _ _).mono hbs)⟩
        have HT := Lib.hid (HS.out (by omega))
        have hx' : decide (x < 0) = false := by simpa using hx
        have hy' : decide (y < 0) = false := by simpa using hy
        have hx0 : 0 ≤ x := by omega
        have hy0 : 0 ≤ y := by omega
        have h1 := string_one (wr.drewN nq) (UInt8.ofNat (16 * x.toNat + y.toNat)) (16 * x + y) (by rw [UInt8.toNat_ofNat']; omega)
        generalize UInt8.ofNat (16 * x.toNat + y.toNat) = z at h1 HT
        clear hx hy HS HB
        rw [show (wr.drewN nq).heap.size = wr.heap.size from rfl] at h1
        have h2 : (16 * x + y) % 256 = 16 * x + y := by omega
        go_wp2
        rw [app_byte]
        have hI := HI.out
        exact ⟨⟨j + 1, l ++ [z], i + 2, by go_num, by omega, rfl, by omega, by simp; omega, HT, (hb.out.trans ((below_dn _ _).mono hbs)).alloc hbs _⟩, by simp [intOf]; omega⟩
      · have hi2 := HI0.out
        have hR := URel_end hrel.out (show s.size ≤ 2 * j by omega)
        have HR := Lib.hid hR
        clear hR hi2
        go_wp2
        go_ret2
        rw [HR.out]
        exact ⟨rfl, hb.out⟩
  · have hq : ((s.size : Int) % 2 != 0) = true := by rw [bne_iff_ne]; omega
    have hR : unhexR s.data.toList = ([], 2) := by rw [unhexR, unhexL_odd _ (by omega)]
    have HR := Lib.hid hR
    clear hR hodd hlen
    go_enter Try.func18, Try.ntmps18
    go_wp2
    go_ret2
    rw [HR.out]
    exact ⟨rfl, Below.refl _ _⟩
end Go.Proofs.Ytagllhphchmfhaa
