/-
  num.Parse: the number whose canonical form the text is, or the error.
-/
import Derived.Test.YtddiaoilelcfkaaDoorNi
import Derived.Test.YtddiaoilelcfkaaDoorNf
import Derived.Lib.Strings
namespace Go.Proofs.YtddiaoilelcfkaaDoor
open Go.RowKit

/-- As PI, the error being any value of interface type. -/
def SI (b : Nat) (l : List UInt8) (w : World) (e : Ending) (w' : World) : Prop :=
  Below w.heap.size w w' ∧ ∃ (a : Int) (er : Value), e = .returned (.tuple #[.int .i64 a, er]) ∧ inI a ∧ (er = .nilIface ∨ ∃ t p, er = .iface t p) ∧
    (∀ v, l ≠ [] → val b 0 l = some v → v ≤ 9223372036854775807 → a = v ∧ er = .nilIface)

set_option maxRecDepth 100000 in
set_option maxHeartbeats 800000 in
theorem sParseInt (b : Nat) (bv : Int) (hb : (b = 8 ∧ bv = 8) ∨ (b = 10 ∧ bv = 10) ∨ (b = 16 ∧ bv = 16)) (t : ByteArray) (hmax : t.size ≤ 281474976710656) (w : World) (g : G w) :
    Calls Tryd.prog 26 #[.string t, .int .i64 bv, .int .i64 64] w (SI b t.data.toList w) := by
  have HPI := Lib.hid (pi_core b bv t (by omega) w fun s W hs => pu_any b bv hb s hs W)
  have HG := Lib.hid g
  clear g hb
  go_enter Tryd.func26, Tryd.ntmps26
  go_wp2_with fail
  refine HPI.out.mono ?_
  rintro e w1 ⟨hB, a, er, rfl, ha, her, hok⟩
  have HOK := Lib.hid hok
  clear hok
  have g1 := HG.out.below hB
  obtain ⟨ts, ps, hes⟩ := g1.es
  obtain ⟨tr, pr, her2⟩ := g1.er
  have ES := Lib.hid hes
  have ER := Lib.hid her2
  clear g1 hes her2
  rcases her with rfl | rfl | rfl
  · go_wp2
    go_ret2
    exact ⟨hB, a, .nilIface, rfl, ha, .inl rfl, fun v h1 h2 h3 => ⟨(HOK.out v h1 h2 h3).1, rfl⟩⟩
  · go_wp2_with fail
    refine (Tryd.strconv_toError_range _ _ _ _ _ _ hmax ER.out (.inr ⟨_, _, rfl⟩)).mono ?_
    rintro e w' ⟨N, rfl, _, _, hB2⟩
    go_wp2
    go_ret2
    exact ⟨hB.trans (hB2.mono hB.size), a, _, rfl, ha, .inr ⟨_, _, rfl⟩, fun v h1 h2 h3 => by have := (HOK.out v h1 h2 h3).2; cases this⟩
  · go_wp2_with fail
    refine (Tryd.strconv_toError_syntax _ _ _ _ _ _ hmax ES.out (.inr ⟨_, _, rfl⟩)).mono ?_
    rintro e w' ⟨N, rfl, _, _, hB2⟩
    go_wp2
    go_ret2
    exact ⟨hB.trans (hB2.mono hB.size), a, _, rfl, ha, .inr ⟨_, _, rfl⟩, fun v h1 h2 h3 => by have := (HOK.out v h1 h2 h3).2; cases this⟩

theorem toList_data (t : ByteArray) : t.toList = t.data.toList := by
  exact Lib.toList_data t

/-- What Parse comes to: the number and the error's number. -/
def parseR (l : List UInt8) (b most : Int) : Int × Int :=
  if isB b = false ∨ most < 0 then (0, 1) else match canon b.toNat l with | some v => if (v : Int) ≤ most then ((v : Int), 0) else (0, 5) | none => (0, 5)

theorem isB_of {b : Int} (h : isB b = true) : b = 8 ∨ b = 10 ∨ b = 16 := by simp [isB] at h; omega
/-- A text that is the text of a number that is not negative is its canonical form. -/
theorem canon_of_text {n : Int} {b : Nat} (hb : 2 ≤ b) (hb16 : b ≤ 16) (hn : 0 ≤ n) : canon b (textL n b) = some n.toNat := by
  rw [textL, if_neg (by omega), canon_digs b hb hb16, show n.natAbs = n.toNat by omega]
theorem text_of_canon {l : List UInt8} {b v : Nat} (hb : 2 ≤ b) (h : canon b l = some v) : textL (v : Int) b = l := by
  rw [textL, if_neg (by omega), show (v : Int).natAbs = v by omega]; exact digs_canon b hb l v h
theorem val_of_canon {l : List UInt8} {b v : Nat} (h : canon b l = some v) : l ≠ [] ∧ val b 0 l = some v := by
  unfold canon at h
  split at h
  · cases h
  · rename_i hc; exact ⟨fun e => hc (.inl e), h⟩

set_option maxRecDepth 100000 in
set_option maxHeartbeats 800000 in
theorem Parse_any (t : ByteArray) (b most : Int) (hm : inI most) (hmax : t.size ≤ 281474976710656) (w : World) (g : G w) :
    Calls Tryd.prog 14 #[.string t, .int .i64 b, .int .i64 most] w fun e w' => e = .returned (.tuple #[.int .i64 (parseR t.data.toList b most).1, .int .i64 (parseR t.data.toList b most).2]) ∧ Below w.heap.size w w' := by
  obtain ⟨hm1, hm2⟩ := hm
  by_cases hb : isB b = true
  · have HB := Lib.hid hb
    by_cases hneg : most < 0
    · have hr : parseR t.data.toList b most = (0, 1) := by rw [parseR, if_pos (.inr hneg)]
      rw [hr]
      clear hr hb
      go_enter Tryd.func14, Tryd.ntmps14
      go_wp2_with (go_at_call 21; refine (isBase_any _ _).mono ?_; rw [HB.out]; rintro e w' ⟨rfl, rfl⟩)
      go_ret2
      exact ⟨rfl, Below.refl _ _⟩
    · have hr : parseR t.data.toList b most = match canon b.toNat t.data.toList with | some v => if (v : Int) ≤ most then ((v : Int), 0) else (0, 5) | none => (0, 5) := by
        rw [parseR, if_neg (by simp [hb]; omega)]
      have hb3 := isB_of hb
      have HR := Lib.hid hr
      have HSI := Lib.hid (sParseInt b.toNat b (by omega) t hmax w g)
      have HG := Lib.hid g
      have HB3 := Lib.hid hb3
      clear hr g hb hb3
      go_enter Tryd.func14, Tryd.ntmps14
      go_wp2_with (first | (go_at_call 21; refine (isBase_any _ _).mono ?_; rw [HB.out]; rintro e w' ⟨rfl, rfl⟩) | fail)
      go_at_call 26
      refine HSI.out.mono ?_
      rintro e w1 ⟨hB, a, er, rfl, ha, her, hok⟩
      obtain ⟨ha1, ha2⟩ := ha
      have HOK := Lib.hid hok
      clear hok
      -- what is asked wherever the text is refused
      have no : (∀ v, canon b.toNat t.data.toList = some v → (v : Int) ≤ most → False) → parseR t.data.toList b most = (0, 5) := by
        intro h
        rw [HR.out]
        cases hc : canon b.toNat t.data.toList with
        | none => rfl
        | some v => simp only; rw [if_neg (fun hv => h v hc hv)]
      have NO := Lib.hid no
      clear no
      rcases her with rfl | ⟨te, pe, rfl⟩
      · by_cases hn0 : a < 0
        · go_wp2
          go_ret2
          rw [NO.out fun v hc hv => by have := (HOK.out v (val_of_canon hc).1 (val_of_canon hc).2 (by omega)).1; omega]
          exact ⟨rfl, hB⟩
        by_cases hnm : most < a
        · go_wp2
          go_ret2
          rw [NO.out fun v hc hv => by have := (HOK.out v (val_of_canon hc).1 (val_of_canon hc).2 (by omega)).1; omega]
          exact ⟨rfl, hB⟩
        have HT := Lib.hid (Text_any a b ⟨ha1, ha2⟩ w1 (HG.out.below hB))
        have hR : textR a b = textL a b.toNat := by rw [textR, if_pos HB.out]
        have hb3 := HB3.out
        by_cases htx : textR a b = t.data.toList
        · have hq : (textR a b == t.toList) = true := by rw [htx, toList_data]; simp
          have hcan := canon_of_text (n := a) (b := b.toNat) (by omega) (by omega) (by omega)
          rw [← hR, htx] at hcan
          have hp : parseR t.data.toList b most = (a, 0) := by
            rw [HR.out, hcan]
            simp only
            rw [if_pos (by omega), show (a.toNat : Int) = a by omega]
          have HP := Lib.hid hp
          clear hp hcan htx hR hb3
          go_wp2_with fail
          refine HT.out.mono ?_
          rintro e w2 ⟨rfl, hB2⟩
          go_wp2
          go_ret2
          rw [HP.out]
          exact ⟨rfl, hB.trans (hB2.mono hB.size)⟩
        · have hq : (textR a b == t.toList) = false := by rw [toList_data]; simpa using htx
          have hp : parseR t.data.toList b most = (0, 5) := NO.out fun v hc hv => by
            have h1 := (HOK.out v (val_of_canon hc).1 (val_of_canon hc).2 (by omega)).1
            have h2 := text_of_canon (by omega) hc
            rw [← h1, ← hR] at h2
            exact htx h2
          have HP := Lib.hid hp
          clear hp htx hR hb3
          go_wp2_with fail
          refine HT.out.mono ?_
          rintro e w2 ⟨rfl, hB2⟩
          go_wp2
          go_ret2
          rw [HP.out]
          exact ⟨rfl, hB.trans (hB2.mono hB.size)⟩
      · go_wp2
        go_ret2
        rw [NO.out fun v hc hv => by have := (HOK.out v (val_of_canon hc).1 (val_of_canon hc).2 (by omega)).2; cases this]
        exact ⟨rfl, hB⟩
  · have hb : isB b = false := by simpa using hb
    have hr : parseR t.data.toList b most = (0, 1) := by rw [parseR, if_pos (.inl hb)]
    rw [hr]
    have HB := Lib.hid hb
    clear hr hb
    go_enter Tryd.func14, Tryd.ntmps14
    go_wp2_with (go_at_call 21; refine (isBase_any _ _).mono ?_; rw [HB.out]; rintro e w' ⟨rfl, rfl⟩)
    go_ret2
    exact ⟨rfl, Below.refl _ _⟩
end Go.Proofs.YtddiaoilelcfkaaDoor
