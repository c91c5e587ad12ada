/-
  The reference's Parse.
-/
import Derived.Test.YtddiaoilelcfkaaDoorNj
namespace Go.Proofs.YtddiaoilelcfkaaDoor
open Go.RowKit

theorem digN_digV (c : UInt8) : digV (c.toNat : Int) = digN c := by
  unfold digV digN
  by_cases h1 : 48 ≤ c.toNat ∧ c.toNat ≤ 57
  · rw [if_pos (by omega), if_pos h1]
  · rw [if_neg (by omega), if_neg h1]
    by_cases h2 : 97 ≤ c.toNat ∧ c.toNat ≤ 102
    · rw [if_pos (by omega), if_pos h2]
    · rw [if_neg (by omega), if_neg h2]
theorem digN_bd (c : UInt8) : -1 ≤ digN c ∧ digN c ≤ 15 := by unfold digN; (repeat' split) <;> omega
theorem val_step {b acc v : Nat} {c : UInt8} {r : List UInt8} (hb : 1 ≤ b) (h : val b acc (c :: r) = some v) : 0 ≤ digN c ∧ digN c < b ∧ (acc : Int) * b + digN c ≤ v := by
  simp only [val] at h
  split at h
  · rename_i hd
    have := val_ge b hb _ _ _ h
    refine ⟨hd.1, hd.2, ?_⟩
    have e : ((acc * b + (digN c).toNat : Nat) : Int) = (acc : Int) * b + digN c := by rw [Int.natCast_add, Int.natCast_mul]; omega
    omega
  · cases h
theorem val_next {b acc : Nat} {c : UInt8} {r : List UInt8} (h0 : 0 ≤ digN c) (h1 : digN c < b) : val b acc (c :: r) = val b (acc * b + (digN c).toNat) r := by
  simp only [val]; rw [if_pos ⟨h0, h1⟩]

set_option maxRecDepth 100000 in
set_option maxHeartbeats 1600000 in
theorem RParse_core (b : Nat) (bv : Int) (hb : (b = 8 ∧ bv = 8) ∨ (b = 10 ∧ bv = 10) ∨ (b = 16 ∧ bv = 16)) (t : ByteArray) (most : Int) (hm0 : 0 ≤ most) (hm2 : most ≤ 9223372036854775807) (hmax : t.size ≤ 281474976710656) (w : World) :
    Calls Tryd.prog 15 #[.string t, .int .i64 bv, .int .i64 most] w fun e w' => e = .returned (.tuple #[.int .i64 (parseR t.data.toList b most).1, .int .i64 (parseR t.data.toList b most).2]) ∧ w = w' := by
  rcases hb with ⟨hb, rfl⟩ | ⟨hb, rfl⟩ | ⟨hb, rfl⟩
  · have HB := Lib.hid hb
    have hib : isB (b : Int) = true := by rw [hb]; rfl
    have hr : parseR t.data.toList b most = match canon b t.data.toList with | some v => if (v : Int) ≤ most then ((v : Int), 0) else (0, 5) | none => (0, 5) := by
      rw [parseR, if_neg (by simp [hib]; omega), Int.toNat_natCast]; rfl
    have HR := Lib.hid hr
    have no : (∀ v, canon b t.data.toList = some v → (v : Int) ≤ most → False) → parseR t.data.toList b most = (0, 5) := by
      intro h
      rw [hr]
      cases hc : canon b t.data.toList with
      | none => rfl
      | some v => simp only; rw [if_neg (fun hv => h v hc hv)]
    have NO := Lib.hid no
    clear no hr hib hb
    have hs := Lib.toList_data t
    have hsz : t.data.toList.length = t.size := by rw [Lib.size_eq]
    by_cases h0 : t.size = 0
    · have he : t.data.toList = [] := List.eq_nil_of_length_eq_zero (by omega)
      have hp := NO.out fun v hc _ => (val_of_canon hc).1 he
      have HP := Lib.hid hp
      have hte : t.toList = [] := by rw [hs, he]
      have hte2 : t.toList.isEmpty = true := by rw [hte]; rfl
      clear hp he hs hsz hte
      go_enter Tryd.func15, Tryd.ntmps15
      go_wp2_with (first | (go_at_call 23; refine (based_any _ _).mono ?_; rw [show isB _ = true from rfl]; rintro e w' ⟨rfl, rfl⟩))
      all_goals go_ret2
      all_goals (rw [HP.out]; exact ⟨rfl, rfl⟩)
    · have hlt : 0 < t.size := by omega
      have hne : t.data.toList ≠ [] := fun h => h0 (by rw [← hsz, h]; rfl)
      have hte2 : t.toList.isEmpty = false := by rw [hs]; simpa using hne
      have hte3 : ¬ t.toList = [] := by rw [hs]; exact hne
      have hhd : t.data.toList.head? = some t[0] := by
        obtain ⟨⟨l⟩⟩ := t
        cases l with
        | nil => exact absurd rfl hne
        | cons c l => rfl
      by_cases hz : 1 < t.size ∧ t[0].toNat = 48
      · obtain ⟨hz1, hz2⟩ := hz
        have hp := NO.out fun v hc _ => by
          unfold canon at hc
          rw [if_pos (.inr ⟨by omega, by rw [hhd]; congr 1; exact UInt8.toNat_inj.1 hz2⟩)] at hc
          cases hc
        have HP := Lib.hid hp
        clear hp hs hsz hhd hne
        go_enter Tryd.func15, Tryd.ntmps15
        go_wp2_with (first | (go_at_call 23; refine (based_any _ _).mono ?_; rw [show isB _ = true from rfl]; rintro e w' ⟨rfl, rfl⟩))
        all_goals go_ret2
        all_goals (rw [HP.out]; exact ⟨rfl, rfl⟩)
      · have hcan : canon b t.data.toList = val b 0 t.data.toList := by
          unfold canon
          rw [if_neg]
          rintro (h | ⟨h1, h2⟩)
          · exact hne h
          · rw [hhd] at h2
            have e : t[0] = 48 := by simpa using h2
            exact hz ⟨by omega, by rw [e]; rfl⟩
        have HZ : 1 < t.size → ¬ t[0].toNat = 48 := fun h1 h2 => hz ⟨h1, h2⟩
        have HC := Lib.hid hcan
        have HHD := Lib.hid hhd
        clear hz hcan hs hhd hne
        have go : ∀ P : Prop, (1 < t.size → t[0].toNat ≠ 48 → P) → (t.size = 1 → P) → P := fun P h1 h2 => by
          by_cases h : 1 < t.size
          · exact h1 h (HZ h)
          · exact h2 (by omega)
        clear HZ
        have GO := Lib.hid go
        have HSZ := Lib.hid hsz
        clear go hsz
        have hmf : decide (most < 0) = false := by simp; omega
        go_enter Tryd.func15, Tryd.ntmps15
        refine GO.out _ (fun hz1 hz2 => ?_) (fun hz1 => ?_)
        have hz3 : ((t[0].toNat : Int) == 48) = false := by simp; omega
        all_goals
          go_wp2_with (first | (go_at_call 23; refine (based_any _ _).mono ?_; rw [show isB _ = true from rfl]; rintro e w' ⟨rfl, rfl⟩))
          go_loop [8, 9] (fun vn vi => ∃ k acc : Nat, vn = .int .i64 (acc : Int) ∧ vi = .int .i64 (k : Int) ∧ k ≤ t.size ∧ (acc : Int) ≤ most ∧ Hid (val b 0 t.data.toList = val b acc (t.data.toList.drop k)))
            (fun _ vi => t.size - (intOf vi).toNat)
          case atStart => exact ⟨0, 0, rfl, rfl, by omega, by omega, rfl⟩
          case round =>
            obtain ⟨k, acc, rfl, rfl, hk, hacc, hv⟩ := hrel
            by_cases hkn : k < t.size
            · have hkl : k < t.data.toList.length := by have := HSZ.out; omega
              have hget : t.data.toList[k] = t[k] := by simp [Array.getElem_toList]; rfl
              have hstep : val b 0 t.data.toList = val b acc (t[k] :: t.data.toList.drop (k + 1)) := by
                rw [hv.out, List.drop_eq_getElem_cons hkl, hget]
              have HS := Lib.hid hstep
              have hdg := fun W => digit_any (t[k].toNat : Int) W (by omega) (by have := t[k].toNat_lt; omega)
              rw [digN_digV] at hdg
              have hbd := digN_bd t[k]
              obtain ⟨d, hd⟩ : ∃ d, digN t[k] = d := ⟨_, rfl⟩
              rw [hd] at hdg hbd
              obtain ⟨d0, d1⟩ := hbd
              have HDG := Lib.hid hdg
              have HD := Lib.hid hd
              have refuse : (∀ v : Nat, 0 ≤ d → d < b → (acc : Int) * b + d ≤ v → (v : Int) ≤ most → False) → parseR t.data.toList b most = (0, 5) := fun h => NO.out fun v hc hv => by
                rw [HC.out, HS.out] at hc
                have := val_step (by have := HB.out; omega) hc
                rw [HD.out] at this
                exact h v this.1 this.2.1 this.2.2 hv
              have RF := Lib.hid refuse
              clear hget hstep hdg hd refuse
              by_cases c0 : d < 0
              · go_wp2_with (go_at_call 27; refine (HDG.out _).mono ?_; rintro e w' ⟨rfl, rfl⟩)
                all_goals go_ret2
                all_goals (rw [RF.out fun v h1 h2 h3 h4 => by have := HB.out; subst this; omega]; exact ⟨rfl, rfl⟩)
              by_cases c1 : 8 ≤ d
              · go_wp2_with (go_at_call 27; refine (HDG.out _).mono ?_; rintro e w' ⟨rfl, rfl⟩)
                all_goals go_ret2
                all_goals (rw [RF.out fun v h1 h2 h3 h4 => by have := HB.out; subst this; omega]; exact ⟨rfl, rfl⟩)
              by_cases c2 : most < d
              · go_wp2_with (go_at_call 27; refine (HDG.out _).mono ?_; rintro e w' ⟨rfl, rfl⟩)
                all_goals go_ret2
                all_goals (rw [RF.out fun v h1 h2 h3 h4 => by have := HB.out; subst this; omega]; exact ⟨rfl, rfl⟩)
              by_cases c3 : (most - d) / 8 < acc
              · go_wp2_with (go_at_call 27; refine (HDG.out _).mono ?_; rintro e w' ⟨rfl, rfl⟩)
                all_goals go_ret2
                all_goals (rw [RF.out fun v h1 h2 h3 h4 => by have := HB.out; subst this; omega]; exact ⟨rfl, rfl⟩)
              · go_wp2_with (go_at_call 27; refine (HDG.out _).mono ?_; rintro e w' ⟨rfl, rfl⟩)
                have e := HS.out
                have hdb := HB.out
                rw [val_next (by rw [HD.out]; omega) (by rw [HD.out]; omega), HD.out] at e
                refine ⟨⟨k + 1, acc * b + d.toNat, by congr 1; subst hdb; omega, by go_num, by omega, by subst hdb; omega, e⟩, by simp [intOf]; omega⟩
            · have hkk : k = t.size := by omega
              subst hkk
              go_wp2
              go_ret2
              have e := hv.out
              rw [List.drop_eq_nil_of_le (by have := HSZ.out; omega)] at e
              rw [HR.out, HC.out, e]
              simp only [val]
              rw [if_pos hacc]
              exact ⟨rfl, trivial⟩
  · have HB := Lib.hid hb
    have hib : isB (b : Int) = true := by rw [hb]; rfl
    have hr : parseR t.data.toList b most = match canon b t.data.toList with | some v => if (v : Int) ≤ most then ((v : Int), 0) else (0, 5) | none => (0, 5) := by
      rw [parseR, if_neg (by simp [hib]; omega), Int.toNat_natCast]; rfl
    have HR := Lib.hid hr
    have no : (∀ v, canon b t.data.toList = some v → (v : Int) ≤ most → False) → parseR t.data.toList b most = (0, 5) := by
      intro h
      rw [hr]
      cases hc : canon b t.data.toList with
      | none => rfl
      | some v => simp only; rw [if_neg (fun hv => h v hc hv)]
    have NO := Lib.hid no
    clear no hr hib hb
    have hs := Lib.toList_data t
    have hsz : t.data.toList.length = t.size := by rw [Lib.size_eq]
    by_cases h0 : t.size = 0
    · have he : t.data.toList = [] := List.eq_nil_of_length_eq_zero (by omega)
      have hp := NO.out fun v hc _ => (val_of_canon hc).1 he
      have HP := Lib.hid hp
      have hte : t.toList = [] := by rw [hs, he]
      have hte2 : t.toList.isEmpty = true := by rw [hte]; rfl
      clear hp he hs hsz hte
      go_enter Tryd.func15, Tryd.ntmps15
      go_wp2_with (first | (go_at_call 23; refine (based_any _ _).mono ?_; rw [show isB _ = true from rfl]; rintro e w' ⟨rfl, rfl⟩))
      all_goals go_ret2
      all_goals (rw [HP.out]; exact ⟨rfl, rfl⟩)
    · have hlt : 0 < t.size := by omega
      have hne : t.data.toList ≠ [] := fun h => h0 (by rw [← hsz, h]; rfl)
      have hte2 : t.toList.isEmpty = false := by rw [hs]; simpa using hne
      have hte3 : ¬ t.toList = [] := by rw [hs]; exact hne
      have hhd : t.data.toList.head? = some t[0] := by
        obtain ⟨⟨l⟩⟩ := t
        cases l with
        | nil => exact absurd rfl hne
        | cons c l => rfl
      by_cases hz : 1 < t.size ∧ t[0].toNat = 48
      · obtain ⟨hz1, hz2⟩ := hz
        have hp := NO.out fun v hc _ => by
          unfold canon at hc
          rw [if_pos (.inr ⟨by omega, by rw [hhd]; congr 1; exact UInt8.toNat_inj.1 hz2⟩)] at hc
          cases hc
        have HP := Lib.hid hp
        clear hp hs hsz hhd hne
        go_enter Tryd.func15, Tryd.ntmps15
        go_wp2_with (first | (go_at_call 23; refine (based_any _ _).mono ?_; rw [show isB _ = true from rfl]; rintro e w' ⟨rfl, rfl⟩))
        all_goals go_ret2
        all_goals (rw [HP.out]; exact ⟨rfl, rfl⟩)
      · have hcan : canon b t.data.toList = val b 0 t.data.toList := by
          unfold canon
          rw [if_neg]
          rintro (h | ⟨h1, h2⟩)
          · exact hne h
          · rw [hhd] at h2
            have e : t[0] = 48 := by simpa using h2
            exact hz ⟨by omega, by rw [e]; rfl⟩
        have HZ : 1 < t.size → ¬ t[0].toNat = 48 := fun h1 h2 => hz ⟨h1, h2⟩
        have HC := Lib.hid hcan
        have HHD := Lib.hid hhd
        clear hz hcan hs hhd hne
        have go : ∀ P : Prop, (1 < t.size → t[0].toNat ≠ 48 → P) → (t.size = 1 → P) → P := fun P h1 h2 => by
          by_cases h : 1 < t.size
          · exact h1 h (HZ h)
          · exact h2 (by omega)
        clear HZ
        have GO := Lib.hid go
        have HSZ := Lib.hid hsz
        clear go hsz
        have hmf : decide (most < 0) = false := by simp; omega
        go_enter Tryd.func15, Tryd.ntmps15
        refine GO.out _ (fun hz1 hz2 => ?_) (fun hz1 => ?_)
        have hz3 : ((t[0].toNat : Int) == 48) = false := by simp; omega
        all_goals
          go_wp2_with (first | (go_at_call 23; refine (based_any _ _).mono ?_; rw [show isB _ = true from rfl]; rintro e w' ⟨rfl, rfl⟩))
          go_loop [8, 9] (fun vn vi => ∃ k acc : Nat, vn = .int .i64 (acc : Int) ∧ vi = .int .i64 (k : Int) ∧ k ≤ t.size ∧ (acc : Int) ≤ most ∧ Hid (val b 0 t.data.toList = val b acc (t.data.toList.drop k)))
            (fun _ vi => t.size - (intOf vi).toNat)
          case atStart => exact ⟨0, 0, rfl, rfl, by omega, by omega, rfl⟩
          case round =>
            obtain ⟨k, acc, rfl, rfl, hk, hacc, hv⟩ := hrel
            by_cases hkn : k < t.size
            · have hkl : k < t.data.toList.length := by have := HSZ.out; omega
              have hget : t.data.toList[k] = t[k] := by simp [Array.getElem_toList]; rfl
              have hstep : val b 0 t.data.toList = val b acc (t[k] :: t.data.toList.drop (k + 1)) := by
                rw [hv.out, List.drop_eq_getElem_cons hkl, hget]
              have HS := Lib.hid hstep
              have hdg := fun W => digit_any (t[k].toNat : Int) W (by omega) (by have := t[k].toNat_lt; omega)
              rw [digN_digV] at hdg
              have hbd := digN_bd t[k]
              obtain ⟨d, hd⟩ : ∃ d, digN t[k] = d := ⟨_, rfl⟩
              rw [hd] at hdg hbd
              obtain ⟨d0, d1⟩ := hbd
              have HDG := Lib.hid hdg
              have HD := Lib.hid hd
              have refuse : (∀ v : Nat, 0 ≤ d → d < b → (acc : Int) * b + d ≤ v → (v : Int) ≤ most → False) → parseR t.data.toList b most = (0, 5) := fun h => NO.out fun v hc hv => by
                rw [HC.out, HS.out] at hc
                have := val_step (by have := HB.out; omega) hc
                rw [HD.out] at this
                exact h v this.1 this.2.1 this.2.2 hv
              have RF := Lib.hid refuse
              clear hget hstep hdg hd refuse
              by_cases c0 : d < 0
              · go_wp2_with (go_at_call 27; refine (HDG.out _).mono ?_; rintro e w' ⟨rfl, rfl⟩)
                all_goals go_ret2
                all_goals (rw [RF.out fun v h1 h2 h3 h4 => by have := HB.out; subst this; omega]; exact ⟨rfl, rfl⟩)
              by_cases c1 : 10 ≤ d
              · go_wp2_with (go_at_call 27; refine (HDG.out _).mono ?_; rintro e w' ⟨rfl, rfl⟩)
                all_goals go_ret2
                all_goals (rw [RF.out fun v h1 h2 h3 h4 => by have := HB.out; subst this; omega]; exact ⟨rfl, rfl⟩)
              by_cases c2 : most < d
              · go_wp2_with (go_at_call 27; refine (HDG.out _).mono ?_; rintro e w' ⟨rfl, rfl⟩)
                all_goals go_ret2
                all_goals (rw [RF.out fun v h1 h2 h3 h4 => by have := HB.out; subst this; omega]; exact ⟨rfl, rfl⟩)
              by_cases c3 : (most - d) / 10 < acc
              · go_wp2_with (go_at_call 27; refine (HDG.out _).mono ?_; rintro e w' ⟨rfl, rfl⟩)
                all_goals go_ret2
                all_goals (rw [RF.out fun v h1 h2 h3 h4 => by have := HB.out; subst this; omega]; exact ⟨rfl, rfl⟩)
              · go_wp2_with (go_at_call 27; refine (HDG.out _).mono ?_; rintro e w' ⟨rfl, rfl⟩)
                have e := HS.out
                have hdb := HB.out
                rw [val_next (by rw [HD.out]; omega) (by rw [HD.out]; omega), HD.out] at e
                refine ⟨⟨k + 1, acc * b + d.toNat, by congr 1; subst hdb; omega, by go_num, by omega, by subst hdb; omega, e⟩, by simp [intOf]; omega⟩
            · have hkk : k = t.size := by omega
              subst hkk
              go_wp2
              go_ret2
              have e := hv.out
              rw [List.drop_eq_nil_of_le (by have := HSZ.out; omega)] at e
              rw [HR.out, HC.out, e]
              simp only [val]
              rw [if_pos hacc]
              exact ⟨rfl, trivial⟩
  · have HB := Lib.hid hb
    have hib : isB (b : Int) = true := by rw [hb]; rfl
    have hr : parseR t.data.toList b most = match canon b t.data.toList with | some v => if (v : Int) ≤ most then ((v : Int), 0) else (0, 5) | none => (0, 5) := by
      rw [parseR, if_neg (by simp [hib]; omega), Int.toNat_natCast]; rfl
    have HR := Lib.hid hr
    have no : (∀ v, canon b t.data.toList = some v → (v : Int) ≤ most → False) → parseR t.data.toList b most = (0, 5) := by
      intro h
      rw [hr]
      cases hc : canon b t.data.toList with
      | none => rfl
      | some v => simp only; rw [if_neg (fun hv => h v hc hv)]
    have NO := Lib.hid no
    clear no hr hib hb
    have hs := Lib.toList_data t
    have hsz : t.data.toList.length = t.size := by rw [Lib.size_eq]
    by_cases h0 : t.size = 0
    · have he : t.data.toList = [] := List.eq_nil_of_length_eq_zero (by omega)
      have hp := NO.out fun v hc _ => (val_of_canon hc).1 he
      have HP := Lib.hid hp
      have hte : t.toList = [] := by rw [hs, he]
      have hte2 : t.toList.isEmpty = true := by rw [hte]; rfl
      clear hp he hs hsz hte
      go_enter Tryd.func15, Tryd.ntmps15
      go_wp2_with (first | (go_at_call 23; refine (based_any _ _).mono ?_; rw [show isB _ = true from rfl]; rintro e w' ⟨rfl, rfl⟩))
      all_goals go_ret2
      all_goals (rw [HP.out]; exact ⟨rfl, rfl⟩)
    · have hlt : 0 < t.size := by omega
      have hne : t.data.toList ≠ [] := fun h => h0 (by rw [← hsz, h]; rfl)
      have hte2 : t.toList.isEmpty = false := by rw [hs]; simpa using hne
      have hte3 : ¬ t.toList = [] := by rw [hs]; exact hne
      have hhd : t.data.toList.head? = some t[0] := by
        obtain ⟨⟨l⟩⟩ := t
        cases l with
        | nil => exact absurd rfl hne
        | cons c l => rfl
      by_cases hz : 1 < t.size ∧ t[0].toNat = 48
      · obtain ⟨hz1, hz2⟩ := hz
        have hp := NO.out fun v hc _ => by
          unfold canon at hc
          rw [if_pos (.inr ⟨by omega, by rw [hhd]; congr 1; exact UInt8.toNat_inj.1 hz2⟩)] at hc
          cases hc
        have HP := Lib.hid hp
        clear hp hs hsz hhd hne
        go_enter Tryd.func15, Tryd.ntmps15
        go_wp2_with (first | (go_at_call 23; refine (based_any _ _).mono ?_; rw [show isB _ = true from rfl]; rintro e w' ⟨rfl, rfl⟩))
        all_goals go_ret2
        all_goals (rw [HP.out]; exact ⟨rfl, rfl⟩)
      · have hcan : canon b t.data.toList = val b 0 t.data.toList := by
          unfold canon
          rw [if_neg]
          rintro (h | ⟨h1, h2⟩)
          · exact hne h
          · rw [hhd] at h2
            have e : t[0] = 48 := by simpa using h2
            exact hz ⟨by omega, by rw [e]; rfl⟩
        have HZ : 1 < t.size → ¬ t[0].toNat = 48 := fun h1 h2 => hz ⟨h1, h2⟩
        have HC := Lib.hid hcan
        have HHD := Lib.hid hhd
        clear hz hcan hs hhd hne
        have go : ∀ P : Prop, (1 < t.size → t[0].toNat ≠ 48 → P) → (t.size = 1 → P) → P := fun P h1 h2 => by
          by_cases h : 1 < t.size
          · exact h1 h (HZ h)
          · exact h2 (by omega)
        clear HZ
        have GO := Lib.hid go
        have HSZ := Lib.hid hsz
        clear go hsz
        have hmf : decide (most < 0) = false := by simp; omega
        go_enter Tryd.func15, Tryd.ntmps15
        refine GO.out _ (fun hz1 hz2 => ?_) (fun hz1 => ?_)
        have hz3 : ((t[0].toNat : Int) == 48) = false := by simp; omega
        all_goals
          go_wp2_with (first | (go_at_call 23; refine (based_any _ _).mono ?_; rw [show isB _ = true from rfl]; rintro e w' ⟨rfl, rfl⟩))
          go_loop [8, 9] (fun vn vi => ∃ k acc : Nat, vn = .int .i64 (acc : Int) ∧ vi = .int .i64 (k : Int) ∧ k ≤ t.size ∧ (acc : Int) ≤ most ∧ Hid (val b 0 t.data.toList = val b acc (t.data.toList.drop k)))
            (fun _ vi => t.size - (intOf vi).toNat)
          case atStart => exact ⟨0, 0, rfl, rfl, by omega, by omega, rfl⟩
          case round =>
            obtain ⟨k, acc, rfl, rfl, hk, hacc, hv⟩ := hrel
            by_cases hkn : k < t.size
            · have hkl : k < t.data.toList.length := by have := HSZ.out; omega
              have hget : t.data.toList[k] = t[k] := by simp [Array.getElem_toList]; rfl
              have hstep : val b 0 t.data.toList = val b acc (t[k] :: t.data.toList.drop (k + 1)) := by
                rw [hv.out, List.drop_eq_getElem_cons hkl, hget]
              have HS := Lib.hid hstep
              have hdg := fun W => digit_any (t[k].toNat : Int) W (by omega) (by have := t[k].toNat_lt; omega)
              rw [digN_digV] at hdg
              have hbd := digN_bd t[k]
              obtain ⟨d, hd⟩ : ∃ d, digN t[k] = d := ⟨_, rfl⟩
              rw [hd] at hdg hbd
              obtain ⟨d0, d1⟩ := hbd
              have HDG := Lib.hid hdg
              have HD := Lib.hid hd
              have refuse : (∀ v : Nat, 0 ≤ d → d < b → (acc : Int) * b + d ≤ v → (v : Int) ≤ most → False) → parseR t.data.toList b most = (0, 5) := fun h => NO.out fun v hc hv => by
                rw [HC.out, HS.out] at hc
                have := val_step (by have := HB.out; omega) hc
                rw [HD.out] at this
                exact h v this.1 this.2.1 this.2.2 hv
              have RF := Lib.hid refuse
              clear hget hstep hdg hd refuse
              by_cases c0 : d < 0
              · go_wp2_with (go_at_call 27; refine (HDG.out _).mono ?_; rintro e w' ⟨rfl, rfl⟩)
                all_goals go_ret2
                all_goals (rw [RF.out fun v h1 h2 h3 h4 => by have := HB.out; subst this; omega]; exact ⟨rfl, rfl⟩)
              by_cases c1 : 16 ≤ d
              · go_wp2_with (go_at_call 27; refine (HDG.out _).mono ?_; rintro e w' ⟨rfl, rfl⟩)
                all_goals go_ret2
                all_goals (rw [RF.out fun v h1 h2 h3 h4 => by have := HB.out; subst this; omega]; exact ⟨rfl, rfl⟩)
              by_cases c2 : most < d
              · go_wp2_with (go_at_call 27; refine (HDG.out _).mono ?_; rintro e w' ⟨rfl, rfl⟩)
                all_goals go_ret2
                all_goals (rw [RF.out fun v h1 h2 h3 h4 => by have := HB.out; subst this; omega]; exact ⟨rfl, rfl⟩)
              by_cases c3 : (most - d) / 16 < acc
              · go_wp2_with (go_at_call 27; refine (HDG.out _).mono ?_; rintro e w' ⟨rfl, rfl⟩)
                all_goals go_ret2
                all_goals (rw [RF.out fun v h1 h2 h3 h4 => by have := HB.out; subst this; omega]; exact ⟨rfl, rfl⟩)
              · go_wp2_with (go_at_call 27; refine (HDG.out _).mono ?_; rintro e w' ⟨rfl, rfl⟩)
                have e := HS.out
                have hdb := HB.out
                rw [val_next (by rw [HD.out]; omega) (by rw [HD.out]; omega), HD.out] at e
                refine ⟨⟨k + 1, acc * b + d.toNat, by congr 1; subst hdb; omega, by go_num, by omega, by subst hdb; omega, e⟩, by simp [intOf]; omega⟩
            · have hkk : k = t.size := by omega
              subst hkk
              go_wp2
              go_ret2
              have e := hv.out
              rw [List.drop_eq_nil_of_le (by have := HSZ.out; omega)] at e
              rw [HR.out, HC.out, e]
              simp only [val]
              rw [if_pos hacc]
              exact ⟨rfl, trivial⟩

theorem RParse_any (t : ByteArray) (b most : Int) (hm : inI most) (hmax : t.size ≤ 281474976710656) (w : World) :
    Calls Tryd.prog 15 #[.string t, .int .i64 b, .int .i64 most] w fun e w' => e = .returned (.tuple #[.int .i64 (parseR t.data.toList b most).1, .int .i64 (parseR t.data.toList b most).2]) ∧ w = w' := by
  obtain ⟨hm1, hm2⟩ := hm
  by_cases hb : isB b = true
  · by_cases hneg : most < 0
    · have hr : parseR t.data.toList b most = (0, 1) := by rw [parseR, if_pos (.inr hneg)]
      rw [hr]
      have HB := Lib.hid hb
      clear hr hb
      go_enter Tryd.func15, Tryd.ntmps15
      go_wp2_with (go_at_call 23; refine (based_any _ _).mono ?_; rw [HB.out]; rintro e w' ⟨rfl, rfl⟩)
      go_ret2
      exact ⟨rfl, rfl⟩
    · have hb3 := isB_of hb
      have h := RParse_core b.toNat b (by omega) t most (by omega) hm2 hmax w
      rw [show (b.toNat : Int) = b by omega] at h
      exact h
  · have hb : isB b = false := by simpa using hb
    have hr : parseR t.data.toList b most = (0, 1) := by rw [parseR, if_pos (.inl hb)]
    rw [hr]
    have HB := Lib.hid hb
    clear hr hb
    go_enter Tryd.func15, Tryd.ntmps15
    go_wp2_with (go_at_call 23; refine (based_any _ _).mono ?_; rw [HB.out]; rintro e w' ⟨rfl, rfl⟩)
    go_ret2
    exact ⟨rfl, rfl⟩
end Go.Proofs.YtddiaoilelcfkaaDoor
