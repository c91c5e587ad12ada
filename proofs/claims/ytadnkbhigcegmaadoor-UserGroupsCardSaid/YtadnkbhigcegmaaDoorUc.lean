/-
  The reference's Valid.
-/
import Derived.Test.YtadnkbhigcegmaaDoorUb
namespace Go.Proofs.YtadnkbhigcegmaaDoor
open Go.RowKit

def lastB (c : UInt8) : Bool := decide (48 ≤ c.toNat ∧ c.toNat ≤ 57) || decide (c.toNat = 45) || decide (c.toNat = 95)
theorem nameB_lower {c : UInt8} (h : lowerB c = true) : nameB c = true := by unfold nameB; rw [h]; simp
theorem nameB_last {c : UInt8} (h : lowerB c = false) : nameB c = lastB c := by unfold nameB lastB; rw [h]; simp
theorem firstB_zero (s : List UInt8) (k : Nat) (hk : k < (mk s).size) (hk0 : k = 0) (h : lowerB (mk s)[k] = false) : firstB s = false := by
  subst hk0
  rw [firstB_at s hk]
  exact h
theorem firstB_zero' (s : List UInt8) (k : Nat) (hk : k < (mk s).size) (hk0 : k = 0) (h : lowerB (mk s)[k] = true) : firstB s = true := by
  subst hk0
  rw [firstB_at s hk]
  exact h

set_option maxHeartbeats 1600000 in
theorem RValid_any (s : List UInt8) (hs : s.length ≤ 100000) (w : World) :
    Calls Tryd.prog 12 #[.string (mk s)] w fun e w' => e = .returned (.bool (validL s)) ∧ w = w' := by
  have hz := mk_size s
  have HZ := Lib.hid hz
  have hsz : (mk s).size ≤ 100000 := by omega
  have hv : validL s = (decide ((mk s).size ≤ 32) && firstB s && s.all nameB) := by unfold validL; rw [hz]
  have HV := Lib.hid hv
  clear hv hz hs
  generalize validL s = r at HV ⊢
  by_cases h32 : (mk s).size ≤ 32
  · have HV2 : Hid (r = (firstB s && s.all nameB)) := by rw [Hid, HV.out, decide_eq_true h32]; simp
    clear HV
    by_cases h1 : 1 ≤ (mk s).size
    · go_enter Tryd.func12, Tryd.ntmps12
      go_wp2
      go_loop [3] (fun vi => ∃ k : Nat, vi = .int .i64 (k : Int) ∧ k ≤ (mk s).size ∧ Hid ((s.take k).all nameB = true) ∧ Hid (0 < k → firstB s = true)) (fun vi => (mk s).size - (intOf vi).toNat)
      case atStart => exact ⟨0, rfl, by omega, by simp [Hid], fun h => by omega⟩
      case round =>
        obtain ⟨k, rfl, hk, ha, hf⟩ := hrel
        by_cases hlt : k < (mk s).size
        · have HG := fun h => Lib.hid (take_all s k hlt ha.out h)
          have HB := fun h => Lib.hid (take_none s k hlt h)
          have HF0 := fun h0 h => Lib.hid (firstB_zero s k hlt h0 h)
          have HF1 := fun h0 h => Lib.hid (firstB_zero' s k hlt h0 h)
          have hc := ((mk s)[k]).toNat_lt
          by_cases e1 : (97 : Int) ≤ ((mk s)[k].toNat : Int)
          · by_cases e2 : ((mk s)[k].toNat : Int) ≤ 122
            · have hl : lowerB (mk s)[k] = true := by unfold lowerB; rw [decide_eq_true_eq]; omega
              have HA := HG (nameB_lower hl)
              have HF2 : Hid (0 < k + 1 → firstB s = true) := fun _ => by
                by_cases hk0 : k = 0
                · exact (HF1 hk0 hl).out
                · exact hf.out (by omega)
              clear HG HB HF0 HF1 hl hc
              go_wp2
              exact ⟨⟨k + 1, by go_num, by omega, HA, HF2⟩, by simp [intOf]; omega⟩
            · have hl : lowerB (mk s)[k] = false := by unfold lowerB; rw [decide_eq_false_iff_not]; omega
              by_cases hk0 : k = 0
              · have HF := HF0 hk0 hl
                have hk0' : ((k : Int) == 0) = true := by simp; omega
                clear HG HB HF0 HF1 hl hc hf hk0
                go_wp2
                go_ret
                rw [HV2.out, HF.out]
                exact ⟨rfl, rfl⟩
              · have hk0' : ((k : Int) == 0) = false := by simp; omega
                have hkp : 0 < k := by omega
                clear hk0
                by_cases d1 : (48 : Int) ≤ ((mk s)[k].toNat : Int)
                · by_cases d2 : ((mk s)[k].toNat : Int) ≤ 57
                  · have hn : nameB (mk s)[k] = true := by rw [nameB_last hl]; unfold lastB; rw [Bool.or_eq_true, Bool.or_eq_true, decide_eq_true_eq, decide_eq_true_eq, decide_eq_true_eq]; omega
                    have HA := HG hn
                    have HF2 : Hid (0 < k + 1 → firstB s = true) := fun _ => hf.out (by omega)
                    clear HG HB HF0 HF1 hl hn hc
                    go_wp2
                    exact ⟨⟨k + 1, by go_num, by omega, HA, HF2⟩, by simp [intOf]; omega⟩
                  · by_cases d3 : ((mk s)[k].toNat : Int) = 45
                    · have d3' : (((mk s)[k].toNat : Int) != 45) = false := by rw [d3]; rfl
                      have hn : nameB (mk s)[k] = true := by rw [nameB_last hl]; unfold lastB; rw [Bool.or_eq_true, Bool.or_eq_true, decide_eq_true_eq, decide_eq_true_eq, decide_eq_true_eq]; omega
                      have HA := HG hn
                      have HF2 : Hid (0 < k + 1 → firstB s = true) := fun _ => hf.out (by omega)
                      clear HG HB HF0 HF1 hl hn hc
                      go_wp2
                      exact ⟨⟨k + 1, by go_num, by omega, HA, HF2⟩, by simp [intOf]; omega⟩
                    · have d3' : (((mk s)[k].toNat : Int) != 45) = true := by simpa using d3
                      by_cases d4 : ((mk s)[k].toNat : Int) = 95
                      · have d4' : (((mk s)[k].toNat : Int) != 95) = false := by rw [d4]; rfl
                        have hn : nameB (mk s)[k] = true := by rw [nameB_last hl]; unfold lastB; rw [Bool.or_eq_true, Bool.or_eq_true, decide_eq_true_eq, decide_eq_true_eq, decide_eq_true_eq]; omega
                        have HA := HG hn
                        have HF2 : Hid (0 < k + 1 → firstB s = true) := fun _ => hf.out (by omega)
                        clear HG HB HF0 HF1 hl hn hc
                        go_wp2
                        exact ⟨⟨k + 1, by go_num, by omega, HA, HF2⟩, by simp [intOf]; omega⟩
                      · have d4' : (((mk s)[k].toNat : Int) != 95) = true := by simpa using d4
                        have hn : nameB (mk s)[k] = false := by rw [nameB_last hl]; unfold lastB; rw [Bool.or_eq_false_iff, Bool.or_eq_false_iff, decide_eq_false_iff_not, decide_eq_false_iff_not, decide_eq_false_iff_not]; omega
                        have HA := HB hn
                        clear HG HB HF0 HF1 hl hn hc hf
                        go_wp2
                        go_ret
                        rw [HV2.out, HA.out, Bool.and_false]
                        exact ⟨rfl, rfl⟩
                · by_cases d3 : ((mk s)[k].toNat : Int) = 45
                  · have d3' : (((mk s)[k].toNat : Int) != 45) = false := by rw [d3]; rfl
                    have hn : nameB (mk s)[k] = true := by rw [nameB_last hl]; unfold lastB; rw [Bool.or_eq_true, Bool.or_eq_true, decide_eq_true_eq, decide_eq_true_eq, decide_eq_true_eq]; omega
                    have HA := HG hn
                    have HF2 : Hid (0 < k + 1 → firstB s = true) := fun _ => hf.out (by omega)
                    clear HG HB HF0 HF1 hl hn hc
                    go_wp2
                    exact ⟨⟨k + 1, by go_num, by omega, HA, HF2⟩, by simp [intOf]; omega⟩
                  · have d3' : (((mk s)[k].toNat : Int) != 45) = true := by simpa using d3
                    by_cases d4 : ((mk s)[k].toNat : Int) = 95
                    · have d4' : (((mk s)[k].toNat : Int) != 95) = false := by rw [d4]; rfl
                      have hn : nameB (mk s)[k] = true := by rw [nameB_last hl]; unfold lastB; rw [Bool.or_eq_true, Bool.or_eq_true, decide_eq_true_eq, decide_eq_true_eq, decide_eq_true_eq]; omega
                      have HA := HG hn
                      have HF2 : Hid (0 < k + 1 → firstB s = true) := fun _ => hf.out (by omega)
                      clear HG HB HF0 HF1 hl hn hc
                      go_wp2
                      exact ⟨⟨k + 1, by go_num, by omega, HA, HF2⟩, by simp [intOf]; omega⟩
                    · have d4' : (((mk s)[k].toNat : Int) != 95) = true := by simpa using d4
                      have hn : nameB (mk s)[k] = false := by rw [nameB_last hl]; unfold lastB; rw [Bool.or_eq_false_iff, Bool.or_eq_false_iff, decide_eq_false_iff_not, decide_eq_false_iff_not, decide_eq_false_iff_not]; omega
                      have HA := HB hn
                      clear HG HB HF0 HF1 hl hn hc hf
                      go_wp2
                      go_ret
                      rw [HV2.out, HA.out, Bool.and_false]
                      exact ⟨rfl, rfl⟩
          · have hl : lowerB (mk s)[k] = false := by unfold lowerB; rw [decide_eq_false_iff_not]; omega
            by_cases hk0 : k = 0
            · have HF := HF0 hk0 hl
              have hk0' : ((k : Int) == 0) = true := by simp; omega
              clear HG HB HF0 HF1 hl hc hf hk0
              go_wp2
              go_ret
              rw [HV2.out, HF.out]
              exact ⟨rfl, rfl⟩
            · have hk0' : ((k : Int) == 0) = false := by simp; omega
              have hkp : 0 < k := by omega
              clear hk0
              by_cases d1 : (48 : Int) ≤ ((mk s)[k].toNat : Int)
              · by_cases d2 : ((mk s)[k].toNat : Int) ≤ 57
                · have hn : nameB (mk s)[k] = true := by rw [nameB_last hl]; unfold lastB; rw [Bool.or_eq_true, Bool.or_eq_true, decide_eq_true_eq, decide_eq_true_eq, decide_eq_true_eq]; omega
                  have HA := HG hn
                  have HF2 : Hid (0 < k + 1 → firstB s = true) := fun _ => hf.out (by omega)
                  clear HG HB HF0 HF1 hl hn hc
                  go_wp2
                  exact ⟨⟨k + 1, by go_num, by omega, HA, HF2⟩, by simp [intOf]; omega⟩
                · by_cases d3 : ((mk s)[k].toNat : Int) = 45
                  · have d3' : (((mk s)[k].toNat : Int) != 45) = false := by rw [d3]; rfl
                    have hn : nameB (mk s)[k] = true := by rw [nameB_last hl]; unfold lastB; rw [Bool.or_eq_true, Bool.or_eq_true, decide_eq_true_eq, decide_eq_true_eq, decide_eq_true_eq]; omega
                    have HA := HG hn
                    have HF2 : Hid (0 < k + 1 → firstB s = true) := fun _ => hf.out (by omega)
                    clear HG HB HF0 HF1 hl hn hc
                    go_wp2
                    exact ⟨⟨k + 1, by go_num, by omega, HA, HF2⟩, by simp [intOf]; omega⟩
                  · have d3' : (((mk s)[k].toNat : Int) != 45) = true := by simpa using d3
                    by_cases d4 : ((mk s)[k].toNat : Int) = 95
                    · have d4' : (((mk s)[k].toNat : Int) != 95) = false := by rw [d4]; rfl
                      have hn : nameB (mk s)[k] = true := by rw [nameB_last hl]; unfold lastB; rw [Bool.or_eq_true, Bool.or_eq_true, decide_eq_true_eq, decide_eq_true_eq, decide_eq_true_eq]; omega
                      have HA := HG hn
                      have HF2 : Hid (0 < k + 1 → firstB s = true) := fun _ => hf.out (by omega)
                      clear HG HB HF0 HF1 hl hn hc
                      go_wp2
                      exact ⟨⟨k + 1, by go_num, by omega, HA, HF2⟩, by simp [intOf]; omega⟩
                    · have d4' : (((mk s)[k].toNat : Int) != 95) = true := by simpa using d4
                      have hn : nameB (mk s)[k] = false := by rw [nameB_last hl]; unfold lastB; rw [Bool.or_eq_false_iff, Bool.or_eq_false_iff, decide_eq_false_iff_not, decide_eq_false_iff_not, decide_eq_false_iff_not]; omega
                      have HA := HB hn
                      clear HG HB HF0 HF1 hl hn hc hf
                      go_wp2
                      go_ret
                      rw [HV2.out, HA.out, Bool.and_false]
                      exact ⟨rfl, rfl⟩
              · by_cases d3 : ((mk s)[k].toNat : Int) = 45
                · have d3' : (((mk s)[k].toNat : Int) != 45) = false := by rw [d3]; rfl
                  have hn : nameB (mk s)[k] = true := by rw [nameB_last hl]; unfold lastB; rw [Bool.or_eq_true, Bool.or_eq_true, decide_eq_true_eq, decide_eq_true_eq, decide_eq_true_eq]; omega
                  have HA := HG hn
                  have HF2 : Hid (0 < k + 1 → firstB s = true) := fun _ => hf.out (by omega)
                  clear HG HB HF0 HF1 hl hn hc
                  go_wp2
                  exact ⟨⟨k + 1, by go_num, by omega, HA, HF2⟩, by simp [intOf]; omega⟩
                · have d3' : (((mk s)[k].toNat : Int) != 45) = true := by simpa using d3
                  by_cases d4 : ((mk s)[k].toNat : Int) = 95
                  · have d4' : (((mk s)[k].toNat : Int) != 95) = false := by rw [d4]; rfl
                    have hn : nameB (mk s)[k] = true := by rw [nameB_last hl]; unfold lastB; rw [Bool.or_eq_true, Bool.or_eq_true, decide_eq_true_eq, decide_eq_true_eq, decide_eq_true_eq]; omega
                    have HA := HG hn
                    have HF2 : Hid (0 < k + 1 → firstB s = true) := fun _ => hf.out (by omega)
                    clear HG HB HF0 HF1 hl hn hc
                    go_wp2
                    exact ⟨⟨k + 1, by go_num, by omega, HA, HF2⟩, by simp [intOf]; omega⟩
                  · have d4' : (((mk s)[k].toNat : Int) != 95) = true := by simpa using d4
                    have hn : nameB (mk s)[k] = false := by rw [nameB_last hl]; unfold lastB; rw [Bool.or_eq_false_iff, Bool.or_eq_false_iff, decide_eq_false_iff_not, decide_eq_false_iff_not, decide_eq_false_iff_not]; omega
                    have HA := HB hn
                    clear HG HB HF0 HF1 hl hn hc hf
                    go_wp2
                    go_ret
                    rw [HV2.out, HA.out, Bool.and_false]
                    exact ⟨rfl, rfl⟩
        · have hkn : k = (mk s).size := by omega
          have ha' := ha.out
          rw [hkn, HZ.out, List.take_length] at ha'
          have HA := Lib.hid ha'
          have HF := Lib.hid (hf.out (by omega))
          clear ha'
          go_wp2
          go_ret
          rw [HV2.out, HA.out, HF.out]
          exact ⟨rfl, rfl⟩
    · have hs0 : (mk s).size = 0 := by omega
      have HR : Hid (r = false) := by
        rw [Hid, HV2.out]
        have : s = [] := List.eq_nil_of_length_eq_zero (by rw [← HZ.out]; exact hs0)
        rw [this]; rfl
      clear HV2 HZ
      go_enter Tryd.func12, Tryd.ntmps12
      go_wp2
      go_ret
      rw [HR.out]
      exact ⟨rfl, rfl⟩
  · have HR : Hid (r = false) := by rw [Hid, HV.out, decide_eq_false h32]; simp
    clear HV
    go_enter Tryd.func12, Tryd.ntmps12
    go_wp2
    go_ret
    rw [HR.out]
    exact ⟨rfl, rfl⟩
end Go.Proofs.YtadnkbhigcegmaaDoor
