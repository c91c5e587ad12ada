/-
  Walks: the reference's number.
-/
import Derived.Test.YtinjnbcikoejkaaDoorSd
namespace Go.Proofs.YtinjnbcikoejkaaDoor
open Go.RowKit

def sat (v : Nat) : Int := if 9223372036854775808 ≤ v then 9223372036854775807 else (v : Int)
theorem sat_big {v : Nat} {c : Nat} (h : (36028797018963968 : Int) ≤ sat v) : sat (c + 256 * v) = 9223372036854775807 := by
  unfold sat at h ⊢
  split at h
  · rw [if_pos (by omega)]
  · rw [if_pos (by omega)]
theorem sat_small {v : Nat} {c : Nat} (hc : c < 256) (h : ¬ (36028797018963968 : Int) ≤ sat v) : sat (c + 256 * v) = sat v * 256 + (c : Int) := by
  unfold sat at h ⊢
  split at h
  · omega
  · rw [if_neg (by omega), if_neg (by omega)]; omega
theorem sat_nn (v : Nat) : 0 ≤ sat v ∧ sat v ≤ 9223372036854775807 := by unfold sat; split <;> omega
def kpB (l : List UInt8) : Bool := decide (l = List.replicate l.length 255)
theorem numQ_eq (l : List UInt8) : numQ l = if kpB l then -1 else sat (val l) := by
  unfold numQ kpB sat; simp
theorem kpB_cons (c : UInt8) (l : List UInt8) : kpB (c :: l) = (kpB l && ((c.toNat : Int) == 255)) := by
  unfold kpB
  rw [Bool.eq_iff_iff]
  simp only [List.length_cons, List.replicate_succ, List.cons.injEq, Bool.and_eq_true, decide_eq_true_eq, beq_iff_eq]
  constructor
  · rintro ⟨rfl, h⟩; exact ⟨h, rfl⟩
  · rintro ⟨h, hc⟩; exact ⟨UInt8.toNat.inj (by show c.toNat = 255; omega), h⟩
theorem cut_cons (b : List UInt8) (x m : Nat) (h : x < (mk b).size) : cut b x (m + 1) = (mk b)[x] :: cut b (x + 1) m := by
  rw [mk_get]
  rw [mk_size] at h
  unfold cut
  rw [List.drop_eq_getElem_cons h, List.take_succ_cons]

set_option maxRecDepth 100000 in
set_option maxHeartbeats 3200000 in
theorem number_any (b : List UInt8) (a k : Nat) (h1 : 1 ≤ k) (h8 : k ≤ 8) (hs : a + k ≤ (mk b).size) (hb : (mk b).size ≤ 1000000) (w : World) :
    Calls Tryd.prog 39 #[.string (mk b), .int .i64 (a : Int), .int .i64 (k : Int)] w fun e w' => e = .returned (.int .i64 (numQ (cut b a k))) ∧ w = w' := by
  have hr := numQ_eq (cut b a k)
  generalize numQ (cut b a k) = res at hr ⊢
  replace hr := Lib.hid hr
  go_enter Tryd.func39, Tryd.ntmps39
  go_wp2
  go_loop [7, 8, 9] (fun vn vk vi => ∃ (j : Nat) (i : Int) (n : Int) (kp : Bool), vi = .int .i64 i ∧ i = (j : Int) - 1 ∧ vn = .int .i64 n ∧ vk = .bool kp ∧ j ≤ k ∧ 0 ≤ n ∧ n ≤ 9223372036854775807 ∧ Hid (n = sat (val (cut b (a + j) (k - j)))) ∧ Hid (kp = kpB (cut b (a + j) (k - j)))) (fun _ _ vi => (intOf vi + 1).toNat)
  case atStart => exact ⟨k, _, 0, true, rfl, by omega, rfl, rfl, by omega, by omega, by omega, (by simp [cut, val, sat] : 0 = sat (val (cut b (a + k) (k - k)))), (by simp [cut, kpB] : true = kpB (cut b (a + k) (k - k)))⟩
  case round =>
    obtain ⟨j, i, n, kp, rfl, hi, rfl, rfl, hj, hn0, hn1, hn, hkp⟩ := hrel
    by_cases hj0 : j = 0
    · subst hj0
      obtain rfl : i = -1 := by omega
      have hr2 := hr.out
      rw [show cut b a k = cut b (a + 0) (k - 0) from rfl, ← hn.out, ← hkp.out] at hr2
      replace hr2 := Lib.hid hr2
      clear hi
      cases kp
      · go_wp2
        go_ret
        rw [hr2.out]
        exact ⟨rfl, rfl⟩
      · go_wp2
        go_ret
        rw [hr2.out]
        exact ⟨rfl, rfl⟩
    · obtain ⟨j, rfl⟩ : ∃ d, j = d + 1 := ⟨j - 1, by omega⟩
      obtain rfl : i = (j : Int) := by omega
      have hbd : a + j < (mk b).size := by omega
      have hcc := cut_cons b (a + j) (k - (j + 1)) hbd
      rw [show a + j + 1 = a + (j + 1) by omega, show k - (j + 1) + 1 = k - j by omega] at hcc
      have hv : val (cut b (a + j) (k - j)) = (mk b)[a + j].toNat + 256 * val (cut b (a + (j + 1)) (k - (j + 1))) := by rw [hcc]; rfl
      have hk2 := kpB_cons (mk b)[a + j] (cut b (a + (j + 1)) (k - (j + 1)))
      rw [← hcc, ← hkp.out] at hk2
      have hc : (mk b)[a + j].toNat < 256 := (mk b)[a + j].toNat_lt
      by_cases hbig : (36028797018963968 : Int) ≤ n
      · have hs2 := sat_big (c := (mk b)[a + j].toNat) (by rw [← hn.out]; exact hbig)
        rw [← hv] at hs2
        have HS := Lib.hid hs2.symm
        replace hk2 := Lib.hid hk2.symm
        clear hv hs2 hcc hc hn hkp hi
        cases kp
        · go_wp2
          exact ⟨⟨j, (j : Int) - 1, _, _, by first | rfl | (congr 1), rfl, rfl, rfl, by omega, by omega, by omega, HS.out, hk2.out⟩, by simp [intOf]; try omega⟩
        · go_wp2
          exact ⟨⟨j, (j : Int) - 1, _, _, by first | rfl | (congr 1), rfl, rfl, rfl, by omega, by omega, by omega, HS.out, hk2.out⟩, by simp [intOf]; try omega⟩
      · have hs2 := sat_small hc (v := val (cut b (a + (j + 1)) (k - (j + 1)))) (by rw [← hn.out]; exact hbig)
        rw [← hv, ← hn.out] at hs2
        have HS := Lib.hid hs2.symm
        replace hk2 := Lib.hid hk2.symm
        have HC := Lib.hid hc
        have hd : decide ((36028797018963968 : Int) ≤ n) = false := by simpa using hbig
        have HN := Lib.hid hbig
        clear hv hs2 hcc hc hn hkp hi hbig
        cases kp
        · go_wp2
          have hN := HN.out
          have hC := HC.out
          have e1 : wrap64 (n * 256) = n * 256 := IntWalk.wrap64_in _ (by omega)
          have e2 : wrap64 (((mk b)[a + j].toNat : Nat) : Int) = (((mk b)[a + j].toNat : Nat) : Int) := IntWalk.wrap64_in _ (by omega)
          have e3 : wrap64 (n * 256 + (((mk b)[a + j].toNat : Nat) : Int)) = n * 256 + (((mk b)[a + j].toNat : Nat) : Int) := IntWalk.wrap64_in _ (by omega)
          refine ⟨⟨j, (j : Int) - 1, n * 256 + (((mk b)[a + j].toNat : Nat) : Int), _, by first | rfl | (congr 1), rfl, ?_, rfl, by omega, by omega, by omega, HS.out, hk2.out⟩, by simp [intOf]; try omega⟩
          rw [e1, e2, e3]
        · go_wp2
          have hN := HN.out
          have hC := HC.out
          have e1 : wrap64 (n * 256) = n * 256 := IntWalk.wrap64_in _ (by omega)
          have e2 : wrap64 (((mk b)[a + j].toNat : Nat) : Int) = (((mk b)[a + j].toNat : Nat) : Int) := IntWalk.wrap64_in _ (by omega)
          have e3 : wrap64 (n * 256 + (((mk b)[a + j].toNat : Nat) : Int)) = n * 256 + (((mk b)[a + j].toNat : Nat) : Int) := IntWalk.wrap64_in _ (by omega)
          refine ⟨⟨j, (j : Int) - 1, n * 256 + (((mk b)[a + j].toNat : Nat) : Int), _, by first | rfl | (congr 1), rfl, ?_, rfl, by omega, by omega, by omega, HS.out, hk2.out⟩, by simp [intOf]; try omega⟩
          rw [e1, e2, e3]
end Go.Proofs.YtinjnbcikoejkaaDoor
