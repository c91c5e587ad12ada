/-
  Walks: Allows, the program's and the reference's; few.
-/
import Derived.Test.YtogjkkijejgggaaDoorMm
namespace Go.Proofs.YtogjkkijejgggaaDoor
open Go.RowKit

theorem allows_true {mem own : Bool} {m want : Int} (hb : 0 ≤ m ∧ 0 ≤ want ∧ want ≤ 7) (h : ∀ j, j < 3 → okK mem own m want j = true) : allowsI mem own m want = true := by
  unfold allowsI; rw [decide_eq_true hb, h 0 (by omega), h 1 (by omega), h 2 (by omega)]; rfl
theorem allows_false {mem own : Bool} {m want : Int} (k : Nat) (hk : k < 3) (h : okK mem own m want k = false) : allowsI mem own m want = false := by
  unfold allowsI
  match k, hk with
  | 0, _ => rw [h]; simp
  | 1, _ => rw [h]; simp
  | 2, _ => rw [h]; simp
  | n + 3, h => omega
theorem allows_out {mem own : Bool} {m want : Int} (hb : ¬ (0 ≤ m ∧ 0 ≤ want ∧ want ≤ 7)) : allowsI mem own m want = false := by
  unfold allowsI; rw [decide_eq_false hb]; rfl
theorem ok_go {f : Nat → Bool} {k : Nat} (h : ∀ j, j < k → f j = true) (he : f k = true) : ∀ j, j < k + 1 → f j = true := fun j hj => by
  by_cases e : j = k
  · subst e; exact he
  · exact h j (by omega)

set_option maxHeartbeats 1600000 in
theorem granted_any (v : Value) (L : List U) (x u g : List UInt8) (m : Int) (w : World) (h : URow w v L) (hl : L.length ≤ 100000) (hm : Memb L 1000000) (h0 : 0 ≤ m) (h1 : m ≤ 9223372036854775807) :
    Calls Tryd.prog 29 #[v, .string (mk x), .string (mk u), .string (mk g), .int .i64 m] w fun e w' => e = .returned (.int .i64 (grantI (memberL L x g) (x == u) m)) ∧ Below w.heap.size w w' := by
  have N := Lib.hid (Member_any v L x g _ h hl hm)
  have hq : ((mk x).toList == (mk u).toList) = (x == u) := by rw [mk_toList, mk_toList]
  generalize memberL L x g = mem at N ⊢
  generalize (x == u) = own at hq ⊢
  have HR : Hid (∀ a b, grantI a b m = bits .and .i64 (if b then bits .or .i64 (if a then bits .or .i64 m (m / 8) else m) (m / 64) else if a then bits .or .i64 m (m / 8) else m) 7) := fun a b => rfl
  generalize hG : grantI mem own m = r
  have HG := Lib.hid (hG.symm.trans (HR.out mem own))
  clear hG h HR
  cases mem
  all_goals
    cases own
    all_goals
      go_enter Tryd.func29, Tryd.ntmps29
      go_wp2_with fail
      refine N.out.mono ?_
      rintro e w1 ⟨rfl, hB⟩
      replace hB := Lib.hid hB
      go_wp2
      go_ret
      exact ⟨ret_int (HG.out.trans (by simp)).symm, hB.out⟩

set_option maxHeartbeats 1600000 in
theorem Allows_any (v : Value) (L : List U) (x u g : List UInt8) (m want : Int) (hi : inI m) (w : World) (h : URow w v L) (hl : L.length ≤ 100000) (hm : Memb L 1000000) :
    Calls Tryd.prog 21 #[v, .string (mk x), .string (mk u), .string (mk g), .int .i64 m, .int .i64 want] w fun e w' => e = .returned (.bool (allowsI (memberL L x g) (x == u) m want)) ∧ Below w.heap.size w w' := by
  obtain ⟨hi1, hi2⟩ := hi
  by_cases hb : 0 ≤ m ∧ 0 ≤ want ∧ want ≤ 7
  · obtain ⟨b0, b1, b2⟩ := hb
    have C := granted_any v L x u g m w h hl hm b0 hi2
    have hr := allow_bits (memberL L x g) (x == u) b0 hi2 b1 b2
    generalize memberL L x g = mem at *
    generalize (x == u) = own at *
    generalize grantI mem own m = G at *
    generalize allowsI mem own m want = r at *
    replace C := Lib.hid C
    replace hr := Lib.hid hr
    clear h
    go_enter Tryd.func21, Tryd.ntmps21
    go_wp2_with fail
    refine C.out.mono ?_
    rintro e w1 ⟨rfl, hB⟩
    replace hB := Lib.hid hB
    go_wp2
    go_ret
    exact ⟨ret_bool hr.out, hB.out⟩
  · have hr := Lib.hid (allows_out (mem := memberL L x g) (own := (x == u)) hb)
    generalize allowsI (memberL L x g) (x == u) m want = r at *
    clear h
    by_cases b0 : 0 ≤ m
    · by_cases b1 : 0 ≤ want
      · have b2 : 7 < want := by omega
        clear hb
        go_enter Tryd.func21, Tryd.ntmps21
        go_wp2
        go_ret
        exact ⟨ret_bool hr.out.symm, Below.refl _ _⟩
      · clear hb
        go_enter Tryd.func21, Tryd.ntmps21
        go_wp2
        go_ret
        exact ⟨ret_bool hr.out.symm, Below.refl _ _⟩
    · clear hb
      go_enter Tryd.func21, Tryd.ntmps21
      go_wp2
      go_ret
      exact ⟨ret_bool hr.out.symm, Below.refl _ _⟩

set_option maxRecDepth 100000 in
set_option maxHeartbeats 6400000 in
theorem RAllows_any (v : Value) (L : List U) (x u g : List UInt8) (m want : Int) (hi : inI m) (w : World) (h : URow w v L) (hl : L.length ≤ 100000) (hm : Memb L 1000000) :
    Calls Tryd.prog 22 #[v, .string (mk x), .string (mk u), .string (mk g), .int .i64 m, .int .i64 want] w fun e w' => e = .returned (.bool (allowsI (memberL L x g) (x == u) m want)) ∧ Below w.heap.size w w' := by
  have HI := Lib.hid hi
  obtain ⟨hi1, hi2⟩ := hi
  by_cases hb : 0 ≤ m ∧ 0 ≤ want ∧ want ≤ 7
  · have MM := Lib.hid (fun wr (hB : Below w.heap.size w wr) => RMember_any v L x g wr (h.below hB) hl hm)
    have hq : ((mk x).toList == (mk u).toList) = (x == u) := by rw [mk_toList, mk_toList]
    generalize memberL L x g = mem at *
    generalize (x == u) = own at *
    have HT := Lib.hid (allows_true (mem := mem) (own := own) hb)
    have HF := Lib.hid (fun k hk => allows_false (mem := mem) (own := own) (m := m) (want := want) k hk)
    obtain ⟨b0, b1', b2⟩ := hb
    have HOK : Hid (∀ k, okK mem own m want k = (!bitB want (pw k) || ((bitB m (pw k) || (bitB m (8 * pw k) && mem)) || (bitB m (64 * pw k) && own)))) := fun k => rfl
    generalize allowsI mem own m want = r at *
    generalize hOK : okK mem own m want = ok at *
    clear hOK h
    go_enter Tryd.func22, Tryd.ntmps22
    go_wp2
    go_loopw [13] (fun vp wr => ∃ k : Nat, k ≤ 3 ∧ vp = .int .i64 (pw k) ∧ Hid (∀ j, j < k → ok j = true) ∧ Hid (Below w.heap.size w wr)) (fun vp _ => (8 - intOf vp).toNat)
    case atStart => exact ⟨0, by omega, rfl, fun j hj => by omega, Below.refl _ _⟩
    case round =>
      obtain ⟨k, hk, rfl, hj, HB⟩ := hrel
      by_cases hlt : k < 3
      · have hp := pw_bd k (by omega)
        have hnx := Lib.hid (pw_next k (by omega))
        have hp4 : pw k ≤ 4 := by
          match k, hlt with
          | 0, _ | 1, _ | 2, _ => decide
          | n + 3, h => omega
        have B1 := fun w' => RBit_any m (pw k) HI.out (by omega) w'
        have B8 := fun w' => RBit_any m (8 * pw k) HI.out (by omega) w'
        have B64 := fun w' => RBit_any m (64 * pw k) HI.out (by omega) w'
        have hok := HOK.out k
        have hw : ((want / pw k).tmod 2 == 1) = bitB want (pw k) := by
          unfold bitB
          have : 0 ≤ want / pw k := Int.ediv_nonneg b1' (by omega)
          rw [Int.tmod_eq_emod_of_nonneg this, Bool.eq_iff_iff]
          simp [b1']
        generalize bitB m (pw k) = b1 at *
        generalize bitB m (8 * pw k) = b8 at *
        generalize bitB m (64 * pw k) = b64 at *
        generalize bitB want (pw k) = bw at *
        replace B1 := Lib.hid B1
        replace B8 := Lib.hid B8
        replace B64 := Lib.hid B64
        replace hok := Lib.hid hok
        cases b1
        rotate_left
        · go_wp2_with fail
          refine (B1.out _).mono ?_
          rintro e w' ⟨rfl, rfl⟩
          cases bw
          · go_wp2
            exact ⟨⟨k + 1, by omega, congrArg (Value.int .i64) hnx.out, ok_go hj.out (hok.out.trans rfl), HB.out⟩, by simp [intOf]; omega⟩
          · go_wp2
            exact ⟨⟨k + 1, by omega, congrArg (Value.int .i64) hnx.out, ok_go hj.out (hok.out.trans rfl), HB.out⟩, by simp [intOf]; omega⟩
        · cases b8
          · cases b64
            · go_wp2_with fail
              refine (B1.out _).mono ?_
              rintro e w' ⟨rfl, rfl⟩
              go_wp2_with fail
              refine (B8.out _).mono ?_
              rintro e w' ⟨rfl, rfl⟩
              go_wp2_with fail
              refine (B64.out _).mono ?_
              rintro e w' ⟨rfl, rfl⟩
              cases bw
              · go_wp2
                exact ⟨⟨k + 1, by omega, congrArg (Value.int .i64) hnx.out, ok_go hj.out (hok.out.trans rfl), HB.out⟩, by simp [intOf]; omega⟩
              · have hF := Lib.hid (HF.out k hlt (hok.out.trans rfl))
                go_wp2
                go_ret
                exact ⟨ret_bool hF.out.symm, HB.out⟩
            · cases own
              · go_wp2_with fail
                refine (B1.out _).mono ?_
                rintro e w' ⟨rfl, rfl⟩
                go_wp2_with fail
                refine (B8.out _).mono ?_
                rintro e w' ⟨rfl, rfl⟩
                go_wp2_with fail
                refine (B64.out _).mono ?_
                rintro e w' ⟨rfl, rfl⟩
                cases bw
                · go_wp2
                  exact ⟨⟨k + 1, by omega, congrArg (Value.int .i64) hnx.out, ok_go hj.out (hok.out.trans rfl), HB.out⟩, by simp [intOf]; omega⟩
                · have hF := Lib.hid (HF.out k hlt (hok.out.trans rfl))
                  go_wp2
                  go_ret
                  exact ⟨ret_bool hF.out.symm, HB.out⟩
              · go_wp2_with fail
                refine (B1.out _).mono ?_
                rintro e w' ⟨rfl, rfl⟩
                go_wp2_with fail
                refine (B8.out _).mono ?_
                rintro e w' ⟨rfl, rfl⟩
                go_wp2_with fail
                refine (B64.out _).mono ?_
                rintro e w' ⟨rfl, rfl⟩
                cases bw
                · go_wp2
                  exact ⟨⟨k + 1, by omega, congrArg (Value.int .i64) hnx.out, ok_go hj.out (hok.out.trans rfl), HB.out⟩, by simp [intOf]; omega⟩
                · go_wp2
                  exact ⟨⟨k + 1, by omega, congrArg (Value.int .i64) hnx.out, ok_go hj.out (hok.out.trans rfl), HB.out⟩, by simp [intOf]; omega⟩
          · cases mem
            · cases b64
              · go_wp2_with fail
                refine (B1.out _).mono ?_
                rintro e w' ⟨rfl, rfl⟩
                go_wp2_with fail
                refine (B8.out _).mono ?_
                rintro e w' ⟨rfl, rfl⟩
                go_wp2_with fail
                refine (MM.out _ HB.out).mono ?_
                rintro e w2 ⟨rfl, hB2⟩
                replace HB := Lib.hid (HB.out.trans (hB2.mono HB.out.size))
                clear hB2
                go_wp2_with fail
                refine (B64.out _).mono ?_
                rintro e w' ⟨rfl, rfl⟩
                cases bw
                · go_wp2
                  exact ⟨⟨k + 1, by omega, congrArg (Value.int .i64) hnx.out, ok_go hj.out (hok.out.trans rfl), HB.out⟩, by simp [intOf]; omega⟩
                · have hF := Lib.hid (HF.out k hlt (hok.out.trans rfl))
                  go_wp2
                  go_ret
                  exact ⟨ret_bool hF.out.symm, HB.out⟩
              · cases own
                · go_wp2_with fail
                  refine (B1.out _).mono ?_
                  rintro e w' ⟨rfl, rfl⟩
                  go_wp2_with fail
                  refine (B8.out _).mono ?_
                  rintro e w' ⟨rfl, rfl⟩
                  go_wp2_with fail
                  refine (MM.out _ HB.out).mono ?_
                  rintro e w2 ⟨rfl, hB2⟩
                  replace HB := Lib.hid (HB.out.trans (hB2.mono HB.out.size))
                  clear hB2
                  go_wp2_with fail
                  refine (B64.out _).mono ?_
                  rintro e w' ⟨rfl, rfl⟩
                  cases bw
                  · go_wp2
                    exact ⟨⟨k + 1, by omega, congrArg (Value.int .i64) hnx.out, ok_go hj.out (hok.out.trans rfl), HB.out⟩, by simp [intOf]; omega⟩
                  · have hF := Lib.hid (HF.out k hlt (hok.out.trans rfl))
                    go_wp2
                    go_ret
                    exact ⟨ret_bool hF.out.symm, HB.out⟩
                · go_wp2_with fail
                  refine (B1.out _).mono ?_
                  rintro e w' ⟨rfl, rfl⟩
                  go_wp2_with fail
                  refine (B8.out _).mono ?_
                  rintro e w' ⟨rfl, rfl⟩
                  go_wp2_with fail
                  refine (MM.out _ HB.out).mono ?_
                  rintro e w2 ⟨rfl, hB2⟩
                  replace HB := Lib.hid (HB.out.trans (hB2.mono HB.out.size))
                  clear hB2
                  go_wp2_with fail
                  refine (B64.out _).mono ?_
                  rintro e w' ⟨rfl, rfl⟩
                  cases bw
                  · go_wp2
                    exact ⟨⟨k + 1, by omega, congrArg (Value.int .i64) hnx.out, ok_go hj.out (hok.out.trans rfl), HB.out⟩, by simp [intOf]; omega⟩
                  · go_wp2
                    exact ⟨⟨k + 1, by omega, congrArg (Value.int .i64) hnx.out, ok_go hj.out (hok.out.trans rfl), HB.out⟩, by simp [intOf]; omega⟩
            · go_wp2_with fail
              refine (B1.out _).mono ?_
              rintro e w' ⟨rfl, rfl⟩
              go_wp2_with fail
              refine (B8.out _).mono ?_
              rintro e w' ⟨rfl, rfl⟩
              go_wp2_with fail
              refine (MM.out _ HB.out).mono ?_
              rintro e w2 ⟨rfl, hB2⟩
              replace HB := Lib.hid (HB.out.trans (hB2.mono HB.out.size))
              clear hB2
              cases bw
              · go_wp2
                exact ⟨⟨k + 1, by omega, congrArg (Value.int .i64) hnx.out, ok_go hj.out (hok.out.trans rfl), HB.out⟩, by simp [intOf]; omega⟩
              · go_wp2
                exact ⟨⟨k + 1, by omega, congrArg (Value.int .i64) hnx.out, ok_go hj.out (hok.out.trans rfl), HB.out⟩, by simp [intOf]; omega⟩
      · obtain rfl : k = 3 := by omega
        have hp3 : pw 3 = 8 := rfl
        have hT := Lib.hid (HT.out hj.out)
        go_wp2
        go_ret
        exact ⟨ret_bool hT.out.symm, HB.out⟩
  · have hr := Lib.hid (allows_out (mem := memberL L x g) (own := (x == u)) hb)
    generalize allowsI (memberL L x g) (x == u) m want = r at *
    clear h
    by_cases b0 : 0 ≤ m
    · by_cases b1 : 0 ≤ want
      · have b2 : 7 < want := by omega
        clear hb
        go_enter Tryd.func22, Tryd.ntmps22
        go_wp2
        go_ret
        exact ⟨ret_bool hr.out.symm, Below.refl _ _⟩
      · clear hb
        go_enter Tryd.func22, Tryd.ntmps22
        go_wp2
        go_ret
        exact ⟨ret_bool hr.out.symm, Below.refl _ _⟩
    · clear hb
      go_enter Tryd.func22, Tryd.ntmps22
      go_wp2
      go_ret
      exact ⟨ret_bool hr.out.symm, Below.refl _ _⟩
end Go.Proofs.YtogjkkijejgggaaDoor
