/-
  The reference's Check.
-/
import Derived.Test.YtadnkbhigcegmaaDoorUi
import Derived.Deep.QuietTactic
import Derived.BigQuiet
namespace Go.Proofs.YtadnkbhigcegmaaDoor
open Go.RowKit

theorem quiet_same {P : Program} {f : FuncId} {args : Array Value} {w : World} {n : Nat} {v : Value}
    (h : Calls P f args (w.drewN n) fun e w' => e = .returned v ∧ w.drewN n = w') : Calls P f args (w.drewN n) fun e w'' => e = .returned v ∧ ∃ m, w'' = w.drewN m :=
  h.mono fun _ _ ⟨he, hm⟩ => ⟨he, n, hm.symm⟩
theorem below_drewN {B : Nat} {a w : World} (h : Below B a w) (n : Nat) : Below B a (w.drewN n) := ⟨h.os, h.tape, h.output, h.size, h.block⟩
theorem memOk_false {L : List U} {ms : List (List UInt8)} {k : Nat} (h : hasL L (ms.getD k []) = true) (hk : 0 < k) (hl : ltL (ms.getD (k - 1) []) (ms.getD k []) = false) : memOk L ms k = false := by
  unfold memOk; rw [h, hl]; simp; omega
/-- What checkOne's last two tests decide. -/
def tailL (L : List U) (u : U) : Int := if groupL L u = true then 0 else 26
theorem one_tail {L : List U} {k : Nat} (h : validL (getL L k).n = true) (h2 : ¬ atL L (getL L k).n < k) : oneL L k = tailL L (getL L k) := by
  unfold tailL
  cases hg : groupL L (getL L k) with
  | true => rw [one_0 h h2 hg]; rfl
  | false => rw [one_26 h h2 hg]; rfl

set_option maxRecDepth 100000 in
set_option maxHeartbeats 1600000 in
theorem checkOne_any (v : Value) (L : List U) (k : Nat) (hk : k < L.length) (w : World) (h : URow w v L) (hb : Big L) :
    Calls Tryd.prog 36 #[v, .int .i64 (k : Int)] w fun e w' => e = .returned (.int .i64 (oneL L k)) ∧ Below w.heap.size w w' := by
  have hl := hb.1
  obtain ⟨hb1, hb2, hb3, hb4⟩ := hb.2 k
  have HA := Lib.hid (fun x W (hB : Below w.heap.size w W) => at_any v L x W (h.below hB) hl)
  obtain ⟨b, o, cap, q, c, rfl, hbb, hcl, c0, c1, c2, hqc, hs⟩ := h.at_ (Below.refl _ _) hk
  have H25 := Lib.hid (one_25 (L := L) (k := k))
  have H7 := Lib.hid (one_7 (L := L) (k := k))
  have HT := Lib.hid (one_tail (L := L) (k := k))
  have hself := has_self hk
  have hat := atL_self hk
  have hB0 := (Below.refl w.heap.size w).alloc (Nat.le_refl _) (.cells #[.string (mk (getL L k).n), .string (mk (getL L k).l), .slice q (getL L k).m.length c] 32)
  have HV := Lib.hid (RValid_any (getL L k).n hb1 (w.alloc (.cells #[.string (mk (getL L k).n), .string (mk (getL L k).l), .slice q (getL L k).m.length c] 32)))
  have HAn := HA.out (getL L k).n _ hB0
  rw [if_pos hself] at HAn
  have HAl := HA.out (getL L k).l _ hB0
  have HS := Lib.hid (hs.below hB0)
  have HB0 := Lib.hid hB0
  replace HAn := Lib.hid HAn
  replace HAl := Lib.hid HAl
  have hx2 := blk3_2 (heap_alloc_new w (.cells #[.string (mk (getL L k).n), .string (mk (getL L k).l), .slice q (getL L k).m.length c] 32 (0, 0)))
  have HX2 := Lib.hid hx2
  have hm4 := Lib.hid hb4
  generalize oneL L k = res at H25 H7 HT ⊢
  clear hb h hs hB0 hself hb1 hb2 hb4 hx2
  generalize hu : getL L k = uk at *
  clear hu
  obtain ⟨un, ul, um⟩ := uk
  generalize atL L un = m at *
  by_cases hva : validL un = true
  · rw [hva] at HV
    by_cases hmk : (m : Int) < (k : Int)
    · have HR := Lib.hid (H7.out hva (by omega))
      clear H25 H7 HT hva
      go_enter Tryd.func36, Tryd.ntmps36
      go_wp2_with (first
        | (go_at_call 12; refine HV.out.mono ?_; rintro e w' ⟨rfl, rfl⟩)
        | (go_at_call 39; refine HAn.out.mono ?_; rintro e w' ⟨rfl, rfl⟩))
      go_ret
      rw [HR.out]
      exact ⟨rfl, HB0.out⟩
    · have HR := Lib.hid (HT.out hva (by omega))
      clear H25 H7 HT hva
      have hres : ∀ b1 b2, leadOk L ul = b1 → memsOk L um = b2 → res = if (b1 && b2) = true then 0 else 26 := by
        rintro _ _ rfl rfl; exact HR.out
      have HRES := Lib.hid hres
      have hnat : decide ((m : Int) < (k : Int)) = false := decide_eq_false hmk
      have hnat' : decide (m < k) = false := decide_eq_false (by omega)
      have hT := Lib.hid (fun h => memsOk_true (L := L) (ms := um) h)
      have hN := Lib.hid (fun k hk h => memsOk_false (L := L) (ms := um) (k := k) hk h)
      clear hres HR
      by_cases hlead : leadOk L ul = true
      · have HRE := Lib.hid (fun b2 h => HRES.out true b2 hlead h)
        have hstart : (ul = [] ∧ (mk ul).toList = [] ∧ (mk ul).toList.isEmpty = true) ∨ ((mk ul).toList ≠ [] ∧ (mk ul).toList.isEmpty = false ∧ hasL L ul = true) := by
          by_cases h0 : ul = []
          · exact .inl ⟨h0, by rw [mk_toList]; exact h0, by rw [mk_toList, h0]; rfl⟩
          · refine .inr ⟨by rw [mk_toList]; exact h0, by rw [mk_toList]; simpa using h0, ?_⟩
            unfold leadOk at hlead
            simpa [h0] using hlead
        have hAl : ∃ x : Int, hasL L ul = true → x = (atL L ul : Int) := ⟨_, fun _ => rfl⟩
        generalize memsOk L um = mo at hT hN HRE
        clear HRES hlead
        rcases hstart with ⟨h0, h1, h2⟩ | ⟨h1, h2, h3⟩
        · clear HAl hAl h0
          go_enter Tryd.func36, Tryd.ntmps36
          go_wp2_with (first
            | (go_at_call 12; refine HV.out.mono ?_; rintro e w' ⟨rfl, rfl⟩)
            | (go_at_call 39; refine HAn.out.mono ?_; rintro e w' ⟨rfl, rfl⟩))
          clear HAn HV
          go_loopw [37] (fun vi wr => ∃ i : Nat, vi = .int .i64 (i : Int) ∧ i ≤ um.length ∧ Hid (Below (w.heap.size + 1) (w.alloc (.cells #[.string (mk un), .string (mk ul), .slice q um.length c] 32)) wr) ∧ Hid (∀ j, j < i → memOk L um j = true)) (fun vi _ => um.length - (intOf vi).toNat)
          case atStart => exact ⟨0, rfl, by omega, Below.refl _ _, fun j hj => by omega⟩
          case round =>
            obtain ⟨i, rfl, hi, HW, ha⟩ := hrel
            have hsz := HW.out.size
            simp only [World.size_alloc] at hsz
            have HBW := Lib.hid (HB0.out.trans (HW.out.mono (Nat.le_succ _)))
            by_cases hlt : i < um.length
            · obtain ⟨bb, o', hp, hb', c0'⟩ := HS.out.at_ (wr := wr) (by rw [World.size_alloc]; exact HW.out) hlt
              subst hp
              have y2 := (HW.out.cell (p := ⟨w.heap.size, 2, none⟩) (Nat.lt_succ_self _)).trans HX2.out
              have D := fun n => HA.out (um.getD i []) (wr.drewN n) (below_drewN HBW.out n)
              have ki : (i : Int) < (um.length : Int) := by omega
              have k0 : (0 : Int) ≤ (i : Int) := by omega
              by_cases hh : hasL L (um.getD i []) = true
              · rw [if_pos hh] at D
                have hge : decide (((atL L (um.getD i []) : Nat) : Int) < 0) = false := decide_eq_false (by omega)
                cases i with
                | zero =>
                  have HG := Lib.hid (memOk_go ha.out (memOk_zero hh))
                  have HD := Lib.hid D
                  clear hh D
                  generalize atL L (um.getD 0 []) = mm at HD hge
                  generalize um.getD 0 [] = t at c0' HD
                  rw [Nat.add_zero] at c0'
                  go_wp2
                  go_quiet ((go_at_call 39; with_reducible exact quiet_same (HD.out _)))
                  go_wp2
                  exact ⟨⟨1, rfl, by omega, below_drewN HW.out _, HG⟩, by simp [intOf]; omega⟩
                | succ j =>
                  obtain ⟨bb', o'', hp', hb'', c1'⟩ := HS.out.at_ (wr := wr) (by rw [World.size_alloc]; exact HW.out) (show j < um.length by omega)
                  injection hp' with hp'
                  injection hp' with hp1 hp2
                  subst hp1 hp2
                  have hm := memOk_succ (ms := um) hh
                  have e1 : IntKind.i64.wrap (j : Int) = (j : Int) := IntWalk.i64_in _ (by omega)
                  have e2 : (j : Int) < (um.length : Int) := by omega
                  have e3 : (0 : Int) ≤ (j : Int) := by omega
                  have e4 : ((j + 1 : Nat) : Int) - 1 = (j : Int) := by omega
                  have e5 : decide ((0 : Int) < ((j + 1 : Nat) : Int)) = true := decide_eq_true (by omega)
                  have HD := Lib.hid D
                  by_cases hlq : ltL (um.getD j []) (um.getD (j + 1) []) = true
                  · have HG := Lib.hid (memOk_go ha.out (hm.trans hlq))
                    have hq : Op.bytesLess (mk (um.getD j [])).toList (mk (um.getD (j + 1) [])).toList = true := by rw [mk_toList, mk_toList]; exact hlq
                    clear hh D hm hlq
                    generalize atL L (um.getD (j + 1) []) = mm at HD hge
                    generalize um.getD (j + 1) [] = t at c0' HD hq
                    generalize um.getD j [] = t' at c1' hq
                    go_wp2
                    go_quiet ((go_at_call 39; with_reducible exact quiet_same (HD.out _)))
                    go_wp2
                    go_roundw
                    case rel => exact ⟨j + 1 + 1, by go_num, by omega, below_drewN HW.out _, HG⟩
                    case measure => simp [intOf]; omega
                  · have hlq : ltL (um.getD j []) (um.getD (j + 1) []) = false := by simpa using hlq
                    have HG := Lib.hid (HRE.out false (hN.out _ hlt (hm.trans hlq)))
                    have hq : Op.bytesLess (mk (um.getD j [])).toList (mk (um.getD (j + 1) [])).toList = false := by rw [mk_toList, mk_toList]; exact hlq
                    clear hh D hm hlq
                    generalize atL L (um.getD (j + 1) []) = mm at HD hge
                    generalize um.getD (j + 1) [] = t at c0' HD hq
                    generalize um.getD j [] = t' at c1' hq
                    go_wp2
                    go_quiet ((go_at_call 39; with_reducible exact quiet_same (HD.out _)))
                    go_wp2
                    go_ret
                    rw [HG.out]
                    exact ⟨rfl, below_drewN HBW.out _⟩
              · rw [if_neg hh] at D
                have hh : hasL L (um.getD i []) = false := by simpa using hh
                have HG := Lib.hid (HRE.out false (hN.out _ hlt (memOk_not hh)))
                have HD := Lib.hid D
                clear hh D
                generalize um.getD i [] = t at c0' HD
                go_wp2
                go_quiet ((go_at_call 39; with_reducible exact quiet_same (HD.out _)))
                go_wp2
                go_ret
                rw [HG.out]
                exact ⟨rfl, below_drewN HBW.out _⟩
            · have hin : i = um.length := by omega
              have HG := Lib.hid (HRE.out true (hT.out (by rw [← hin]; exact ha.out)))
              clear hin
              go_wp2
              go_ret
              rw [HG.out]
              exact ⟨rfl, HBW.out⟩
        · rw [if_pos h3] at HAl
          have hpos : decide (((atL L ul : Nat) : Int) < 0) = false := decide_eq_false (by omega)
          clear hAl h3
          generalize atL L ul = ma at HAl hpos
          go_enter Tryd.func36, Tryd.ntmps36
          go_wp2_with (first
            | (go_at_call 12; refine HV.out.mono ?_; rintro e w' ⟨rfl, rfl⟩)
            | (go_at_call 39; refine HAn.out.mono ?_; clear HAn; rintro e w' ⟨rfl, rfl⟩)
            | (go_at_call 39; refine HAl.out.mono ?_; rintro e w' ⟨rfl, rfl⟩))
          clear HAl HV
          go_loopw [37] (fun vi wr => ∃ i : Nat, vi = .int .i64 (i : Int) ∧ i ≤ um.length ∧ Hid (Below (w.heap.size + 1) (w.alloc (.cells #[.string (mk un), .string (mk ul), .slice q um.length c] 32)) wr) ∧ Hid (∀ j, j < i → memOk L um j = true)) (fun vi _ => um.length - (intOf vi).toNat)
          case atStart => exact ⟨0, rfl, by omega, Below.refl _ _, fun j hj => by omega⟩
          case round =>
            obtain ⟨i, rfl, hi, HW, ha⟩ := hrel
            have hsz := HW.out.size
            simp only [World.size_alloc] at hsz
            have HBW := Lib.hid (HB0.out.trans (HW.out.mono (Nat.le_succ _)))
            by_cases hlt : i < um.length
            · obtain ⟨bb, o', hp, hb', c0'⟩ := HS.out.at_ (wr := wr) (by rw [World.size_alloc]; exact HW.out) hlt
              subst hp
              have y2 := (HW.out.cell (p := ⟨w.heap.size, 2, none⟩) (Nat.lt_succ_self _)).trans HX2.out
              have D := fun n => HA.out (um.getD i []) (wr.drewN n) (below_drewN HBW.out n)
              have ki : (i : Int) < (um.length : Int) := by omega
              have k0 : (0 : Int) ≤ (i : Int) := by omega
              by_cases hh : hasL L (um.getD i []) = true
              · rw [if_pos hh] at D
                have hge : decide (((atL L (um.getD i []) : Nat) : Int) < 0) = false := decide_eq_false (by omega)
                cases i with
                | zero =>
                  have HG := Lib.hid (memOk_go ha.out (memOk_zero hh))
                  have HD := Lib.hid D
                  clear hh D
                  generalize atL L (um.getD 0 []) = mm at HD hge
                  generalize um.getD 0 [] = t at c0' HD
                  rw [Nat.add_zero] at c0'
                  go_wp2
                  go_quiet ((go_at_call 39; with_reducible exact quiet_same (HD.out _)))
                  go_wp2
                  exact ⟨⟨1, rfl, by omega, below_drewN HW.out _, HG⟩, by simp [intOf]; omega⟩
                | succ j =>
                  obtain ⟨bb', o'', hp', hb'', c1'⟩ := HS.out.at_ (wr := wr) (by rw [World.size_alloc]; exact HW.out) (show j < um.length by omega)
                  injection hp' with hp'
                  injection hp' with hp1 hp2
                  subst hp1 hp2
                  have hm := memOk_succ (ms := um) hh
                  have e1 : IntKind.i64.wrap (j : Int) = (j : Int) := IntWalk.i64_in _ (by omega)
                  have e2 : (j : Int) < (um.length : Int) := by omega
                  have e3 : (0 : Int) ≤ (j : Int) := by omega
                  have e4 : ((j + 1 : Nat) : Int) - 1 = (j : Int) := by omega
                  have e5 : decide ((0 : Int) < ((j + 1 : Nat) : Int)) = true := decide_eq_true (by omega)
                  have HD := Lib.hid D
                  by_cases hlq : ltL (um.getD j []) (um.getD (j + 1) []) = true
                  · have HG := Lib.hid (memOk_go ha.out (hm.trans hlq))
                    have hq : Op.bytesLess (mk (um.getD j [])).toList (mk (um.getD (j + 1) [])).toList = true := by rw [mk_toList, mk_toList]; exact hlq
                    clear hh D hm hlq
                    generalize atL L (um.getD (j + 1) []) = mm at HD hge
                    generalize um.getD (j + 1) [] = t at c0' HD hq
                    generalize um.getD j [] = t' at c1' hq
                    go_wp2
                    go_quiet ((go_at_call 39; with_reducible exact quiet_same (HD.out _)))
                    go_wp2
                    go_roundw
                    case rel => exact ⟨j + 1 + 1, by go_num, by omega, below_drewN HW.out _, HG⟩
                    case measure => simp [intOf]; omega
                  · have hlq : ltL (um.getD j []) (um.getD (j + 1) []) = false := by simpa using hlq
                    have HG := Lib.hid (HRE.out false (hN.out _ hlt (hm.trans hlq)))
                    have hq : Op.bytesLess (mk (um.getD j [])).toList (mk (um.getD (j + 1) [])).toList = false := by rw [mk_toList, mk_toList]; exact hlq
                    clear hh D hm hlq
                    generalize atL L (um.getD (j + 1) []) = mm at HD hge
                    generalize um.getD (j + 1) [] = t at c0' HD hq
                    generalize um.getD j [] = t' at c1' hq
                    go_wp2
                    go_quiet ((go_at_call 39; with_reducible exact quiet_same (HD.out _)))
                    go_wp2
                    go_ret
                    rw [HG.out]
                    exact ⟨rfl, below_drewN HBW.out _⟩
              · rw [if_neg hh] at D
                have hh : hasL L (um.getD i []) = false := by simpa using hh
                have HG := Lib.hid (HRE.out false (hN.out _ hlt (memOk_not hh)))
                have HD := Lib.hid D
                clear hh D
                generalize um.getD i [] = t at c0' HD
                go_wp2
                go_quiet ((go_at_call 39; with_reducible exact quiet_same (HD.out _)))
                go_wp2
                go_ret
                rw [HG.out]
                exact ⟨rfl, below_drewN HBW.out _⟩
            · have hin : i = um.length := by omega
              have HG := Lib.hid (HRE.out true (hT.out (by rw [← hin]; exact ha.out)))
              clear hin
              go_wp2
              go_ret
              rw [HG.out]
              exact ⟨rfl, HBW.out⟩
      · have hlead : leadOk L ul = false := by simpa using hlead
        have HRE : Hid (res = 26) := HRES.out false _ hlead rfl
        unfold leadOk at hlead
        rw [Bool.or_eq_false_iff] at hlead
        obtain ⟨h0, h1⟩ := hlead
        rw [h1] at HAl
        have g1 : (mk ul).toList ≠ [] := by rw [mk_toList]; simpa using h0
        have g0 : (mk ul).toList.isEmpty = false := by simp [g1]
        clear HRES h0 h1 hT hN
        go_enter Tryd.func36, Tryd.ntmps36
        go_wp2_with (first
          | (go_at_call 12; refine HV.out.mono ?_; rintro e w' ⟨rfl, rfl⟩)
          | (go_at_call 39; refine HAn.out.mono ?_; clear HAn; rintro e w' ⟨rfl, rfl⟩)
          | (go_at_call 39; refine HAl.out.mono ?_; rintro e w' ⟨rfl, rfl⟩))
        go_ret
        rw [HRE.out]
        exact ⟨rfl, HB0.out⟩
  · have hva : validL un = false := by simpa using hva
    rw [hva] at HV
    have HR := Lib.hid (H25.out hva)
    clear H25 H7 HT hva HAn HAl
    go_enter Tryd.func36, Tryd.ntmps36
    go_wp2_with (go_at_call 12; refine HV.out.mono ?_; rintro e w' ⟨rfl, rfl⟩)
    go_ret
    rw [HR.out]
    exact ⟨rfl, HB0.out⟩
end Go.Proofs.YtadnkbhigcegmaaDoor
