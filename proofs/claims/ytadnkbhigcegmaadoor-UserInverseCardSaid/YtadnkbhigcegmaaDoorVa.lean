/-
  The walks over the statements of layer 5, third part: groups, the leader.
-/
import Derived.Test.YtadnkbhigcegmaaDoorUz
namespace Go.Proofs.YtadnkbhigcegmaaDoor
open Go.RowKit

set_option maxRecDepth 100000 in
set_option maxHeartbeats 6400000 in
theorem userGroups_walk (v : Value) (L : List U) (s1 s2 : ByteArray) (hs1 : s1.size ≤ maxLen) (hs2 : s2.size ≤ maxLen) (W : World) (h : URow W v L) (g : G W) :
    Calls Tryd.prog 5 #[v, .string s1, .string s2] W fun e w' => e = .returned (.bool true) ∧ Below W.heap.size W w' := by
  obtain ⟨x, rfl⟩ := as_mk s1
  obtain ⟨y, rfl⟩ := as_mk s2
  have A := Lib.hid (fun w' (h : Below W.heap.size W w') => awake_any w' (g.below h))
  have S := Lib.hid (small_any v L W h)
  by_cases hbad : smallL L = false ∨ (smallL L = true ∧ 2000 < (mk x).size) ∨ (smallL L = true ∧ (mk x).size ≤ 2000 ∧ 2000 < (mk y).size)
  · clear h
    rcases hbad with hb | ⟨hb, h1⟩ | ⟨hb, h1, h2⟩
    all_goals
      rw [hb] at S
      clear hb
      go_enter Tryd.func5, Tryd.ntmps5
      go_wp2_with (go_at_call 13; refine S.out.mono ?_; rintro e w' ⟨rfl, rfl⟩)
      refine (A.out _ (Below.refl _ _)).mono ?_
      rintro e w2 ⟨rfl, hB⟩
      have HB := Lib.hid hB
      clear hB
      go_wp2
      go_ret
      exact ⟨rfl, HB.out⟩
  · obtain ⟨hs, h1, h2⟩ : smallL L = true ∧ (mk x).size ≤ 2000 ∧ (mk y).size ≤ 2000 := by
      cases hsm : smallL L with
      | false => exact absurd (.inl hsm) hbad
      | true =>
        refine ⟨rfl, ?_, ?_⟩
        · rcases Nat.lt_or_ge 2000 (mk x).size with h | h
          · exact absurd (.inr (.inl ⟨hsm, h⟩)) hbad
          · exact h
        · rcases Nat.lt_or_ge 2000 (mk y).size with h | h
          · rcases Nat.lt_or_ge 2000 (mk x).size with h' | h'
            · exact absurd (.inr (.inl ⟨hsm, h'⟩)) hbad
            · exact absurd (.inr (.inr ⟨hsm, h', h⟩)) hbad
          · exact h
    rw [hs] at S
    have hBig := big_small hs
    have hM := memb_of_big hBig
    have hL := hBig.1
    have F := Lib.hid (fun w' (hB : Below W.heap.size W w') => Find_any v L x w' (h.below hB) hL hM)
    have RF := Lib.hid (fun w' (hB : Below W.heap.size W w') => RFind_any v L x w' (h.below hB) hL)
    have M := Lib.hid (fun w' (hB : Below W.heap.size W w') => Member_any v L x y w' (h.below hB) hL hM)
    have RM := Lib.hid (fun w' (hB : Below W.heap.size W w') => RMember_any v L x y w' (h.below hB) hL hM)
    have Le := Lib.hid (fun w' (hB : Below W.heap.size W w') => Leads_any v L x y w' (h.below hB) hL hM)
    have RL := Lib.hid (fun w' (hB : Below W.heap.size W w') => RLeads_any v L x y w' (h.below hB) hL hM)
    have MS := Lib.hid (fun w' (hB : Below W.heap.size W w') => Member_any v L x x w' (h.below hB) hL hM)
    have hself : memberL L x x = true := by unfold memberL; simp
    rw [hself] at MS
    have hml : (findL L x).m.length ≤ 1000000 := hM _
    generalize memberL L x y = mb at M RM
    generalize leadsL L x y = lb at Le RL
    generalize findL L x = u at F RF hml
    generalize hasL L x = ok at F RF
    clear hs hbad hBig hM hL hself h
    obtain ⟨un, ul, um⟩ := u
    dsimp only at F RF hml
    go_enter Tryd.func5, Tryd.ntmps5
    go_wp2_with (go_at_call 13; refine S.out.mono ?_; rintro e w' ⟨rfl, rfl⟩)
    refine (F.out _ (Below.refl _ _)).mono ?_
    rintro e w1 ⟨mv1, rfl, hr1, hB1⟩
    obtain ⟨q1, c1, rfl, _⟩ := id hr1
    have ha1 := (Below.refl w1.heap.size w1).alloc (Nat.le_refl _) (.cells #[.string (mk un), .string (mk ul), .slice q1 um.length c1] 32)
    have HB1 := Lib.hid (hB1.trans (ha1.mono hB1.size))
    have HR1 := Lib.hid (hr1.below ha1)
    have hx1 := heap_alloc_new w1 (.cells #[.string (mk un), .string (mk ul), .slice q1 um.length c1] 32 (0, 0))
    have HX1 := Lib.hid hx1
    clear hr1 hB1 ha1 hx1
    go_wp2_with fail
    refine (RF.out _ HB1.out).mono ?_
    rintro e w2 ⟨mv2, rfl, hr2, hB2⟩
    obtain ⟨q2, c2, rfl, _⟩ := id hr2
    have ha2 := (Below.refl w2.heap.size w2).alloc (Nat.le_refl _) (.cells #[.string (mk un), .string (mk ul), .slice q2 um.length c2] 32)
    have hB12 := hB2.trans (ha2.mono hB2.size)
    have HB2 := Lib.hid (HB1.out.trans (hB12.mono HB1.out.size))
    have hx2 := heap_alloc_new w2 (.cells #[.string (mk un), .string (mk ul), .slice q2 um.length c2] 32 (0, 0))
    have hx1 := (hB12.block w1.heap.size (by simp)).trans HX1.out
    have SU := Lib.hid (SameUser_any ⟨un, ul, um⟩ ⟨un, ul, um⟩ q1 c1 q2 c2 _ (HR1.out.below hB12) (hr2.below hB12) hml)
    rw [decide_eq_true (rfl : (⟨un, ul, um⟩ : U) = ⟨un, ul, um⟩)] at SU
    dsimp only at SU
    have hlt12 : w1.heap.size < w2.heap.size := by have := hB2.size; simp at this; omega
    have d0 := blk3_0 (w := w2) ((hB2.block w1.heap.size (by simp)).trans HX1.out)
    have d1 := blk3_1 (w := w2) ((hB2.block w1.heap.size (by simp)).trans HX1.out)
    have d2 := blk3_2 (w := w2) ((hB2.block w1.heap.size (by simp)).trans HX1.out)
    clear hr2 hB2 ha2 hB12 hx2 hx1
    go_wp2_with fail
    refine SU.out.mono ?_
    rintro e w3 ⟨rfl, hB3⟩
    have HB3 := Lib.hid (HB2.out.trans (hB3.mono HB2.out.size))
    clear hB3 d0 d1 d2
    go_wp2_with fail
    refine (M.out _ HB3.out).mono ?_
    rintro e w4 ⟨rfl, hB4⟩
    have HB4 := Lib.hid (HB3.out.trans (hB4.mono HB3.out.size))
    clear hB4
    go_wp2_with fail
    refine (RM.out _ HB4.out).mono ?_
    rintro e w5 ⟨rfl, hB5⟩
    have HB5 := Lib.hid (HB4.out.trans (hB5.mono HB4.out.size))
    clear hB5
    go_wp2_with fail
    refine (Le.out _ HB5.out).mono ?_
    rintro e w6 ⟨rfl, hB6⟩
    have HB6 := Lib.hid (HB5.out.trans (hB6.mono HB5.out.size))
    clear hB6
    go_wp2_with fail
    refine (RL.out _ HB6.out).mono ?_
    rintro e w7 ⟨rfl, hB7⟩
    have HB7 := Lib.hid (HB6.out.trans (hB7.mono HB6.out.size))
    clear hB7
    go_wp2_with fail
    refine (MS.out _ HB7.out).mono ?_
    rintro e w8 ⟨rfl, hB8⟩
    have HB8 := Lib.hid (HB7.out.trans (hB8.mono HB7.out.size))
    clear hB8
    go_wp2_with fail
    refine (A.out _ HB8.out).mono ?_
    rintro e w9 ⟨rfl, hB9⟩
    have HB9 := Lib.hid (HB8.out.trans (hB9.mono HB8.out.size))
    clear hB9
    go_wp2
    go_ret
    exact ⟨rfl, HB9.out⟩

set_option maxRecDepth 100000 in
set_option maxHeartbeats 6400000 in
theorem userLeader_walk (v : Value) (L : List U) (ki : Int) (hki : -9223372036854775808 ≤ ki ∧ ki ≤ 9223372036854775807) (s1 : ByteArray) (hs1 : s1.size ≤ maxLen) (W : World) (h : URow W v L) (g : G W) :
    Calls Tryd.prog 9 #[v, .int .i64 ki, .string s1] W fun e w' => e = .returned (.bool true) ∧ Below W.heap.size W w' := by
  obtain ⟨x, rfl⟩ := as_mk s1
  have A := Lib.hid (fun w' (h : Below W.heap.size W w') => awake_any w' (g.below h))
  have S := Lib.hid (small_any v L W h)
  have HU := Lib.hid h
  obtain ⟨p0, cap0, hv, hcap0, hcm0, _⟩ := id h
  by_cases hbad : smallL L = false ∨ (smallL L = true ∧ 2000 < (mk x).size) ∨ (smallL L = true ∧ (mk x).size ≤ 2000 ∧ ki < 0) ∨ (smallL L = true ∧ (mk x).size ≤ 2000 ∧ ¬ ki < 0 ∧ (L.length : Int) ≤ ki)
  · subst hv
    clear h
    rcases hbad with hb | ⟨hb, h1⟩ | ⟨hb, h1, h2⟩ | ⟨hb, h1, h2, h3⟩
    all_goals
      rw [hb] at S
      clear hb
      go_enter Tryd.func9, Tryd.ntmps9
      go_wp2_with (go_at_call 13; refine S.out.mono ?_; rintro e w' ⟨rfl, rfl⟩)
      refine (A.out _ (Below.refl _ _)).mono ?_
      rintro e w2 ⟨rfl, hB⟩
      have HB := Lib.hid hB
      clear hB
      go_wp2
      go_ret
      exact ⟨rfl, HB.out⟩
  · obtain ⟨hs, h1, h2, h3⟩ : smallL L = true ∧ (mk x).size ≤ 2000 ∧ ¬ ki < 0 ∧ ¬ (L.length : Int) ≤ ki := by
      simp only [not_or, not_and] at hbad
      obtain ⟨b1, b2, b3, b4⟩ := hbad
      have hs : smallL L = true := by simpa using b1
      have c2 : (mk x).size ≤ 2000 := Nat.le_of_not_lt (b2 hs)
      exact ⟨hs, c2, b3 hs c2, b4 hs c2 (b3 hs c2)⟩
    clear hbad
    rw [hs] at S
    have hBig := big_small hs
    have hM := memb_of_big hBig
    have hL := hBig.1
    have C := Lib.hid (fun w' (hB : Below W.heap.size W w') => Check_any v L w' (h.below hB) hBig)
    obtain ⟨k, rfl⟩ : ∃ k : Nat, ki = (k : Int) := ⟨ki.toNat, by omega⟩
    have hkl : k < L.length := by omega
    have k0 : (0 : Int) ≤ (k : Int) := by omega
    have k1 : (k : Int) < (L.length : Int) := by omega
    clear h3
    by_cases hc : checkL L = 0
    · have Le := Lib.hid (fun w' (hB : Below W.heap.size W w') => Leads_any v L x (getL L k).n w' (h.below hB) hL hM)
      have M := Lib.hid (fun w' (hB : Below W.heap.size W w') => Member_any v L x (getL L k).n w' (h.below hB) hL hM)
      rw [leads_valid hc hkl] at Le
      rw [hc] at C
      obtain ⟨b, o, cap, q, c, rfl, hb, hcl, c0, c1, c2, hqc, hsr⟩ := h.at_ (Below.refl _ _) hkl
      have HC0 := Lib.hid (fun wr (hB : Below W.heap.size W wr) => (hB.cell (p := ⟨b, o + k * 3, none⟩) hb).trans c0)
      have HC1 := Lib.hid (fun wr (hB : Below W.heap.size W wr) => (hB.cell (p := ⟨b, o + k * 3 + 1, none⟩) hb).trans c1)
      clear hs hBig hM hL hc h hv hsr c0 c1 c2
      generalize memberL L x (getL L k).n = mb at Le M
      generalize getL L k = uk at *
      obtain ⟨un, ul, um⟩ := uk
      dsimp only at Le M HC0 HC1
      by_cases hul : ul = []
      · rw [if_pos hul] at Le
        have t1 : (mk ul).toList = [] := by rw [mk_toList]; exact hul
        have t2 : (mk ul).toList.isEmpty = true := by rw [t1]; rfl
        clear hul
        go_enter Tryd.func9, Tryd.ntmps9
        go_wp2_with (go_at_call 13; refine S.out.mono ?_; rintro e w' ⟨rfl, rfl⟩)
        refine (C.out _ (Below.refl _ _)).mono ?_
        rintro e w1 ⟨rfl, hB1⟩
        have HB1 := Lib.hid hB1
        have d0 := HC0.out _ hB1
        have d1 := HC1.out _ hB1
        clear hB1
        go_wp2_with fail
        refine (Le.out _ HB1.out).mono ?_
        rintro e w2 ⟨rfl, hB2⟩
        have hB2' := HB1.out.trans (hB2.mono HB1.out.size)
        have HB2 := Lib.hid hB2'
        clear d0 d1
        have d0 := HC0.out _ hB2'
        have d1 := HC1.out _ hB2'
        clear hB2 hB2'
        go_wp2_with fail
        refine (M.out _ HB2.out).mono ?_
        rintro e w3 ⟨rfl, hB3⟩
        have HB3 := Lib.hid (HB2.out.trans (hB3.mono HB2.out.size))
        clear hB3 d0 d1
        go_wp2_with fail
        refine (A.out _ HB3.out).mono ?_
        rintro e w4 ⟨rfl, hB4⟩
        have HB4 := Lib.hid (HB3.out.trans (hB4.mono HB3.out.size))
        clear hB4
        go_wp2
        go_ret
        exact ⟨rfl, HB4.out⟩
      · rw [if_neg hul] at Le
        have t1 : (mk ul).toList ≠ [] := by rw [mk_toList]; exact hul
        have t2 : (mk ul).toList.isEmpty = false := List.isEmpty_eq_false_iff.2 t1
        have hbe : ((mk x).toList == (mk ul).toList) = (ul == x) := by
          rw [mk_toList, mk_toList, Bool.eq_iff_iff, beq_iff_eq, beq_iff_eq]
          exact eq_comm
        generalize (ul == x) = bb at Le hbe
        clear hul
        go_enter Tryd.func9, Tryd.ntmps9
        go_wp2_with (go_at_call 13; refine S.out.mono ?_; rintro e w' ⟨rfl, rfl⟩)
        refine (C.out _ (Below.refl _ _)).mono ?_
        rintro e w1 ⟨rfl, hB1⟩
        have HB1 := Lib.hid hB1
        have d0 := HC0.out _ hB1
        have d1 := HC1.out _ hB1
        clear hB1
        go_wp2_with fail
        refine (Le.out _ HB1.out).mono ?_
        rintro e w2 ⟨rfl, hB2⟩
        have hB2' := HB1.out.trans (hB2.mono HB1.out.size)
        have HB2 := Lib.hid hB2'
        clear d0 d1
        have d0 := HC0.out _ hB2'
        have d1 := HC1.out _ hB2'
        clear hB2 hB2'
        go_wp2_with fail
        refine (A.out _ HB2.out).mono ?_
        rintro e w4 ⟨rfl, hB4⟩
        have HB4 := Lib.hid (HB2.out.trans (hB4.mono HB2.out.size))
        clear hB4
        go_wp2
        go_ret
        exact ⟨rfl, HB4.out⟩
    · generalize checkL L = ch at C hc
      have hne : (ch != 0) = true := by simpa using hc
      subst hv
      clear hs hBig hM hL hc h
      go_enter Tryd.func9, Tryd.ntmps9
      go_wp2_with (go_at_call 13; refine S.out.mono ?_; rintro e w' ⟨rfl, rfl⟩)
      refine (C.out _ (Below.refl _ _)).mono ?_
      rintro e w1 ⟨rfl, hB1⟩
      have HB1 := Lib.hid hB1
      clear hB1
      go_wp2_with fail
      refine (A.out _ HB1.out).mono ?_
      rintro e w2 ⟨rfl, hB2⟩
      have HB2 := Lib.hid (HB1.out.trans (hB2.mono HB1.out.size))
      clear hB2
      go_wp2
      go_ret
      exact ⟨rfl, HB2.out⟩
end Go.Proofs.YtadnkbhigcegmaaDoor
