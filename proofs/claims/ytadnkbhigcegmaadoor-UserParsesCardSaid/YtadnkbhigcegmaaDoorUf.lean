/-
  Member, Leads, Find: the program's and the reference's.
-/
import Derived.Test.YtadnkbhigcegmaaDoorShelf
import Derived.Test.YtadnkbhigcegmaaDoorUe
namespace Go.Proofs.YtadnkbhigcegmaaDoor
open Go.RowKit

theorem SRow.cells {w : World} {q : Option Addr} {c : Nat} {M : List (List UInt8)} (h : SRow w (.slice q M.length c) M) (h0 : M ≠ []) : ∃ b o, q = some ⟨b, o, none⟩ ∧ b < w.heap.size ∧ ∀ j (hj : j < M.length), w.cell? ⟨b, o + j, none⟩ = some (sv M[j]) := by
  obtain ⟨p, cap, hv, _, _, h⟩ := h
  injection hv with h1 h2 h3
  subst h1
  exact h h0
theorem mk_zs {M : List (List UInt8)} {j : Nat} (hj : j < M.length) : Value.string ((M.map mk).getD j ByteArray.empty) = sv M[j] := by
  simp [hj, sv]
theorem containsS_mk (M : List (List UInt8)) (x : List UInt8) : Lib.containsS (M.map mk) (mk x) = M.contains x := by
  rw [Bool.eq_iff_iff, Lib.containsS_iff, List.contains_iff_mem]
  constructor
  · intro h
    obtain ⟨y, hy, e⟩ := List.mem_map.1 h
    rw [← mk_inj e]; exact hy
  · intro h; exact List.mem_map.2 ⟨x, h, rfl⟩
theorem Contains_any (q : Option Addr) (c : Nat) (M : List (List UInt8)) (x : List UInt8) (w : World) (h : SRow w (.slice q M.length c) M) (hl : M.length ≤ 1000000) :
    Calls Tryd.prog 40 #[.slice q M.length c, .string (mk x)] w fun e w' => e = .returned (.bool (M.contains x)) ∧ w = w' := by
  by_cases h0 : M = []
  · subst h0
    refine (Tryd.slices_Contains_string_empty q c (mk x) w).mono ?_
    rintro e w' ⟨rfl, rfl⟩
    exact ⟨rfl, rfl⟩
  · obtain ⟨b, o, rfl, hb, hc⟩ := h.cells h0
    refine (Tryd.slices_Contains_string b o M.length c (M.map mk) (mk x) w (by simp) (by omega) (fun j hj => by rw [mk_zs (by simpa using hj)]; exact hc j (by simpa using hj))).mono ?_
    rintro e w' ⟨rfl, rfl⟩
    rw [List.take_of_length_le (by simp), containsS_mk]
    exact ⟨rfl, rfl⟩
theorem own_set {w : World} {B : Nat} {e : TypeId} {sz : Nat} {v : Value} {n : Nat} {xs : List Value} (h : w.ownsRow B e sz v n xs) (p : Addr) (hp : p.block < B) (u : Value) : (w.setCell p u).ownsRow B e sz v n xs :=
  h.kept (row := some p.block) ⟨rfl, rfl, rfl, by simp [World.setCell], fun k _ hk => Below.heap_setCell w p u k (fun e => hk (by rw [e]))⟩ (.inr fun e => by have := (h.lt _ e).1; omega)
theorem Clone_any (q : Option Addr) (c : Nat) (M : List (List UInt8)) (w : World) (h : SRow w (.slice q M.length c) M) (hl : M.length ≤ 1000000) :
    Calls Tryd.prog 38 #[.slice q M.length c] w fun e w' => ∃ q' c', e = .returned (.slice q' M.length c') ∧ w'.ownsRow w.heap.size 9 1 (.slice q' M.length c') M.length (M.map sv) ∧ Below w.heap.size w w' := by
  by_cases h0 : M = []
  · subst h0
    cases q with
    | none =>
      refine (Tryd.slices_Clone_string_nil 0 c w).mono ?_
      rintro e w' ⟨rfl, rfl⟩
      exact ⟨none, 0, rfl, World.ownsRow_nil _ _ _ _, Below.refl _ _⟩
    | some a =>
      refine (Tryd.slices_Clone_string_zero a c w).mono ?_
      rintro e w' ⟨v', rfl, hown, _, hB⟩
      obtain ⟨p, cap, rfl, _⟩ := SRow.of_own (L := []) hown
      exact ⟨p, cap, rfl, hown, hB⟩
  · obtain ⟨b, o, rfl, hb, hc⟩ := h.cells h0
    refine (Tryd.slices_Clone_string b o M.length c (M.map mk) w (by simp) (by omega) (fun j hj => by rw [mk_zs (by simpa using hj)]; exact hc j (by simpa using hj))).mono ?_
    rintro e w' ⟨v', rfl, hown, _, hB⟩
    rw [List.take_of_length_le (by simp), List.map_map] at hown
    obtain ⟨p, cap, rfl, _⟩ := SRow.of_own (L := M) hown
    exact ⟨p, cap, rfl, hown, hB⟩

/-- Every user's members are at most n. -/
def Memb (L : List U) (n : Nat) : Prop := ∀ k, (getL L k).m.length ≤ n

set_option maxHeartbeats 1600000 in
theorem Find_any (v : Value) (L : List U) (x : List UInt8) (w : World) (h : URow w v L) (hl : L.length ≤ 100000) (hm : Memb L 1000000) :
    Calls Tryd.prog 18 #[v, .string (mk x)] w fun e w' => ∃ mv, e = .returned (.tuple #[.agg #[.string (mk (findL L x).n), .string (mk (findL L x).l), mv], .bool (hasL L x)]) ∧ SRow w' mv (findL L x).m ∧ Below w.heap.size w w' := by
  have hB0 : Below w.heap.size w (w.alloc (.cells #[.string ⟨#[]⟩, .string ⟨#[]⟩, .slice none 0 0] 32)) := (Below.refl _ w).alloc (Nat.le_refl _) _
  have N := Lib.hid (named_any v L x _ (h.below hB0) hl)
  have HB0 := Lib.hid hB0
  have hml : (findL L x).m.length ≤ 1000000 := hm _
  generalize findL L x = u at N hml ⊢
  generalize hasL L x = r at N ⊢
  clear hB0 h hm
  have HX := Lib.hid (heap_alloc_new w (.cells #[.string ⟨#[]⟩, .string ⟨#[]⟩, .slice none 0 0] 32 (0, 0)))
  obtain ⟨un, ul, um⟩ := u
  go_enter Tryd.func18, Tryd.ntmps18
  go_wp2_with fail
  refine N.out.mono ?_
  rintro e w1 ⟨mv, rfl, hs, hB⟩
  obtain ⟨q, c, rfl, hqc, hqm, hq⟩ := id hs
  have hs1 := hs.below hB
  have hz0 := HB0.out.size
  have hz1 := hB.size
  have HBa := Lib.hid (HB0.out.trans (hB.mono hz0))
  have hx1 := (hB.block w.heap.size (by simp)).trans HX.out
  have ha2 := (Below.refl w1.heap.size w1).alloc (Nat.le_refl _) (.cells #[.string (mk un), .string (mk ul), .slice q um.length c] 32)
  have C := Lib.hid (Clone_any q c um _ (hs1.below ha2) hml)
  have hx2 := (ha2.block w.heap.size (by simp at hz1; omega)).trans hx1
  have hy2 := heap_alloc_new w1 (.cells #[.string (mk un), .string (mk ul), .slice q um.length c] 32 (0, 0))
  have HA2 := Lib.hid ha2
  have HX2 := Lib.hid hx2
  have HY2 := Lib.hid hy2
  have hz1' : w.heap.size < w1.heap.size := by simp at hz1; omega
  clear hs hB hs1 hx1 ha2 hx2 hy2 hz0 hz1 hq N HX
  go_wp2_with fail
  refine C.out.mono ?_
  rintro e w3 ⟨q', c', rfl, hs3, hB3⟩
  have hz3 := hB3.size
  have hx3 := (hB3.block w.heap.size (by simp; omega)).trans HX2.out
  have hy3 := (hB3.block w1.heap.size (by simp)).trans HY2.out
  have HB3 := Lib.hid hB3
  have HS3 := Lib.hid hs3
  have z0 := blk3_0 hx3
  have z1 := blk3_1 hx3
  have z2 := blk3_2 hx3
  have f0 := blk3_f hx3 0
  have f1 := blk3_f hx3 1
  have f2 := blk3_f hx3 2
  have y0 := blk3_0 hy3
  have y1 := blk3_1 hy3
  have y2 := blk3_2 hy3
  have g2 := blk3_f hy3 2
  have HX3 := Lib.hid hx3
  have HY3 := Lib.hid hy3
  have hne : w1.heap.size ≠ w.heap.size := by omega
  have hne' : w.heap.size ≠ w1.heap.size := by omega
  clear hx3 hy3 hB3 hs3 C HX2 HY2
  go_wp2
  refine bodyPost_ret (results_user rfl rfl (blk3_set ((Below.heap_setCell _ _ _ _ hne').trans HX3.out) _ _ _)) rfl ?_
  refine ⟨_, rfl, SRow.of_own (own_set (own_set (own_set (own_set HS3.out _ (by simp) _) _ (by simp; omega) _) _ (by simp; omega) _) _ (by simp; omega) _), ?_⟩
  refine below_set3 (Below.setCell (p := ⟨w1.heap.size, 2, none⟩) ?_ (by show w.heap.size ≤ w1.heap.size; omega) _) (Nat.le_refl _) _ _ _
  exact HBa.out.trans ((HA2.out.trans (HB3.out.mono (by simp))).mono (by omega))

theorem getD_at {M : List (List UInt8)} {k : Nat} (h : k < M.length) : M.getD k [] = M[k] := by simp [h]
/-- Cells of a row, by getD. -/
theorem SRow.at_ {w wr : World} {q : Option Addr} {c : Nat} {M : List (List UInt8)} (h : SRow w (.slice q M.length c) M) (hB : Below w.heap.size w wr) {k : Nat} (hk : k < M.length) :
    ∃ b o, q = some ⟨b, o, none⟩ ∧ b < w.heap.size ∧ wr.cell? ⟨b, o + k, none⟩ = some (.string (mk (M.getD k []))) := by
  obtain ⟨b, o, rfl, hb, hc⟩ := h.cells (by rintro rfl; simp at hk)
  exact ⟨b, o, rfl, hb, (hB.cell (p := ⟨b, o + k, none⟩) hb).trans (by rw [getD_at hk]; exact hc k hk)⟩

set_option maxHeartbeats 1600000 in
theorem Member_any (v : Value) (L : List U) (x g : List UInt8) (w : World) (h : URow w v L) (hl : L.length ≤ 100000) (hm : Memb L 1000000) :
    Calls Tryd.prog 21 #[v, .string (mk x), .string (mk g)] w fun e w' => e = .returned (.bool (memberL L x g)) ∧ Below w.heap.size w w' := by
  have N := Lib.hid (named_any v L g _ h hl)
  have hr : memberL L x g = ((x == g) || (hasL L g && (findL L g).m.contains x)) := by
    unfold memberL
    by_cases hh : hasL L g = true
    · rw [hh, Bool.true_and]
    · have hlt : atL L g = L.length := by
        unfold hasL at hh
        have := atL_le L g
        simp at hh
        omega
      have : (findL L g).m = [] := by rw [findL, hlt, getL_out]; rfl
      rw [this]; simp
  have HR := Lib.hid hr
  have hml : (findL L g).m.length ≤ 1000000 := hm _
  generalize memberL L x g = res at HR ⊢
  generalize findL L g = u at N hml HR
  generalize hasL L g = r at N HR
  obtain ⟨un, ul, um⟩ := u
  clear hr h hm
  by_cases hq : x = g
  · have hq1 : ((mk x).toList == (mk g).toList) = true := by rw [hq]; simp
    have HR2 : Hid (res = true) := by rw [Hid, HR.out, hq]; simp
    clear hq HR N
    go_enter Tryd.func21, Tryd.ntmps21
    go_wp2
    go_ret
    rw [HR2.out]
    exact ⟨rfl, Below.refl _ _⟩
  · have hq1 : ((mk x).toList == (mk g).toList) = false := by rw [mk_toList, mk_toList]; simpa using hq
    have HR2 : Hid (res = (r && um.contains x)) := by rw [Hid, HR.out, beq_false_of_ne hq]; simp
    clear hq HR
    go_enter Tryd.func21, Tryd.ntmps21
    go_wp2_with fail
    refine N.out.mono ?_
    rintro e w1 ⟨mv, rfl, hs, hB⟩
    obtain ⟨q, c, rfl, hqc, hqm, hq⟩ := id hs
    have hz1 := hB.size
    have ha := (Below.refl w1.heap.size w1).alloc (Nat.le_refl _) (.cells #[.string (mk un), .string (mk ul), .slice q um.length c] 32)
    have C := Lib.hid (Contains_any q c um x _ ((hs.below hB).below ha) hml)
    have HB := Lib.hid (hB.trans (ha.mono hz1))
    clear hs hB ha hq N
    cases r with
    | false =>
      clear C
      go_wp2
      go_ret
      rw [HR2.out]
      exact ⟨rfl, HB.out⟩
    | true =>
      generalize um.contains x = bb at C HR2
      go_wp2_with (go_at_call 40; refine C.out.mono ?_; rintro e w' ⟨rfl, rfl⟩)
      go_ret
      rw [HR2.out]
      exact ⟨rfl, HB.out⟩

set_option maxHeartbeats 1600000 in
theorem Leads_any (v : Value) (L : List U) (x g : List UInt8) (w : World) (h : URow w v L) (hl : L.length ≤ 100000) (hm : Memb L 1000000) :
    Calls Tryd.prog 23 #[v, .string (mk x), .string (mk g)] w fun e w' => e = .returned (.bool (leadsL L x g)) ∧ Below w.heap.size w w' := by
  have N := Lib.hid (named_any v L g _ h hl)
  have M := Lib.hid (fun wr (hB : Below w.heap.size w wr) => Member_any v L x g wr (h.below hB) hl hm)
  have hr : leadsL L x g = if (findL L g).l = [] then memberL L x g else (findL L g).l == x := rfl
  have hn : hasL L g = false → (findL L g).l = [] := by
    intro hh
    have hlt : atL L g = L.length := by
      unfold hasL at hh
      have := atL_le L g
      simp at hh
      omega
    rw [findL, hlt, getL_out]; rfl
  have HR := Lib.hid hr
  have HN := Lib.hid hn
  generalize leadsL L x g = res at HR ⊢
  generalize memberL L x g = mem at HR M
  generalize findL L g = u at N HR HN
  generalize hasL L g = r at N HN
  obtain ⟨un, ul, um⟩ := u
  clear hr hn h hm
  by_cases hq : ul = []
  · have HR2 : Hid (res = mem) := by rw [Hid, HR.out]; exact if_pos hq
    have hq1 : (mk ul).toList = [] := by rw [mk_toList]; exact hq
    have hq2 : (mk ul).toList.isEmpty = true := by simp [hq1]
    clear hq HR HN
    go_enter Tryd.func23, Tryd.ntmps23
    go_wp2_with fail
    refine N.out.mono ?_
    rintro e w1 ⟨mv, rfl, hs, hB⟩
    obtain ⟨q, c, rfl, hqc, hqm, hq⟩ := id hs
    have ha := hB.trans (((Below.refl w1.heap.size w1).alloc (Nat.le_refl _) (.cells #[.string (mk un), .string (mk ul), .slice q um.length c] 32)).mono hB.size)
    have HM := Lib.hid (M.out _ ha)
    have HB := Lib.hid ha
    clear hs hB ha hq N M
    cases r
    all_goals
      go_wp2_with (go_at_call 21; refine HM.out.mono ?_)
      rintro e w' ⟨rfl, hB2⟩
      have HB2 := Lib.hid (HB.out.trans (hB2.mono HB.out.size))
      clear hB2
      go_wp2
      go_ret
      rw [HR2.out]
      exact ⟨rfl, HB2.out⟩
  · have HR2 : Hid (res = (ul == x)) := by rw [Hid, HR.out]; exact if_neg hq
    have hq1 : (mk ul).toList ≠ [] := by rw [mk_toList]; exact hq
    have hq2 : (mk ul).toList.isEmpty = false := by simp [hq1]
    have hrt : r = true := by
      cases r with
      | true => rfl
      | false => exact absurd (HN.out rfl) hq
    subst hrt
    have hx : ((mk ul).toList == (mk x).toList) = (ul == x) := by rw [mk_toList, mk_toList]
    have HX := Lib.hid hx
    clear hq HR HN M hx
    go_enter Tryd.func23, Tryd.ntmps23
    go_wp2_with fail
    refine N.out.mono ?_
    rintro e w1 ⟨mv, rfl, hs, hB⟩
    obtain ⟨q, c, rfl, hqc, hqm, hq⟩ := id hs
    have ha := hB.trans (((Below.refl w1.heap.size w1).alloc (Nat.le_refl _) (.cells #[.string (mk un), .string (mk ul), .slice q um.length c] 32)).mono hB.size)
    have HB := Lib.hid ha
    clear hs hB ha hq N
    go_wp2
    go_ret
    rw [HR2.out, HX.out]
    exact ⟨rfl, HB.out⟩

theorem cont_go {M : List (List UInt8)} {x : List UInt8} {k : Nat} (h : ∀ j, j < k → M.getD j [] ≠ x) (he : M.getD k [] ≠ x) : ∀ j, j < k + 1 → M.getD j [] ≠ x := fun j hj => by
  by_cases e : j = k
  · subst e; exact he
  · exact h j (by omega)
theorem cont_hit {M : List (List UInt8)} {x : List UInt8} {k : Nat} (hk : k < M.length) (he : M.getD k [] = x) : M.contains x = true := by
  rw [List.contains_iff_mem, ← he, getD_at hk]; exact List.getElem_mem _
theorem cont_end {M : List (List UInt8)} {x : List UInt8} (h : ∀ j, j < M.length → M.getD j [] ≠ x) : M.contains x = false := by
  rw [Bool.eq_false_iff]
  intro hc
  rw [List.contains_iff_mem] at hc
  obtain ⟨j, hj, e⟩ := List.getElem_of_mem hc
  exact h j hj (by rw [getD_at hj]; exact e)

set_option maxHeartbeats 1600000 in
theorem RMember_any (v : Value) (L : List U) (x g : List UInt8) (w : World) (h : URow w v L) (hl : L.length ≤ 100000) (hm : Memb L 1000000) :
    Calls Tryd.prog 22 #[v, .string (mk x), .string (mk g)] w fun e w' => e = .returned (.bool (memberL L x g)) ∧ Below w.heap.size w w' := by
  have N := Lib.hid (RFind_any v L g _ h hl)
  have hr : memberL L x g = ((x == g) || (findL L g).m.contains x) := rfl
  have HR := Lib.hid hr
  have hml : (findL L g).m.length ≤ 1000000 := hm _
  generalize memberL L x g = res at HR ⊢
  generalize findL L g = u at N hml HR
  generalize hasL L g = r at N
  obtain ⟨un, ul, um⟩ := u
  clear hr h hm
  by_cases hq : x = g
  · have hq1 : ((mk x).toList == (mk g).toList) = true := by rw [hq]; simp
    have HR2 : Hid (res = true) := by rw [Hid, HR.out, hq]; simp
    clear hq HR N
    go_enter Tryd.func22, Tryd.ntmps22
    go_wp2
    go_ret
    rw [HR2.out]
    exact ⟨rfl, Below.refl _ _⟩
  · have hq1 : ((mk x).toList == (mk g).toList) = false := by rw [mk_toList, mk_toList]; simpa using hq
    have HR2 : Hid (res = um.contains x) := by rw [Hid, HR.out, beq_false_of_ne hq]; simp
    clear hq HR
    go_enter Tryd.func22, Tryd.ntmps22
    go_wp2_with fail
    refine N.out.mono ?_
    rintro e w1 ⟨mv, rfl, hs, hB⟩
    obtain ⟨q, c, rfl, hqc, hqm, hq⟩ := id hs
    have hz1 := hB.size
    have ha := (Below.refl w1.heap.size w1).alloc (Nat.le_refl _) (.cells #[.string (mk un), .string (mk ul), .slice q um.length c] 32)
    have HS := Lib.hid ((hs.below hB).below ha)
    have HB := Lib.hid (hB.trans (ha.mono hz1))
    have hcb : (um.length : Int) ≤ (c : Int) := by omega
    clear hs hB ha hq N
    go_wp2
    go_loop [22] (fun vi => ∃ k : Nat, vi = .int .i64 (k : Int) ∧ k ≤ um.length ∧ Hid (∀ j, j < k → um.getD j [] ≠ x)) (fun vi => um.length - (intOf vi).toNat)
    case atStart => exact ⟨0, rfl, by omega, fun j hj => by omega⟩
    case round =>
      obtain ⟨k, rfl, hk, ha⟩ := hrel
      by_cases hlt : k < um.length
      · obtain ⟨b, o, hp, hb, c0⟩ := HS.out.at_ (Below.refl _ _) hlt
        subst hp
        by_cases hn : um.getD k [] = x
        · have hq : ((mk (um.getD k [])).toList == (mk x).toList) = true := by rw [hn]; simp
          have HA := Lib.hid (cont_hit hlt hn)
          clear hn
          generalize um.getD k [] = t at c0 hq
          go_wp2
          go_ret
          rw [HR2.out, HA.out]
          exact ⟨rfl, HB.out⟩
        · have hq : ((mk (um.getD k [])).toList == (mk x).toList) = false := by rw [mk_toList, mk_toList]; simpa using hn
          have HA := Lib.hid (cont_go ha.out hn)
          clear hn
          generalize um.getD k [] = t at c0 hq
          go_wp2
          exact ⟨⟨k + 1, by go_num, by omega, HA⟩, by simp [intOf]; omega⟩
      · have hkn : k = um.length := by omega
        have HA := Lib.hid (cont_end (by rw [← hkn]; exact ha.out))
        clear hkn
        go_wp2
        go_ret
        rw [HR2.out, HA.out]
        exact ⟨rfl, HB.out⟩

set_option maxHeartbeats 1600000 in
theorem RLeads_any (v : Value) (L : List U) (x g : List UInt8) (w : World) (h : URow w v L) (hl : L.length ≤ 100000) (hm : Memb L 1000000) :
    Calls Tryd.prog 24 #[v, .string (mk x), .string (mk g)] w fun e w' => e = .returned (.bool (leadsL L x g)) ∧ Below w.heap.size w w' := by
  have N := Lib.hid (RFind_any v L g _ h hl)
  have M := Lib.hid (fun wr (hB : Below w.heap.size w wr) => RMember_any v L x g wr (h.below hB) hl hm)
  have hr : leadsL L x g = if (findL L g).l = [] then memberL L x g else (findL L g).l == x := rfl
  have HR := Lib.hid hr
  generalize leadsL L x g = res at HR ⊢
  generalize memberL L x g = mem at HR M
  generalize findL L g = u at N HR
  generalize hasL L g = r at N
  obtain ⟨un, ul, um⟩ := u
  clear hr h hm
  by_cases hq : ul = []
  · have HR2 : Hid (res = mem) := by rw [Hid, HR.out]; exact if_pos hq
    have hq1 : (mk ul).toList = [] := by rw [mk_toList]; exact hq
    have hq2 : (mk ul).toList.isEmpty = true := by simp [hq1]
    clear hq HR
    go_enter Tryd.func24, Tryd.ntmps24
    go_wp2_with fail
    refine N.out.mono ?_
    rintro e w1 ⟨mv, rfl, hs, hB⟩
    obtain ⟨q, c, rfl, hqc, hqm, hq⟩ := id hs
    have ha := hB.trans (((Below.refl w1.heap.size w1).alloc (Nat.le_refl _) (.cells #[.string (mk un), .string (mk ul), .slice q um.length c] 32)).mono hB.size)
    have HM := Lib.hid (M.out _ ha)
    have HB := Lib.hid ha
    clear hs hB ha hq N M
    go_wp2_with (go_at_call 22; refine HM.out.mono ?_)
    rintro e w' ⟨rfl, hB2⟩
    have HB2 := Lib.hid (HB.out.trans (hB2.mono HB.out.size))
    clear hB2
    go_wp2
    go_ret
    rw [HR2.out]
    exact ⟨rfl, HB2.out⟩
  · have HR2 : Hid (res = (ul == x)) := by rw [Hid, HR.out]; exact if_neg hq
    have hq1 : (mk ul).toList ≠ [] := by rw [mk_toList]; exact hq
    have hq2 : (mk ul).toList.isEmpty = false := by simp [hq1]
    have hx : ((mk ul).toList == (mk x).toList) = (ul == x) := by rw [mk_toList, mk_toList]
    have HX := Lib.hid hx
    clear hq HR M hx
    go_enter Tryd.func24, Tryd.ntmps24
    go_wp2_with fail
    refine N.out.mono ?_
    rintro e w1 ⟨mv, rfl, hs, hB⟩
    obtain ⟨q, c, rfl, hqc, hqm, hq⟩ := id hs
    have ha := hB.trans (((Below.refl w1.heap.size w1).alloc (Nat.le_refl _) (.cells #[.string (mk un), .string (mk ul), .slice q um.length c] 32)).mono hB.size)
    have HB := Lib.hid ha
    clear hs hB ha hq N
    go_wp2
    go_ret
    rw [HR2.out, HX.out]
    exact ⟨rfl, HB.out⟩
end Go.Proofs.YtadnkbhigcegmaaDoor
