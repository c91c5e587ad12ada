/-
  The builder's methods that write; the bytes of a number.
  Put: package stat's.
-/
import Derived.Test.YtlfdmbfbfadifaaGreatDoorSd
import Derived.Lib.Builder
import Derived.Lib.AppendStr
import Derived.Lib.OthersKept
import Derived.Lib.OwnKind
namespace Go.Proofs.YtlfdmbfbfadifaaGreatDoor.St
open Go.RowKit

/-! ### The builder -/
theorem infoBuilder : (Tryz.prog.info? 167).map (fun i => i.size) = some 2 := by kernel_rfl
theorem infoByte : (Tryz.prog.info? 5).map (fun i => (i.zero, i.size, i.bytes)) = some (some (.int .u8 0), 1, 1) := by kernel_rfl
theorem liesBuilder : liesAt Tryz.prog Tryz.prog.depth 167 (2 / Tryz.prog.cellsOf 167) 0 167 1 = true := by kernel_rfl

set_option maxHeartbeats 1000000 in
set_option maxRecDepth 100000 in
theorem copyCheck_used (b : Nat) (w : World) (h0 : w.cell? ⟨b, 0, none⟩ = some (.pointer (some ⟨b, 0, none⟩))) :
    Calls Tryz.prog 128 #[.pointer (some ⟨b, 0, none⟩)] w fun e w' => e = .returned (.tuple #[]) ∧ w' = w := by
  obtain ⟨j, hj, _⟩ := Option.map_eq_some_iff.1 infoBuilder
  go_enter Tryz.func128, Tryz.ntmps128
  go_wp2
  rw [Lib.run_neq_ptr_same w _ Tryz.underlying165 hj]
  go_wp2
  go_end0
  exact ⟨rfl, rfl⟩

set_option maxHeartbeats 1000000 in
set_option maxRecDepth 100000 in
theorem copyCheck_fresh (b : Nat) (w : World) (h0 : w.cell? ⟨b, 0, none⟩ = some (.pointer none)) (hsh : w.shape? b = some (167, 2)) (hfz : w.frozen? ⟨b, 0, none⟩ = false) :
    Calls Tryz.prog 128 #[.pointer (some ⟨b, 0, none⟩)] w fun e w' => e = .returned (.tuple #[]) ∧ w' = w.setCell ⟨b, 0, none⟩ (.pointer (some ⟨b, 0, none⟩)) := by
  obtain ⟨j, hj, hjs⟩ := Option.map_eq_some_iff.1 infoBuilder
  go_enter Tryz.func128, Tryz.ntmps128
  go_wp2
  rw [Lib.run_to_unsafe w ⟨b, 0, none⟩ Tryz.underlying165 Tryz.underlying179 hj (by rw [hjs]; decide) hsh (Nat.zero_lt_succ 1)]
  simp only [Result.andThen]
  rw [Oper.upon_value]
  go_wp2
  rw [run_callFunc_extern Tryz.func132 (by kernel_rfl) (by kernel_rfl) (by kernel_rfl) (e := Extern.AbiNoEscape.same) (by kernel_rfl)]
  rw [Lib.run_noEscape]
  simp only [Result.andThen]
  rw [Oper.upon_value]
  go_wp2
  rw [Lib.run_from_unsafe w ⟨b, 0, none⟩ Tryz.underlying179 Tryz.underlying165 hj hsh liesBuilder]
  simp only [Result.andThen]
  rw [Oper.upon_value]
  go_wp2
  go_end0
  exact ⟨rfl, rfl⟩

theorem copyCheck_any (B b : Nat) (bs : List Value) (w : World) (h : Lib.IsBuilder 167 5 B b bs w) :
    Calls Tryz.prog 128 #[.pointer (some ⟨b, 0, none⟩)] w fun e w' => e = .returned (.tuple #[]) ∧ (Lib.BuilderAt 167 5 B b (.pointer (some ⟨b, 0, none⟩)) bs w' ∧ Below B w w' ∧ Lib.OthersKept 5 (some b) w w') := by
  rcases h with h | h
  · refine (copyCheck_fresh b w h.cell0 h.shape h.frozen0).mono ?_
    rintro e w' ⟨rfl, rfl⟩
    exact ⟨rfl, h.used _, (Below.refl B w).setCell (p := ⟨b, 0, none⟩) h.1 _, (Lib.OthersKept.refl _ _ w).setCell ⟨b, 0, none⟩ rfl _⟩
  · refine (copyCheck_used b w h.cell0).mono ?_
    rintro e w' ⟨rfl, rfl⟩
    exact ⟨rfl, h, Below.refl B _, Lib.OthersKept.refl _ _ _⟩

set_option maxHeartbeats 2000000 in
set_option maxRecDepth 100000 in
theorem WriteString_any (B b : Nat) (bs : List Value) (s : ByteArray) (w : World) (h : Lib.IsBuilder 167 5 B b bs w) (hlen : bs.length + s.size ≤ 140737488355328) (hBw : B ≤ w.heap.size) :
    Calls Tryz.prog 123 #[.pointer (some ⟨b, 0, none⟩), .string s] w fun e w' => e = .returned (.tuple #[.int .i64 s.size, .nilIface]) ∧ (Lib.BuilderAt 167 5 B b (.pointer (some ⟨b, 0, none⟩)) (bs ++ Lib.strCells s) w' ∧ Below B w w' ∧ Lib.OthersKept 5 (some b) w w') := by
  obtain ⟨i0, hi, hz0, hz1, hz2⟩ := info_parts infoByte
  go_enter Tryz.func123, Tryz.ntmps123
  go_wp2_with (go_at_call 128; refine (copyCheck_any B b bs _ h).mono ?_)
  rintro e w1 ⟨rfl, h1, hb1, hk1⟩
  obtain ⟨hB, v, hbk, hown, hne⟩ := h1
  have c0 : w1.cell? ⟨b, 0, none⟩ = some (.pointer (some ⟨b, 0, none⟩)) := by rw [Lib.cell_of_heap hbk]; rfl
  have c1 : w1.cell? ⟨b, 1, none⟩ = some v := by rw [Lib.cell_of_heap hbk]; rfl
  go_wp2_with (at_builtin; refine Lib.wpList_append_own_string _ rfl _ _ 45 9 rfl B 5 i0 Tryz.underlying45 Tryz.underlying9 hi hz0 hz1 hz2 _ _ _ rfl hown s rfl ?c3 ?c4 ?c5 ?_)
  case c3 => unfold maxLen; omega
  case c4 => omega
  case c5 => have := hb1.size; omega
  intro v' w2 hown' hgrow _
  have hlt : b < w1.heap.size := by
    rcases Nat.lt_or_ge b w1.heap.size with h' | h'
    · exact h'
    · simp [Array.getElem?_eq_none h'] at hbk
  have hb2 : w2.heap[b]? = some (.cells #[.pointer (some ⟨b, 0, none⟩), v] 167 (0, 0)) := by
    rw [hgrow.block b hlt (fun e => hne e.symm)]
    exact hbk
  have d0 : w2.cell? ⟨b, 0, none⟩ = some (.pointer (some ⟨b, 0, none⟩)) := by rw [Lib.cell_of_heap hb2]; rfl
  have d1 : w2.cell? ⟨b, 1, none⟩ = some v := by rw [Lib.cell_of_heap hb2]; rfl
  have f1 : w2.frozen? ⟨b, 1, none⟩ = false := Lib.frozen_of_heap hb2 1
  obtain ⟨ao, n', cap, rfl⟩ : ∃ ao n' cap, v' = .slice ao n' cap := by
    rcases hown'.2 with ⟨hv, _⟩ | ⟨g, cap, cur, hv, _⟩
    · exact ⟨_, _, _, hv⟩
    · exact ⟨_, _, _, hv⟩
  go_wp2
  go_ret2
  refine ⟨rfl, ?_, ?_, (hk1.grown hgrow (Lib.ownsRow_kind hown)).setCell ⟨b, 1, none⟩ rfl _⟩
  · exact Lib.BuilderAt.put (T := 167) (e := 5) hB hb2 (bs' := bs ++ Lib.strCells s) (by simpa [Lib.strCells_length] using hown') (by decide)
  · exact (hb1.grown hgrow (by have := hb1.size; omega) (fun k hk => (hown.lt k hk).1)).setCell (p := ⟨b, 1, none⟩) hB _
theorem builder_below {T e : TypeId} {B b : Nat} {bs : List Value} {w w' : World} (h : Lib.IsBuilder T e B b bs w) (hB : Below w.heap.size w w') : Lib.IsBuilder T e B b bs w' := by
  have key : ∀ p, Lib.BuilderAt T e B b p bs w → Lib.BuilderAt T e B b p bs w' := by
    rintro p ⟨h1, v, h2, h3, h4⟩
    exact ⟨h1, v, (hB.block b (Array.getElem?_eq_some_iff.1 h2).1).trans h2, h3.kept (row := none) ⟨hB.os, hB.tape, hB.output, hB.size, fun k hk _ => hB.block k hk⟩ (by cases v.ownBlock <;> simp), h4⟩
  rcases h with h | h
  · exact .inl (key _ h)
  · exact .inr (key _ h)
theorem others_block {e : TypeId} {b : Nat} {w w' : World} (h : Lib.OthersKept e (some b) w w') {B : Nat} {t : TypeId} {cs : Array Value} (hB : w.heap[B]? = some (.cells cs t (0, 0))) (hb : B ≠ b) (ht : t ≠ e) : w'.heap[B]? = some (.cells cs t (0, 0)) :=
  h B _ hB (fun e => hb (by injection e)) (fun c fz hc => ht (by injection hc))
theorem BlkD.others {b g : Nat} {w w' : World} {d : DD} (h : Lib.OthersKept 5 (some b) w w') (hB : BlkD w g d) (hb : g ≠ b) : BlkD w' g d := others_block h hB hb (by decide)

/-! ### The bytes of a number -/
theorem ff_extract {k : Nat} (hk : k < 9) : (⟨#[255, 255, 255, 255, 255, 255, 255, 255]⟩ : ByteArray).extract 0 (fW k) = mk (leZ (fW k) (-1)) := by
  rcases k9 hk with rfl | rfl | rfl | rfl | rfl | rfl | rfl | rfl | rfl <;> decide

set_option maxHeartbeats 1600000 in
theorem putNumber_any (n : Int) (k : Nat) (hk9 : k < 9) (hn : inI n) (ho : okN k n = true) (w : World) :
    Calls Tryz.prog 124 #[.int .i64 n, .int .i64 (fW k : Int)] w fun e w' => e = .returned (.string (mk (leZ (fW k) n))) ∧ Below w.heap.size w w' := by
  have hw := fW_ge hk9
  by_cases hk : n = -1
  · subst hk
    have hx := Lib.hid (ff_extract hk9)
    have h8 : (fW k : Int) ≤ 8 := by omega
    have h0 : (0 : Int) ≤ (fW k : Int) := by omega
    generalize leZ (fW k) (-1) = l at hx ⊢
    generalize fW k = fw at *
    clear ho hn hk9
    go_enter Tryz.func124, Tryz.ntmps124
    go_wp2
    go_ret
    rw [hx.out]
    exact ⟨rfl, Below.refl _ _⟩
  · have hk' : (n == -1) = false := by simpa using hk
    have hP := Lib.hid (PutM n (fW k) hn)
    have he := enc_nat hk9 ho hk
    rw [he] at hP
    clear he ho hk
    generalize leZ (fW k) n = l at *
    generalize fW k = fw at *
    go_enter Tryz.func124, Tryz.ntmps124
    go_wp2_with fail
    refine (hP.out _).mono ?_
    rintro e w1 ⟨rfl, hB⟩
    replace hB := Lib.hid hB
    go_wp2
    go_ret
    exact ⟨rfl, hB.out⟩
end Go.Proofs.YtlfdmbfbfadifaaGreatDoor.St

namespace Go.Proofs.YtlfdmbfbfadifaaGreatDoor.St
open Go.RowKit

theorem off_le {k : Nat} (hk : k ≤ 9) : off k ≤ 47 := by
  have h : k = 0 ∨ k = 1 ∨ k = 2 ∨ k = 3 ∨ k = 4 ∨ k = 5 ∨ k = 6 ∨ k = 7 ∨ k = 8 ∨ k = 9 := by omega
  rcases h with rfl | rfl | rfl | rfl | rfl | rfl | rfl | rfl | rfl | rfl <;> decide
theorem cells_app (l z : List UInt8) : Lib.byteCells l ++ Lib.strCells (mk z) = Lib.byteCells (l ++ z) := by
  rw [Lib.strCells_eq, mk_data]; simp [Lib.byteCells]
theorem putTextR_ok {l : List UInt8} (h : l.length ≤ 1000) : putTextR l = (counted l, 0) := by
  unfold putTextR; rw [if_neg (by omega)]; rfl

set_option maxRecDepth 100000 in
set_option maxHeartbeats 6400000 in
theorem Put_dir (d : DD) (hd : inD d) (hb : bigD d) (w : World) (g : G w) :
    Calls Tryz.prog 120 #[dirV d] w fun e w' => e = .returned (.tuple #[.string (mk (putS d).1), .int .i64 (putS d).2]) ∧ Below w.heap.size w w' := by
  have hB0 : Below w.heap.size w (w.alloc (.cells (cellsA d) 27)) := (Below.refl _ w).alloc (Nat.le_refl _) _
  have hK0 := BlkD.new w d
  have hsz : w.heap.size < (w.alloc (.cells (cellsA d) 27)).heap.size := by simp
  have hC := Lib.hid (Check_any d hd hb (w.alloc (.cells (cellsA d) 27)) (g.below hB0))
  have HB0 := Lib.hid hB0
  have HK0 := Lib.hid hK0
  have HG := Lib.hid g
  replace hsz := Lib.hid hsz
  clear hB0 hK0 g
  unfold dirV at hC ⊢
  by_cases h0 : checkR d = 0
  · have hr : Hid (putS d = (counted (body d), 0)) := if_pos h0
    have hbl := body_le h0
    have HA := Lib.hid (fun k (hk : k < 9) => allN_at (checkR_0.1 h0).1 hk)
    have HT := Lib.hid (fun k (hk : k < 4) => txt_le h0 hk)
    have HTB := Lib.hid (fun k hk => tailB_le h0 k hk)
    have HD := Lib.hid hd
    rw [h0] at hC
    rw [hr.out]
    clear hr hd hb h0
    go_enter Tryz.func120, Tryz.ntmps120
    go_wp2_with (refine wpList_load_row rfl 27 _ rfl w.heap.size rfl 27 (cellsA d) (0, 0) _ HK0.out Tryz.underlying27 rfl (by kernel_rfl) ?_)
    refine hC.out.mono ?_
    rintro e V ⟨rfl, hBV⟩
    have HBV := Lib.hid (HB0.out.trans (hBV.mono HB0.out.size))
    have HKV := Lib.hid (HK0.out.below hBV hsz.out)
    clear hBV hC
    go_wp2_with fail
    have hbs : Lib.IsBuilder 167 5 w.heap.size V.heap.size (Lib.byteCells []) (V.alloc (.cells #[.pointer none, .slice none 0 0] 167)) :=
      .inl ⟨HBV.out.size, .slice none 0 0, heap_alloc_new _ _, World.ownsRow_nil _ _ _ _, by simp [Value.ownBlock]⟩
    have hBV2 := HBV.out.alloc HBV.out.size (.cells #[.pointer none, .slice none 0 0] 167)
    have hKV2 := HKV.out.alloc (.cells #[.pointer none, .slice none 0 0] 167)
    have hne : w.heap.size ≠ V.heap.size := by have := HKV.out.lt; omega
    refine (numbersOf_any _ _).mono ?_
    rintro e V2 ⟨rfl, hB⟩
    have HI1 := Lib.hid (builder_below hbs hB)
    have HB1 := Lib.hid (hBV2.trans (hB.mono hBV2.size))
    have HK1 := Lib.hid (hKV2.below hB hKV2.lt)
    clear hB hbs hBV2 hKV2
    generalize V.heap.size = c at *
    replace hne := Lib.hid hne
    go_wp2
    go_loopw [18] (fun vk wr => ∃ k : Nat, vk = .int .i64 (k : Int) ∧ k ≤ 9 ∧ Hid (Below w.heap.size w wr) ∧ Hid (BlkD wr w.heap.size d) ∧ Hid (Lib.IsBuilder 167 5 w.heap.size c (Lib.byteCells (headB d k)) wr)) (fun vk _ => 9 - (intOf vk).toNat)
    case atStart => exact ⟨0, rfl, by omega, HB1.out, HK1.out, HI1.out⟩
    case round =>
      obtain ⟨k, rfl, hk, hB, hK, hI⟩ := hrel
      by_cases hlt : k < 9
      · have hix := nums_index w.heap.size hlt
        have hc := hK.out.numc hlt
        obtain ⟨f0, f1, f2⟩ := (HG.out.below hB.out).fmt hlt
        have hN := Lib.hid (fun W => putNumber_any (num d k) k hlt (HD.out k hlt) (HA.out k hlt) W)
        have hlen : (Lib.byteCells (headB d k)).length + (mk (leZ (fW k) (num d k))).size ≤ 140737488355328 := by
          rw [Lib.byteCells_length, headB_len, mk_size, leZ_len]
          have := off_le hk
          have := fW_ge hlt
          omega
        have hhd : Hid (Lib.byteCells (headB d k) ++ Lib.strCells (mk (leZ (fW k) (num d k))) = Lib.byteCells (headB d (k + 1))) := cells_app _ _
        generalize hdd : headB d (k + 1) = hd' at hhd
        replace hdd := Lib.hid hdd
        generalize headB d k = hd at *
        generalize leZ (fW k) (num d k) = z at *
        generalize num d k = n at hc hN
        have hWS := Lib.hid (fun W (h : Lib.IsBuilder 167 5 w.heap.size c (Lib.byteCells hd) W) hs => WriteString_any w.heap.size c (Lib.byteCells hd) (mk z) W h hlen hs)
        clear f1 f2 hlen
        have k1 : (k : Int) < 9 := by omega
        have k0 : (0 : Int) ≤ (k : Int) := by omega
        go_wp2
        go_still_tail 7, (by kernel_rfl)
        change wpList _ _ _ _ _ wr.drew
        have HBd := Lib.hid (below_drew hB.out)
        have HKd : Hid (BlkD wr.drew w.heap.size d) := hK.out
        have HId : Hid (Lib.IsBuilder 167 5 w.heap.size c (Lib.byteCells hd) wr.drew) := builder_below hI.out (below_drew (Below.refl _ wr))
        clear hix hc f0 k1 k0 hK hI hB
        go_wp2_with fail
        refine (hN.out _).mono ?_
        rintro e W1 ⟨rfl, hB1⟩
        have HB2 := Lib.hid (HBd.out.trans (hB1.mono HBd.out.size))
        have HK2 := Lib.hid (HKd.out.below hB1 HKd.out.lt)
        have HI2 := Lib.hid (builder_below HId.out hB1)
        clear hB1 hN HBd HKd HId
        go_wp2_with fail
        refine (hWS.out _ HI2.out HB2.out.size).mono ?_
        rintro e W2 ⟨rfl, hbA, hB3, hO⟩
        have HB3 := Lib.hid (HB2.out.trans hB3)
        have HK3 := Lib.hid (HK2.out.others hO hne.out)
        have HI3 : Hid (Lib.IsBuilder 167 5 w.heap.size c (Lib.byteCells hd') W2) := by rw [Hid, ← hhd.out]; exact .inr hbA
        clear hbA hB3 hO hWS
        go_wp2
        exact ⟨⟨k + 1, by go_num, by omega, HB3, HK3, by rw [Hid, hdd.out]; exact HI3.out⟩, by simp [intOf]; omega⟩
      · obtain rfl : k = 9 := by omega
        clear hk hlt HA HD HB1 HK1 HI1 HBV HKV
        go_wp2_with fail
        refine (textsOf_any _ _).mono ?_
        rintro e V3 ⟨rfl, hB1⟩
        have HB1 := Lib.hid (hB.out.trans (hB1.mono hB.out.size))
        have HK1 := Lib.hid (hK.out.below hB1 hK.out.lt)
        have HI1 := Lib.hid (builder_below hI.out hB1)
        clear hB1 hB hK hI
        go_wp2
        go_loopw [33] (fun vk wr => ∃ k : Nat, vk = .int .i64 (k : Int) ∧ k ≤ 4 ∧ Hid (Below w.heap.size w wr) ∧ Hid (BlkD wr w.heap.size d) ∧ Hid (Lib.IsBuilder 167 5 w.heap.size c (Lib.byteCells (headB d 9 ++ tailB d k)) wr)) (fun vk _ => 4 - (intOf vk).toNat)
        case atStart => exact ⟨0, rfl, by omega, HB1.out, HK1.out, by rw [show tailB d 0 = [] from rfl, List.append_nil]; exact HI1.out⟩
        case round =>
          obtain ⟨k, rfl, hk, hB, hK, hI⟩ := hrel
          by_cases hlt : k < 4
          · have hix := txts_index w.heap.size hlt
            have hc := hK.out.txtc hlt
            have ht := HT.out k hlt
            have hN := Lib.hid (fun W => PutTextM (txt d k) (by unfold maxLen; omega) W)
            rw [putTextR_ok (by omega)] at hN
            have hlen : (Lib.byteCells (headB d 9 ++ tailB d k)).length + (mk (counted (txt d k))).size ≤ 140737488355328 := by
              rw [Lib.byteCells_length, List.length_append, headB_len, off_9, mk_size, counted_len]
              have := HTB.out k hk
              omega
            have hhd : Hid (Lib.byteCells (headB d 9 ++ tailB d k) ++ Lib.strCells (mk (counted (txt d k))) = Lib.byteCells (headB d 9 ++ tailB d (k + 1))) := by
              rw [Hid, cells_app, List.append_assoc]; rfl
            generalize hdd : headB d 9 ++ tailB d (k + 1) = hd' at hhd
            replace hdd := Lib.hid hdd
            generalize headB d 9 ++ tailB d k = hd at *
            generalize counted (txt d k) = z at *
            generalize txt d k = n at hc hN
            have hWS := Lib.hid (fun W (h : Lib.IsBuilder 167 5 w.heap.size c (Lib.byteCells hd) W) hs => WriteString_any w.heap.size c (Lib.byteCells hd) (mk z) W h hlen hs)
            clear hlen ht
            have k1 : (k : Int) < 4 := by omega
            have k0 : (0 : Int) ≤ (k : Int) := by omega
            go_wp2_with fail
            refine (hN.out _).mono ?_
            rintro e W1 ⟨rfl, hB1⟩
            have HB2 := Lib.hid (hB.out.trans (hB1.mono hB.out.size))
            have HK2 := Lib.hid (hK.out.below hB1 hK.out.lt)
            have HI2 := Lib.hid (builder_below hI.out hB1)
            clear hB1 hN hB hK hI hix hc
            go_wp2_with fail
            refine (hWS.out _ HI2.out HB2.out.size).mono ?_
            rintro e W2 ⟨rfl, hbA, hB3, hO⟩
            have HB3 := Lib.hid (HB2.out.trans hB3)
            have HK3 := Lib.hid (HK2.out.others hO hne.out)
            have HI3 : Hid (Lib.IsBuilder 167 5 w.heap.size c (Lib.byteCells hd') W2) := by rw [Hid, ← hhd.out]; exact .inr hbA
            clear hbA hB3 hO hWS
            go_wp2
            exact ⟨⟨k + 1, by go_num, by omega, HB3, HK3, by rw [Hid, hdd.out]; exact HI3.out⟩, by simp [intOf]; omega⟩
          · obtain rfl : k = 4 := by omega
            have hS := Lib.hid (Tryz.Builder_String_any w.heap.size c (headB d 9 ++ tailB d 4) wr hI.out hB.out.size)
            have hP := Lib.hid (fun W => PutTextM (body d) (by unfold maxLen; omega) W)
            rw [putTextR_ok (by omega)] at hP
            have e : Hid ((⟨(headB d 9 ++ tailB d 4).toArray⟩ : ByteArray) = mk (body d)) := rfl
            rw [e.out] at hS
            clear e hbl hk hlt hI HT HTB
            go_wp2_with fail
            refine hS.out.mono ?_
            rintro e W1 ⟨rfl, hB4⟩
            have HB4 := Lib.hid (hB.out.trans hB4)
            clear hB4 hS
            go_wp2_with fail
            refine (hP.out _).mono ?_
            rintro e W2 ⟨rfl, hB5⟩
            have HB5 := Lib.hid (HB4.out.trans (hB5.mono HB4.out.size))
            clear hB5
            go_wp2
            go_ret2
            exact ⟨rfl, HB5.out⟩
  · have hr : Hid (putS d = ([], checkR d)) := if_neg h0
    rw [hr.out]
    clear hr
    generalize checkR d = c at *
    have hne : (c != 0) = true := by simpa using h0
    clear h0
    go_enter Tryz.func120, Tryz.ntmps120
    go_wp2_with (refine wpList_load_row rfl 27 _ rfl w.heap.size rfl 27 (cellsA d) (0, 0) _ HK0.out Tryz.underlying27 rfl (by kernel_rfl) ?_)
    refine hC.out.mono ?_
    rintro e V ⟨rfl, hBV⟩
    have HBV := Lib.hid (HB0.out.trans (hBV.mono HB0.out.size))
    clear hBV
    go_wp2
    go_ret2
    exact ⟨rfl, HBV.out⟩
end Go.Proofs.YtlfdmbfbfadifaaGreatDoor.St
