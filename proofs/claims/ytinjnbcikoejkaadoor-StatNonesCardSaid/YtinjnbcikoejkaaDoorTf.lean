/-
  Walks: StatJoins.
-/
import Derived.Test.YtinjnbcikoejkaaDoorTe
import Derived.Test.YtinjnbcikoejkaaDoorSu
namespace Go.Proofs.YtinjnbcikoejkaaDoor
open Go.RowKit

theorem DRow.range {w wr : World} {b o cap : Nat} {L : List DD} (h : DRow w (.slice (some ⟨b, o, none⟩) L.length cap) L) (hB : Below w.heap.size w wr) {k : Nat} (hk : k < L.length) : wr.rangeAt b (o + k * 13) (cellsD (atD L k)) := by
  obtain ⟨p, cap', hv, hc, hm, h⟩ := h
  obtain ⟨b', o', rfl, hb, hcell⟩ := h (by rintro rfl; simp at hk)
  injection hv with e1 e2 e3
  injection e1 with e1
  injection e1 with e1 e4
  subst e1 e4
  exact fun j u hu => (hB.cell (p := ⟨b, o + k * 13 + j, none⟩) hb).trans (hcell k hk j u hu)
theorem DRow.form {w : World} {v : Value} {L : List DD} (h : DRow w v L) {k : Nat} (hk : k < L.length) : ∃ b o cap, v = .slice (some ⟨b, o, none⟩) L.length cap ∧ (L.length : Int) ≤ (cap : Int) := by
  obtain ⟨p, cap, rfl, hc, hm, h⟩ := h
  obtain ⟨b, o, rfl, hb, hcell⟩ := h (by rintro rfl; simp at hk)
  exact ⟨b, o, cap, rfl, by omega⟩

set_option maxRecDepth 100000 in
set_option maxHeartbeats 6400000 in
theorem statJoins_walk (v : Value) (L : List DD) (w : World) (h : DRow w v L) (hL : ∀ k, k < L.length → inD (atD L k) ∧ bigD (atD L k)) (g : G w) :
    Calls Tryd.prog 9 #[v] w fun e w' => e = .returned (.bool true) ∧ Below w.heap.size w w' := by
  have HU := Lib.hid h
  have hA := Lib.hid (fun W (h : Below w.heap.size w W) => awake_any W (g.below h))
  have HG := Lib.hid g
  obtain ⟨p, cap, rfl, hc, hm, _⟩ := h
  unfold maxLen at hm
  clear g
  by_cases h20 : 20 < L.length
  · clear hL
    go_enter Tryd.func9, Tryd.ntmps9
    go_wp2_with fail
    refine (hA.out _ (Below.refl _ _)).mono ?_
    rintro e W2 ⟨rfl, hB2⟩
    have HB2 := Lib.hid hB2
    clear hB2
    go_wp2
    go_ret
    exact ⟨rfl, HB2.out⟩
  · have HL := Lib.hid hL
    clear hL
    go_enter Tryd.func9, Tryd.ntmps9
    go_wp2
    go_loopw [3, 15] (fun vs vk wr => ∃ (k : Nat) (x : List UInt8), vk = .int .i64 (k : Int) ∧ vs = .string (mk x) ∧ k ≤ L.length ∧ x.length ≤ 400 * k ∧ Hid (x = joinL (L.take k)) ∧ Hid (∀ j, j < k → checkR (atD L j) = 0) ∧ Hid (Below w.heap.size w wr)) (fun _ vk _ => L.length - (intOf vk).toNat)
    case atStart => exact ⟨0, [], rfl, rfl, by omega, by simp, (by simp [joinL] : [] = joinL (L.take 0)), fun j hj => by omega, Below.refl _ _⟩
    case round =>
      obtain ⟨k, x, rfl, rfl, hk, hxl, hx, hck, hB⟩ := hrel
      by_cases hlt : k < L.length
      · obtain ⟨b, o, cap', hv, hcl⟩ := HU.out.form hlt
        injection hv with e1 e2 e3
        subst e1 e3
        have hrg := Lib.hid (HU.out.range hB.out hlt)
        have hrg2 := Lib.hid (fun W (h : Below wr.heap.size wr W) => HU.out.range (hB.out.trans (h.mono hB.out.size)) hlt)
        have hdd := HL.out k hlt
        have hR := RCheck_any (atD L k) hdd.1 hdd.2
        have hP := Put_dir (atD L k) hdd.1 hdd.2
        have hsn := joinL_snoc L k hlt
        have hcs := fun h0 => (fun j hj => by
          by_cases e : j = k
          · subst e; exact h0
          · exact hck.out j (by omega) : ∀ j, j < k + 1 → checkR (atD L j) = 0)
        have hlen := fun h0 => putS_len (d := atD L k) h0
        unfold dirV at hR hP
        have k0 : (0 : Int) ≤ (k : Int) := by omega
        have k1 : (k : Int) < (L.length : Int) := by omega
        clear e2 hdd
        generalize hd : atD L k = d at *
        replace hd := Lib.hid hd
        by_cases h0 : checkR d = 0
        · replace hcs := Lib.hid (hcs h0)
          obtain ⟨l1, l2⟩ := hlen h0
          rw [h0] at hR
          rw [l2] at hP
          generalize (putS d).1 = t at *
          have hx2 : Hid (x ++ t = joinL (L.take (k + 1))) := by rw [Hid, hsn, hx.out]
          have z3 := mk_size t
          have z3' : (mk t).size ≤ 313 := by omega
          have hadd : ∀ W, (Op.stringOp .add (mk x) (mk t)).run Tryd.prog W = .ok (.string (mk (x ++ t))) W := add_mk (by omega) rfl
          replace hR := Lib.hid hR
          replace hP := Lib.hid hP
          clear hlen h0 l2 hsn z3
          go_wp2_with (refine wpList_load_mid rfl 25 _ rfl b (o + k * 13) rfl (cellsD d) _ hrg.out Tryd.underlying25 rfl (by kernel_rfl) ?_)
          refine (hR.out _).mono ?_
          rintro e W1 ⟨rfl, hB1⟩
          have HB1 := Lib.hid (hB.out.trans (hB1.mono hB.out.size))
          have hrg3 := Lib.hid (hrg2.out _ hB1)
          clear hB1 hR hrg hrg2
          go_wp2_with (refine wpList_load_mid rfl 25 _ rfl b (o + k * 13) rfl (cellsD d) _ hrg3.out Tryd.underlying25 rfl (by kernel_rfl) ?_)
          refine (hP.out _ (HG.out.below HB1.out)).mono ?_
          rintro e W2 ⟨rfl, hB2⟩
          have HB2 := Lib.hid (HB1.out.trans (hB2.mono HB1.out.size))
          clear hB2 hP hrg3
          go_wp2
          exact ⟨⟨k + 1, x ++ t, by go_num, rfl, by omega, by rw [List.length_append]; omega, hx2, hcs, HB2⟩, by simp [intOf]; omega⟩
        · replace hR := Lib.hid hR
          clear hcs hlen hP hsn
          generalize checkR d = c at *
          have hne : (c != 0) = true := by simpa using h0
          clear h0
          go_wp2_with (refine wpList_load_mid rfl 25 _ rfl b (o + k * 13) rfl (cellsD d) _ hrg.out Tryd.underlying25 rfl (by kernel_rfl) ?_)
          refine (hR.out _).mono ?_
          rintro e W1 ⟨rfl, hB1⟩
          have HB1 := Lib.hid (hB.out.trans (hB1.mono hB.out.size))
          clear hB1 hR hrg hrg2
          go_wp2_with fail
          refine (hA.out _ HB1.out).mono ?_
          rintro e W2 ⟨rfl, hB2⟩
          have HB2 := Lib.hid (HB1.out.trans (hB2.mono HB1.out.size))
          clear hB2
          go_wp2
          go_ret
          exact ⟨rfl, HB2.out⟩
      · obtain rfl : k = L.length := by omega
        have hall := allS_join (all_mem hck.out)
        have hx' := hx.out
        rw [List.take_length] at hx'
        have hP := fun W g => All_any x (by rw [mk_size]; omega) W g
        unfold AllPost at hP
        rw [hx', hall, ← hx'] at hP
        dsimp only at hP
        replace hP := Lib.hid hP
        clear hall hx' hx hck hk
        go_wp2_with fail
        refine (hP.out _ (HG.out.below hB.out)).mono ?_
        rintro e W1 ⟨v2, rfl, hd2, hB1⟩
        have HB1 := Lib.hid (hB.out.trans (hB1.mono hB.out.size))
        have HE := Lib.hid (equal_any _ v2 L W1 (HU.out.below HB1.out) hd2)
        clear hB1 hd2 hP
        go_wp2_with fail
        refine HE.out.mono ?_
        rintro e W2 ⟨rfl, hB2⟩
        have HB2 := Lib.hid (HB1.out.trans (hB2.mono HB1.out.size))
        clear hB2 HE
        go_wp2_with fail
        refine (hA.out _ HB2.out).mono ?_
        rintro e W3 ⟨rfl, hB3⟩
        have HB3 := Lib.hid (HB2.out.trans (hB3.mono HB2.out.size))
        clear hB3
        go_wp2
        go_ret
        exact ⟨rfl, HB3.out⟩
end Go.Proofs.YtinjnbcikoejkaaDoor
