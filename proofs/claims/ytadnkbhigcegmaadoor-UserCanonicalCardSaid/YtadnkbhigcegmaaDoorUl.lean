/-
  Print: package user's.
-/
import Derived.Test.YtadnkbhigcegmaaDoorUk
import Derived.Deep.RegionHeld3
namespace Go.Proofs.YtadnkbhigcegmaaDoor
open Go.RowKit

theorem Join_any (q : Option Addr) (c : Nat) (M : List (List UInt8)) (w : World) (h : SRow w (.slice q M.length c) M) (hlen : (joinL 44 M).length ≤ 10000000) :
    Calls Tryd.prog 32 #[.slice q M.length c, .string ⟨#[44]⟩] w fun e w' => e = .returned (.string (mk (joinL 44 M))) ∧ Below w.heap.size w w' := by
  by_cases h0 : M = []
  · subst h0
    refine (Tryd.strings_Join_none q c ⟨#[44]⟩ w).mono ?_
    rintro e w' ⟨rfl, rfl⟩
    exact ⟨rfl, Below.refl _ _⟩
  · obtain ⟨b, o, rfl, hb, hcell⟩ := h.cells h0
    obtain ⟨_, _, hv, hqc, _, _⟩ := id h
    injection hv with hv1 hv2 hv3
    subst hv3
    have e : ((M.map mk).map (·.data.toList)) = M := by
      rw [List.map_map]
      conv => rhs; rw [← List.map_id M]
      apply List.map_congr_left
      intro x _
      exact mk_data x
    have hl : M.length ≤ sumL M := len_le_sumL M
    have hj := sumL_join 44 M h0
    have J := Tryd.strings_Join b o c (M.map mk) ⟨#[44]⟩ w (fun j x hx => by
      rw [List.getElem?_map] at hx
      by_cases hj : j < M.length
      · rw [List.getElem?_eq_getElem hj] at hx
        simp only [Option.map_some, Option.some.injEq] at hx
        rw [← hx]
        exact hcell j hj
      · rw [List.getElem?_eq_none (by omega)] at hx; cases hx) hb (by simp; omega) (by simpa using hqc) (by rw [e]; show (joinL 44 M).length ≤ _; omega)
    rw [e, List.length_map] at J
    exact J

theorem textL_snoc (L : List U) (k : Nat) (hk : k < L.length) : textL (L.take (k + 1)) = textL (L.take k) ++ (lineT (getL L k) ++ [10]) := by
  rw [take_get hk]; simp [textL]
theorem textL_app (A B : List U) : textL (A ++ B) = textL A ++ textL B := by simp [textL]
theorem textL_take_le (L : List U) (k : Nat) : (textL (L.take k)).length ≤ (textL L).length := by
  conv => rhs; rw [← List.take_append_drop k L, textL_app, List.length_append]
  omega
theorem builder_below {T e : TypeId} {B b : Nat} {bs : List Value} {w w' : World} (h : Lib.IsBuilder T e B b bs w) (hB : Below w.heap.size w w') : Lib.IsBuilder T e B b bs w' := by
  have key : ∀ p, Lib.BuilderAt T e B b p bs w → Lib.BuilderAt T e B b p bs w' := by
    rintro p ⟨h1, v, h2, h3, h4⟩
    exact ⟨h1, v, (hB.block b (Array.getElem?_eq_some_iff.1 h2).1).trans h2, h3.kept (row := none) ⟨hB.os, hB.tape, hB.output, hB.size, fun k hk _ => hB.block k hk⟩ (by cases v.ownBlock <;> simp), h4⟩
  rcases h with h | h
  · exact .inl (key _ h)
  · exact .inr (key _ h)
theorem others_cell {e : TypeId} {b : Nat} {w w' : World} (h : Lib.OthersKept e (some b) w w') {B : Nat} {t : TypeId} {x0 x1 x2 : Value} (hB : w.heap[B]? = some (.cells #[x0, x1, x2] t (0, 0))) (hb : B ≠ b) (ht : t ≠ e) : w'.heap[B]? = some (.cells #[x0, x1, x2] t (0, 0)) :=
  h B _ hB (fun e => hb (by injection e)) (fun c fz hc => ht (by injection hc))
theorem line_le (L : List U) (k : Nat) (hk : k < L.length) : (textL (L.take k)).length + (lineT (getL L k)).length + 1 ≤ (textL L).length := by
  have h1 := textL_take_le L (k + 1)
  rw [textL_snoc L k hk] at h1
  simp at h1; omega
theorem mk_line (u : U) : ((((mk u.n ++ ⟨#[58]⟩) ++ mk u.l) ++ ⟨#[58]⟩) ++ mk (joinL 44 u.m)) ++ ⟨#[10]⟩ = mk (lineT u ++ [10]) := by
  have e1 : (⟨#[58]⟩ : ByteArray) = mk [58] := rfl
  have e2 : (⟨#[10]⟩ : ByteArray) = mk [10] := rfl
  rw [e1, e2, mk_app, mk_app, mk_app, mk_app, mk_app]
  congr 1
  simp [lineT]
theorem add_str {a b c : List UInt8} (h : a.length + b.length ≤ 100000000) (e : a ++ b = c) (W : World) : (Op.stringOp .add (mk a) (mk b)).run Tryd.prog W = .ok (.string (mk c)) W := by
  have h1 := mk_size a
  have h2 := mk_size b
  exact (run_string_add_sum W (mk a) (mk b) (by omega)).trans (by rw [mk_app, e])
theorem lineT_len (u : U) : (lineT u).length = u.n.length + u.l.length + (joinL 44 u.m).length + 2 := by simp [lineT]; omega

set_option maxRecDepth 100000 in
set_option maxHeartbeats 3200000 in
theorem Print_any (v : Value) (L : List U) (w : World) (h : URow w v L) (hb : Big L) (hlen : (textL L).length ≤ 1000000) :
    Calls Tryd.prog 14 #[v] w fun e w' => e = .returned (.tuple #[.string (mk (printL L).1), .int .i64 (printL L).2]) ∧ Below w.heap.size w w' := by
  have HU := Lib.hid h
  have C := Lib.hid (Check_any v L w h hb)
  have HR1 : Hid (checkL L = 0 → printL L = (textL L, 0)) := fun h => if_pos h
  have HR2 : Hid (checkL L ≠ 0 → printL L = ([], checkL L)) := fun h => if_neg h
  obtain ⟨p, cap, rfl, hc, hm, _⟩ := h
  have hl := hb.1
  have HBig := Lib.hid hb
  have HLe := Lib.hid (fun k hk => line_le L k hk)
  have HLt := Lib.hid (fun k => textL_take_le L k)
  clear hb
  generalize printL L = pr at HR1 HR2 ⊢
  generalize checkL L = ch at C HR1 HR2
  by_cases h0 : ch = 0
  · have HR := Lib.hid (HR1.out h0)
    have hne : (ch != 0) = false := by simpa using h0
    clear h0 HR1 HR2
    go_enter Tryd.func14, Tryd.ntmps14
    go_wp2_with fail
    refine C.out.mono ?_
    rintro e w1 ⟨rfl, hB⟩
    have HB1 := Lib.hid hB
    have hsz1 := hB.size
    clear hB C
    go_wp2_with fail
    go_loopw [15] (fun vi wr => ∃ k : Nat, vi = .int .i64 (k : Int) ∧ k ≤ L.length ∧ Hid (Lib.IsBuilder 46 5 w.heap.size w1.heap.size (Lib.byteCells (textL (L.take k))) wr) ∧ Hid (Below w.heap.size w wr)) (fun vi _ => L.length - (intOf vi).toNat)
    case atStart =>
      refine ⟨0, rfl, by omega, .inl ⟨hsz1, .slice none 0 0, heap_alloc_new _ _, World.ownsRow_nil _ _ _ _, by simp [Value.ownBlock]⟩, HB1.out.alloc hsz1 _⟩
    case round =>
      obtain ⟨k, rfl, hk, HI, HB⟩ := hrel
      have hsz := HB.out.size
      by_cases hlt : k < L.length
      · obtain ⟨b, o, cap', q, c, hp, hb, hcl, c0, c1, c2, hqc, hs⟩ := HU.out.at_ HB.out hlt
        obtain ⟨rfl, rfl⟩ : p = some ⟨b, o, none⟩ ∧ cap = cap' := by injection hp with h1 h2 h3; exact ⟨h1, h3⟩
        have hll := HLe.out k hlt
        have hlt2 := HLt.out k
        have hsn := Lib.hid (textL_snoc L k hlt)
        have HS := Lib.hid hs
        clear hp hs
        generalize hu : getL L k = uk at c0 c1 c2 hqc HS hll hsn
        clear hu
        generalize textL (L.take k) = done at HI hll hsn hlt2
        generalize hdd : textL (L.take (k + 1)) = done' at hsn
        have HDD := Lib.hid hdd
        clear hdd
        obtain ⟨un, ul, um⟩ := uk
        rw [lineT_len] at hll
        have hx := heap_alloc_new wr (.cells #[.string (mk un), .string (mk ul), .slice q um.length c] 32 (0, 0))
        have ha := (Below.refl wr.heap.size wr).alloc (Nat.le_refl _) (.cells #[.string (mk un), .string (mk ul), .slice q um.length c] 32)
        have hB2 := HB.out.trans (ha.mono hsz)
        have hI2 := builder_below HI.out ha
        have hS2 := HS.out.below hB2
        have hbb : w1.heap.size < wr.heap.size := by
          have h1 := HI.out
          have h2 : ∀ p, Lib.BuilderAt 46 5 w.heap.size w1.heap.size p (Lib.byteCells done) wr → w1.heap.size < wr.heap.size := fun p h => h.lt
          rcases h1 with h | h
          · exact h2 _ h
          · exact h2 _ h
        have hz2 : (wr.alloc (.cells #[.string (mk un), .string (mk ul), .slice q um.length c] 32)).heap.size = wr.heap.size + 1 := by simp
        go_wp2_with fail
        generalize wr.alloc (.cells #[.string (mk un), .string (mk ul), .slice q um.length c] 32) = W2 at hx ha hB2 hI2 hS2 hz2 ⊢
        have hml : (joinL 44 um).length ≤ 1000000 := by omega
        have HJ := Lib.hid (Join_any q c um W2.drew (hS2.below (below_drewN (Below.refl _ _) 1)) (by omega))
        have x0 := blk3_0 hx
        have x1 := blk3_1 hx
        have x2 := blk3_2 hx
        have s1 := mk_size un
        have s2 := mk_size ul
        have s3 := mk_size (joinL 44 um)
        have s1' : (mk un).size ≤ 1000000 := by omega
        have s2' : (mk ul).size ≤ 1000000 := by omega
        have s3' : (mk (joinL 44 um)).size ≤ 1000000 := by omega
        have a1 : ∀ W, (Op.stringOp .add (mk un) ⟨#[58]⟩).run Tryd.prog W = .ok (.string (mk (un ++ [58]))) W := add_str (b := [58]) (by simp; omega) rfl
        have a2 : ∀ W, (Op.stringOp .add (mk (un ++ [58])) (mk ul)).run Tryd.prog W = .ok (.string (mk (un ++ 58 :: ul))) W := add_str (by simp; omega) (by simp)
        have a3 : ∀ W, (Op.stringOp .add (mk (un ++ 58 :: ul)) ⟨#[58]⟩).run Tryd.prog W = .ok (.string (mk (un ++ 58 :: (ul ++ [58])))) W := add_str (b := [58]) (by simp; omega) (by simp)
        have a4 : ∀ W, (Op.stringOp .add (mk (un ++ 58 :: (ul ++ [58]))) (mk (joinL 44 um))).run Tryd.prog W = .ok (.string (mk (un ++ 58 :: (ul ++ 58 :: joinL 44 um)))) W := add_str (by simp; omega) (by simp)
        have a5 : ∀ W, (Op.stringOp .add (mk (un ++ 58 :: (ul ++ 58 :: joinL 44 um))) ⟨#[10]⟩).run Tryd.prog W = .ok (.string (mk (un ++ 58 :: (ul ++ 58 :: (joinL 44 um ++ [10]))))) W := add_str (b := [10]) (by simp; omega) (by simp)
        have hle5 : (Lib.byteCells done).length + (mk (un ++ 58 :: (ul ++ 58 :: (joinL 44 um ++ [10])))).size ≤ 140737488355328 := by
          rw [Lib.byteCells_length, mk_size]; simp; omega
        have HWS := Lib.hid (fun W3 (hB3 : Below W2.drew.heap.size W2.drew W3) => WriteString_any w.heap.size w1.heap.size (Lib.byteCells done) (mk (un ++ 58 :: (ul ++ 58 :: (joinL 44 um ++ [10])))) W3 (builder_below (w := W2.drew) hI2 hB3) hle5 (Nat.le_trans hB2.size hB3.size))
        have hne2 : wr.heap.size ≠ w1.heap.size := by omega
        have HE : Hid (Lib.byteCells done ++ Lib.strCells (mk (un ++ 58 :: (ul ++ 58 :: (joinL 44 um ++ [10])))) = Lib.byteCells done') := by
          rw [Hid, hsn.out, Lib.strCells_eq, mk_data]
          simp [lineT, Lib.byteCells]
        have HB2 := Lib.hid hB2
        clear hle5 hB2 hI2 hS2 ha
        go_region_held3 (fun W => W.cell? ⟨wr.heap.size, 0, none⟩ = some (.string (mk un)) ∧ W.cell? ⟨wr.heap.size, 1, none⟩ = some (.string (mk ul)) ∧ W.cell? ⟨wr.heap.size, 2, none⟩ = some (.slice q um.length c))
          (first | exact ⟨x0, x1, x2⟩ | exact ⟨y0, y1, y2⟩ | exact ⟨z0, z1, z2⟩)
          (first | (go_at_call 32; refine HJ.out.mono ?_; rintro e W3 ⟨rfl, hB3⟩; have hy := (hB3.block wr.heap.size (by show wr.heap.size < W2.heap.size; omega)).trans hx; have y0 := blk3_0 hy; have y1 := blk3_1 hy; have y2 := blk3_2 hy) | (go_at_call 31; refine (HWS.out _ hB3).mono ?_; rintro e W4 ⟨rfl, hbA, hB4, hK4⟩; have hzz := others_cell hK4 hy hne2 (by decide); have z0 := blk3_0 hzz; have z1 := blk3_1 hzz; have z2 := blk3_2 hzz))
        have HB4 := Lib.hid (HB2.out.trans ((below_drewN (Below.refl W2.heap.size W2) 1).trans hB3 |>.mono HB2.out.size) |>.trans hB4)
        have HI4 : Hid (Lib.IsBuilder 46 5 w.heap.size w1.heap.size (Lib.byteCells done') W4) := by
          rw [Hid, ← HE.out]; exact .inr hbA
        clear hbA hB4 hK4 hzz z0 z1 z2 hy y0 y1 y2 hB3
        go_wp2
        exact ⟨⟨k + 1, by go_num, by omega, by rw [Hid, HDD.out]; exact HI4.out, HB4⟩, by simp [intOf]; omega⟩
      · have hkn : k = L.length := by omega
        have hI := HI.out
        rw [hkn, List.take_length] at hI
        have HS := Lib.hid (Tryd.Builder_String_any w.heap.size w1.heap.size (textL L) wr hI hsz)
        clear hkn hI
        go_wp2_with (go_at_call 33; refine HS.out.mono ?_)
        rintro e w4 ⟨rfl, hB4⟩
        have HB4 := Lib.hid (HB.out.trans hB4)
        clear hB4
        go_wp2
        go_ret2
        rw [HR.out]
        exact ⟨rfl, HB4.out⟩
  · have HR := Lib.hid (HR2.out h0)
    have hne : (ch != 0) = true := by simpa using h0
    clear h0 HR1 HR2
    go_enter Tryd.func14, Tryd.ntmps14
    go_wp2_with fail
    refine C.out.mono ?_
    rintro e w1 ⟨rfl, hB⟩
    have HB1 := Lib.hid hB
    clear hB C
    go_wp2_with fail
    go_ret2
    rw [HR.out]
    exact ⟨rfl, HB1.out⟩
end Go.Proofs.YtadnkbhigcegmaaDoor
