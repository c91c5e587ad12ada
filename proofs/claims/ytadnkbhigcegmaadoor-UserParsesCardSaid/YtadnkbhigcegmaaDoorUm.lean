/-
  Print: the reference's.
-/
import Derived.Test.YtadnkbhigcegmaaDoorUl
namespace Go.Proofs.YtadnkbhigcegmaaDoor
open Go.RowKit

theorem join_take_le (d : UInt8) (L : List (List UInt8)) (k : Nat) : (joinL d (L.take k)).length ≤ (joinL d L).length := by
  by_cases h0 : L.take k = []
  · rw [h0, joinL_nil]; simp
  · have h1 : L ≠ [] := by rintro rfl; simp at h0
    have a := sumL_join d _ h0
    have b := sumL_join d _ h1
    have c : sumL L = sumL (L.take k) + sumL (L.drop k) := by rw [← sumL_app, List.take_append_drop]
    omega
theorem take_getD {M : List (List UInt8)} {k : Nat} (h : k < M.length) : M.take (k + 1) = M.take k ++ [M.getD k []] := by
  rw [List.take_succ_eq_append_getElem h, getD_at h]
theorem join_step (d : UInt8) {M : List (List UInt8)} {k : Nat} (h : k < M.length) (hk : 0 < k) : joinL d (M.take (k + 1)) = joinL d (M.take k) ++ d :: M.getD k [] := by
  rw [take_getD h, joinL_snoc _ _ _ (by intro e; have := congrArg List.length e; rw [List.length_take, List.length_nil] at this; omega)]
theorem join_first (d : UInt8) {M : List (List UInt8)} (h : 0 < M.length) : joinL d (M.take 1) = M.getD 0 [] := by
  rw [take_getD (k := 0) h, List.take_zero, List.nil_append, joinL_one]

set_option maxRecDepth 100000 in
set_option maxHeartbeats 3200000 in
theorem RPrint_any (v : Value) (L : List U) (w : World) (h : URow w v L) (hb : Big L) (hlen : (textL L).length ≤ 1000000) :
    Calls Tryd.prog 15 #[v] w fun e w' => e = .returned (.tuple #[.string (mk (printL L).1), .int .i64 (printL L).2]) ∧ Below w.heap.size w w' := by
  have HU := Lib.hid h
  have C := Lib.hid (RCheck_any v L w h hb)
  have HR1 : Hid (checkL L = 0 → printL L = (textL L, 0)) := fun h => if_pos h
  have HR2 : Hid (checkL L ≠ 0 → printL L = ([], checkL L)) := fun h => if_neg h
  obtain ⟨p, cap, rfl, hc, hm, _⟩ := h
  have hl := hb.1
  have HBig := Lib.hid hb
  have HLe := Lib.hid (fun k hk => line_le L k hk)
  have HLt := Lib.hid (fun k => textL_take_le L k)
  clear hb
  generalize printL L = pr at HR1 HR2 ⊢
  generalize checkL L = ch at C HR1 HR2
  by_cases h0 : ch = 0
  · have HR := Lib.hid (HR1.out h0)
    have hne : (ch != 0) = false := by simpa using h0
    clear h0 HR1 HR2
    go_enter Tryd.func15, Tryd.ntmps15
    go_wp2_with fail
    refine C.out.mono ?_
    rintro e w1 ⟨rfl, hB⟩
    have HB1 := Lib.hid hB
    have hsz1 := hB.size
    clear hB C
    go_wp2_with fail
    go_loopw [5, 15] (fun vs vi wr => ∃ (k : Nat) (t : List UInt8), vi = .int .i64 (k : Int) ∧ vs = .string (mk t) ∧ k ≤ L.length ∧ Hid (t = textL (L.take k)) ∧ Hid (Below w.heap.size w wr)) (fun _ vi _ => L.length - (intOf vi).toNat)
    case atStart => exact ⟨0, [], rfl, rfl, by omega, rfl, HB1.out⟩
    case round =>
      obtain ⟨k, t, rfl, rfl, hk, HT, HB⟩ := hrel
      have hsz := HB.out.size
      by_cases hlt : k < L.length
      · obtain ⟨b, o, cap', q, c, hp, hb, hcl, c0, c1, c2, hqc, hs⟩ := HU.out.at_ HB.out hlt
        obtain ⟨rfl, rfl⟩ : p = some ⟨b, o, none⟩ ∧ cap = cap' := by injection hp with h1 h2 h3; exact ⟨h1, h3⟩
        have hll := HLe.out k hlt
        have hmb := (HBig.out.2 k).2.2.1
        have hsn := Lib.hid (textL_snoc L k hlt)
        have HS := Lib.hid (hs.below HB.out)
        clear hp hs
        generalize hu : getL L k = uk at c0 c1 c2 hqc HS hll hsn hmb
        clear hu
        rw [← HT.out] at hll
        obtain ⟨un, ul, um⟩ := uk
        rw [lineT_len] at hll
        have k1 : (k : Int) < (L.length : Int) := by omega
        have k0 : (0 : Int) ≤ (k : Int) := by omega
        have a1 : ∀ W, (Op.stringOp .add (mk t) (mk un)).run Tryd.prog W = .ok (.string (mk (t ++ un))) W := add_str (by simp at hll; omega) rfl
        have a2 : ∀ W, (Op.stringOp .add (mk (t ++ un)) ⟨#[58]⟩).run Tryd.prog W = .ok (.string (mk (t ++ (un ++ [58])))) W := add_str (b := [58]) (by simp at hll ⊢; omega) (by simp)
        have a3 : ∀ W, (Op.stringOp .add (mk (t ++ (un ++ [58]))) (mk ul)).run Tryd.prog W = .ok (.string (mk (t ++ (un ++ 58 :: ul)))) W := add_str (by simp at hll ⊢; omega) (by simp)
        have a4 : ∀ W, (Op.stringOp .add (mk (t ++ (un ++ 58 :: ul))) ⟨#[58]⟩).run Tryd.prog W = .ok (.string (mk (t ++ (un ++ 58 :: (ul ++ [58]))))) W := add_str (b := [58]) (by simp at hll ⊢; omega) (by simp)
        go_wp2_with fail
        go_quiet (fail)
        go_wp2
        clear a1 a2 a3 a4
        have hcu : (um.length : Int) ≤ (c : Int) := by omega
        have hsn2 : ∀ t', t' = t ++ (un ++ 58 :: (ul ++ 58 :: joinL 44 um)) → t' ++ [10] = textL (L.take (k + 1)) := by
          rintro _ rfl
          rw [hsn.out, ← HT.out]
          simp [lineT]
        have HSN := Lib.hid hsn2
        have HJ := Lib.hid (fun j => join_take_le 44 um j)
        have HJ0 := Lib.hid (fun h => join_first 44 (M := um) h)
        have HJS := Lib.hid (fun j hj h0 => join_step 44 (M := um) (k := j) hj h0)
        have HJN : Hid (joinL 44 (um.take 0) = []) := joinL_nil 44
        have HBQ := Lib.hid (below_drewN HB.out nq)
        clear hsn2 hsn
        go_loop [5, 39] (fun vs vj => ∃ (j : Nat) (t' : List UInt8), vj = .int .i64 (j : Int) ∧ vs = .string (mk t') ∧ j ≤ um.length ∧ t'.length ≤ 1000000 ∧ Hid (t' = t ++ (un ++ 58 :: (ul ++ 58 :: joinL 44 (um.take j))))) (fun _ vj => um.length - (intOf vj).toNat)
        case atStart =>
          refine ⟨0, t ++ (un ++ 58 :: (ul ++ [58])), rfl, rfl, by omega, by simp at hll ⊢; omega, ?_⟩
          rw [Hid, HJN.out]
        case round =>
          obtain ⟨j, t', rfl, rfl, hj, ht', HT'⟩ := hrel
          by_cases hjl : j < um.length
          · obtain ⟨bb, o', hp, hb', c3⟩ := HS.out.at_ (below_drewN (Below.refl _ _) nq) hjl
            subst hp
            have hle := HJ.out (j + 1)
            by_cases hj0 : j = 0
            · subst hj0
              have hjf := HJ0.out (by omega)
              rw [show (0 + 1) = 1 from rfl, hjf] at hle
              have HE : Hid (t' ++ um.getD 0 [] = t ++ (un ++ 58 :: (ul ++ 58 :: joinL 44 (um.take 1)))) := by
                rw [Hid, hjf, HT'.out, HJN.out]; simp
              have hb2 : (t' ++ um.getD 0 []).length ≤ 1000000 := by
                rw [HE.out, hjf]; simp only [List.length_append, List.length_cons, List.length_nil] at hll hle ⊢; omega
              clear hjf
              generalize um.getD 0 [] = x at c3 HE hb2 hle
              have a1 : ∀ W, (Op.stringOp .add (mk t') (mk x)).run Tryd.prog W = .ok (.string (mk (t' ++ x))) W := add_str (by simp at hb2; omega) rfl
              rw [Nat.add_zero] at c3
              go_wp2
              exact ⟨⟨1, t' ++ x, rfl, rfl, by omega, hb2, HE⟩, by simp [intOf]; omega⟩
            · have hjs := HJS.out j hjl (by omega)
              have hpos : 0 < j := by omega
              rw [hjs] at hle
              have HE : Hid (t' ++ 44 :: um.getD j [] = t ++ (un ++ 58 :: (ul ++ 58 :: joinL 44 (um.take (j + 1))))) := by
                rw [Hid, hjs, HT'.out]; simp
              have hb2 : (t' ++ 44 :: um.getD j []).length ≤ 1000000 := by
                rw [HE.out, hjs]; simp only [List.length_append, List.length_cons, List.length_nil] at hll hle ⊢; omega
              clear hjs hj0
              generalize um.getD j [] = x at c3 HE hb2 hle
              have a0 : ∀ W, (Op.stringOp .add (mk t') ⟨#[44]⟩).run Tryd.prog W = .ok (.string (mk (t' ++ [44]))) W := add_str (b := [44]) (by simp; omega) rfl
              have a1 : ∀ W, (Op.stringOp .add (mk (t' ++ [44])) (mk x)).run Tryd.prog W = .ok (.string (mk (t' ++ 44 :: x))) W := add_str (by simp at hb2 ⊢; omega) (by simp)
              go_wp2
              exact ⟨⟨j + 1, t' ++ 44 :: x, by go_num, rfl, by omega, hb2, HE⟩, by simp [intOf]; omega⟩
          · have hjn : j = um.length := by omega
            have hT := HT'.out
            rw [hjn, List.take_length] at hT
            have HE := Lib.hid (HSN.out t' hT)
            clear hjn hT
            have a1 : ∀ W, (Op.stringOp .add (mk t') ⟨#[10]⟩).run Tryd.prog W = .ok (.string (mk (t' ++ [10]))) W := add_str (b := [10]) (by simp; omega) rfl
            go_wp2
            exact ⟨⟨k + 1, t' ++ [10], by go_num, rfl, by omega, HE, HBQ⟩, by simp [intOf]; omega⟩
      · have hkn : k = L.length := by omega
        have hT := HT.out
        rw [hkn, List.take_length] at hT
        have HT2 := Lib.hid hT
        clear hkn hT
        go_wp2
        go_ret2
        rw [HR.out, HT2.out]
        exact ⟨rfl, HB.out⟩
  · have HR := Lib.hid (HR2.out h0)
    have hne : (ch != 0) = true := by simpa using h0
    clear h0 HR1 HR2
    go_enter Tryd.func15, Tryd.ntmps15
    go_wp2_with fail
    refine C.out.mono ?_
    rintro e w1 ⟨rfl, hB⟩
    have HB1 := Lib.hid hB
    clear hB C
    go_wp2_with fail
    go_ret2
    rw [HR.out]
    exact ⟨rfl, HB1.out⟩
end Go.Proofs.YtadnkbhigcegmaaDoor
