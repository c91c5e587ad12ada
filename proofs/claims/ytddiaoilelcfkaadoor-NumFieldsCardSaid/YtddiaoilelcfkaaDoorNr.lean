/-
  The walk over the statement on fields.
-/
import Derived.Test.YtddiaoilelcfkaaDoorNq
namespace Go.Proofs.YtddiaoilelcfkaaDoor
open Go.RowKit

/-- The fields with a blank behind each. -/
def joinB (fs : List (List UInt8)) : List UInt8 := fs.flatMap fun f => f ++ [32]
/-- Not empty, and no separator in it. -/
def okF (f : List UInt8) : Prop := f ≠ [] ∧ ∀ x ∈ f, sepN x.toNat = false
theorem fld_ok : ∀ (l cur : List UInt8), (∀ x ∈ cur, sepN x.toNat = false) → ∀ f ∈ fld cur l, okF f := by
  intro l
  induction l with
  | nil => intro cur hc f hf; rw [fld] at hf; split at hf
           · simp at hf
           · simp at hf; subst hf; exact ⟨by assumption, hc⟩
  | cons c l ih =>
    intro cur hc f hf
    rw [fld] at hf
    split at hf
    · split at hf
      · exact ih [] (by simp) f hf
      · rcases List.mem_cons.1 hf with rfl | hf
        · exact ⟨by assumption, hc⟩
        · exact ih [] (by simp) f hf
    · rename_i hs
      exact ih _ (fun x hx => by
        rcases List.mem_append.1 hx with hx | hx
        · exact hc x hx
        · simp at hx; subst hx; simpa using hs) f hf
theorem flds_join : ∀ fs : List (List UInt8), (∀ f ∈ fs, okF f) → flds (joinB fs) = fs := by
  intro fs
  induction fs with
  | nil => intro _; rfl
  | cons f fs ih =>
    intro h
    have h0 := h f (by simp)
    have e := ih (fun g hg => h g (by simp [hg]))
    unfold flds at e ⊢
    rw [show joinB (f :: fs) = f ++ (32 :: joinB fs) by simp [joinB], fld_skip _ _ _ h0.2, List.nil_append, fld, if_pos (by decide), if_neg h0.1, e]
theorem joinB_len : ∀ (l cur : List UInt8), (joinB (fld cur l)).length ≤ cur.length + l.length + 1 := by
  intro l
  induction l with
  | nil => intro cur; rw [fld]; split <;> simp [joinB]
  | cons c l ih =>
    intro cur
    rw [fld]
    split
    · split
      · have := ih []; simp at this ⊢; omega
      · have := ih []; simp [joinB] at this ⊢; omega
    · have := ih (cur ++ [c]); simp at this ⊢; omega
theorem flds_len : ∀ (l cur : List UInt8), (fld cur l).length ≤ cur.length + l.length := by
  intro l
  induction l with
  | nil => intro cur; rw [fld]; split
           · simp
           · rename_i h; have := List.length_pos_iff.2 h; simp; omega
  | cons c l ih =>
    intro cur
    rw [fld]
    split
    · split
      · have := ih []; simp at this ⊢; omega
      · rename_i h; have := List.length_pos_iff.2 h; have := ih []; simp at this ⊢; omega
    · have := ih (cur ++ [c]); simp at this ⊢; omega
/-- What the loop has made of the first k fields. -/
def joinK (L : List ByteArray) (k : Nat) : List UInt8 := joinB ((L.take k).map (·.data.toList))
theorem joinK_succ (L : List ByteArray) (k : Nat) (h : k < L.length) : joinK L (k + 1) = joinK L k ++ L[k].data.toList ++ [32] := by
  unfold joinK joinB
  rw [List.take_succ_eq_append_getElem h, List.map_append, List.flatMap_append]
  simp only [List.map_cons, List.map_nil, List.flatMap_cons, List.flatMap_nil, List.append_nil, List.append_assoc]
theorem joinK_le (L : List ByteArray) (k : Nat) : (joinK L k).length ≤ (joinB (L.map (·.data.toList))).length := by
  unfold joinK joinB
  have e : L.map (·.data.toList) = (L.take k).map (·.data.toList) ++ (L.drop k).map (·.data.toList) := by rw [← List.map_append, List.take_append_drop]
  rw [e, List.flatMap_append, List.length_append]
  omega

set_option maxRecDepth 100000 in
set_option maxHeartbeats 1600000 in
theorem numFields_walk (s : ByteArray) (hs : s.size ≤ maxLen) (W : World) (g : G W) :
    Calls Tryd.prog 7 #[.string s] W fun e w' => e = .returned (.bool true) ∧ Below W.heap.size W w' := by
  unfold maxLen at hs
  have HG := Lib.hid g
  by_cases hbig : 5000 < s.size
  · have A := Lib.hid (awake_any W g)
    clear g
    go_enter Tryd.func7, Tryd.ntmps7
    go_wp2_with fail
    refine A.out.mono ?_
    rintro e w' ⟨rfl, hB⟩
    go_wp2
    go_ret
    exact ⟨rfl, hB⟩
  · have A1 := Lib.hid (Fields_any s W (by omega))
    have hL := goFields_flds s
    obtain ⟨L, hLd⟩ : ∃ L, Lib.goFieldsP sepN s = L := ⟨_, rfl⟩
    rw [hLd] at A1 hL
    have hsz : s.data.toList.length = s.size := by rw [Lib.size_eq]
    have hjl := joinB_len s.data.toList []
    have hfl := flds_len s.data.toList []
    change (joinB (flds _)).length ≤ _ at hjl
    change (flds _).length ≤ _ at hfl
    rw [← hL] at hjl hfl
    simp only [List.length_map, List.length_nil] at hjl hfl
    have hok : ∀ f ∈ L.map (·.data.toList), okF f := by rw [hL]; exact fld_ok _ _ (by simp)
    have hback : Lib.goFieldsP sepN ⟨(joinB (L.map (·.data.toList))).toArray⟩ = L := toList_inj (by rw [goFields_flds]; simp only []; exact flds_join _ hok)
    have hll : L.length ≤ 5000 := by omega
    have hjj : ∀ k, (joinK L k).length ≤ 5001 := fun k => Nat.le_trans (joinK_le L k) (by omega)
    have HJJ := Lib.hid hjj
    have HL := Lib.hid hL
    have HBK := Lib.hid hback
    clear g hL hLd hjl hfl hok hback hjj hsz
    go_enter Tryd.func7, Tryd.ntmps7
    go_wp2_with fail
    refine A1.out.mono ?_
    rintro e w1 ⟨v, rfl, hv, hB1⟩
    have V1 := Lib.hid hv
    have B1 := Lib.hid hB1
    clear hB1 hv
    go_wp2_with fail
    refine (RFields_any s w1 (by omega)).mono ?_
    rintro e w2 ⟨v2, M, rfl, hv2, hml, hM, hB2⟩
    have hLM : M = L := toList_inj (by rw [hM, HL.out])
    subst hLM
    have V2 := Lib.hid hv2
    have V1' := Lib.hid (V1.out.below hB2)
    have B2 := Lib.hid (B1.out.trans (hB2.mono B1.out.size))
    clear hB2 hv2 hM hml V1 B1
    go_wp2_with fail
    refine (Same_any _ _ M M w2 V1'.out V2.out (by omega) (by omega)).mono ?_
    rw [show sameL M M = true by simp [sameL]]
    rintro e w3 ⟨rfl, hB3⟩
    have V3 := Lib.hid (V1'.out.below hB3)
    have B3 := Lib.hid (B2.out.trans (hB3.mono B2.out.size))
    clear hB3 V2 V1' B2
    obtain ⟨p, cap, rfl, hrow⟩ := V3.out
    have HROW := Lib.hid hrow
    clear hrow
    go_wp2
    go_loop [4, 19] (fun vt vi => ∃ k : Nat, vi = .int .i64 (k : Int) ∧ vt = .string ⟨(joinK M k).toArray⟩ ∧ k ≤ M.length) (fun _ vi => M.length - (intOf vi).toNat)
    case atStart => exact ⟨0, rfl, rfl, by omega⟩
    case round =>
      obtain ⟨k, rfl, rfl, hk⟩ := hrel
      by_cases hkn : k < M.length
      · obtain ⟨bb, oo, rfl, hbb, hc⟩ := HROW.out (fun h => by rw [h] at hkn; simp at hkn)
        have hcell := hc k hkn
        have hj := HJJ.out k
        have hj2 := HJJ.out (k + 1)
        rw [joinK_succ M k hkn] at hj2
        have HS := Lib.hid (joinK_succ M k hkn)
        generalize M[k] = x at hcell hj2 HS
        simp only [List.length_append, List.length_cons, List.length_nil, ← Lib.size_eq] at hj2
        have ki : (k : Int) < (M.length : Int) := by omega
        have kj : (0 : Int) ≤ (k : Int) := by omega
        clear hc
        go_wp2
        refine ⟨⟨k + 1, by go_num, ?_, by omega⟩, by simp [intOf]; omega⟩
        rw [HS.out]
        congr 1
        try (apply ByteArray.ext; simp [ByteArray.data_append])
      · have hkl : k = M.length := by omega
        subst hkl
        have hjs := HJJ.out M.length
        have hjk : joinK M M.length = joinB (M.map (·.data.toList)) := by rw [joinK, List.take_length]
        have F := Fields_any ⟨(joinK M M.length).toArray⟩ w3 (by simp [ByteArray.size]; omega)
        rw [show Lib.goFieldsP sepN ⟨(joinK M M.length).toArray⟩ = M by rw [hjk]; exact HBK.out] at F
        replace F := Lib.hid F
        clear hjk hjs
        go_wp2_with fail
        refine F.out.mono ?_
        rintro e w4 ⟨v4, rfl, hv4, hB4⟩
        have V4 := Lib.hid hv4
        have V3' := Lib.hid (V3.out.below hB4)
        have B4 := Lib.hid (B3.out.trans (hB4.mono B3.out.size))
        clear hv4 hB4
        go_wp2_with fail
        refine (Same_any _ _ M M w4 V4.out V3'.out (by omega) (by omega)).mono ?_
        rw [show sameL M M = true by simp [sameL]]
        rintro e w5 ⟨rfl, hB5⟩
        have B5 := Lib.hid (B4.out.trans (hB5.mono B4.out.size))
        clear hB5
        go_wp2_with fail
        refine (awake_end HG.out B5.out).mono ?_
        rintro e w2 ⟨rfl, hB2⟩
        go_wp2
        go_ret
        exact ⟨rfl, hB2⟩
end Go.Proofs.YtddiaoilelcfkaaDoor
