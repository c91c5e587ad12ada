/-
  Paths built of their elements: package path's text, the reference's Build; the parts: strings.Split, the reference's Parts.
-/
import Derived.Test.YtoihflkhpbpljaaDoorPc
namespace Go.Proofs.YtoihflkhpbpljaaDoor
open Go.RowKit

theorem Join_lib (v : Value) (L : List (List UInt8)) (w : World) (h : SRow w v L) (hlen : (joinL L).length ≤ 1000000) :
    Calls Tryd.prog 36 #[v, .string ⟨#[47]⟩] w fun e w' => e = .returned (.string (mk (joinL L))) ∧ Below w.heap.size w w' := by
  obtain ⟨p, cap, rfl, hc, hm, h⟩ := h
  by_cases h0 : L = []
  · subst h0
    refine (Tryd.strings_Join_none p cap ⟨#[47]⟩ w).mono ?_
    rintro e w' ⟨rfl, rfl⟩
    exact ⟨rfl, Below.refl _ _⟩
  · obtain ⟨b, o, rfl, hb, hcell⟩ := h h0
    have e : ((L.map mk).map (·.data.toList)) = L := by
      rw [List.map_map]
      conv => rhs; rw [← List.map_id L]
      apply List.map_congr_left
      intro x _
      exact mk_data x
    have hl : L.length ≤ sumL L := len_le_sumL L
    have hj := sumL_join L h0
    have J := Tryd.strings_Join b o cap (L.map mk) ⟨#[47]⟩ w (fun j x hx => by
      rw [List.getElem?_map] at hx
      by_cases hj : j < L.length
      · rw [List.getElem?_eq_getElem hj] at hx
        simp only [Option.map_some, Option.some.injEq] at hx
        rw [← hx]
        exact hcell j hj
      · rw [List.getElem?_eq_none (by omega)] at hx; cases hx) hb (by simp; omega) (by simpa using hc) (by rw [e]; show (joinL L).length ≤ _; omega)
    rw [e, List.length_map] at J
    exact J

set_option maxHeartbeats 800000 in
theorem text_any (v : Value) (L : List (List UInt8)) (r : Bool) (w : World) (h : SRow w v L) (hlen : (joinL L).length ≤ 1000000) :
    Calls Tryd.prog 31 #[v, .bool r] w fun e w' => e = .returned (.string (mk (buildR r L))) ∧ Below w.heap.size w w' := by
  have J := Join_lib v L w h hlen
  have hs := mk_size (joinL L)
  obtain ⟨p, cap, rfl, hc, hm, h⟩ := h
  clear h
  have hsz : (mk (joinL L)).size ≤ 1000000 := by omega
  have HJ := Lib.hid J
  clear J hs hlen
  cases r with
  | true =>
    have HB : Hid (buildR true L = 47 :: joinL L) := by unfold buildR; simp [Hid]
    rw [HB.out]
    go_enter Tryd.func31, Tryd.ntmps31
    go_wp2_with fail
    refine HJ.out.mono ?_
    rintro e w' ⟨rfl, hB⟩
    have HBl := Lib.hid hB
    clear hB
    go_wp2
    go_ret
    exact ⟨by rw [mk_slash]; rfl, HBl.out⟩
  | false =>
    by_cases h0 : L = []
    · subst h0
      clear HJ
      go_enter Tryd.func31, Tryd.ntmps31
      go_wp2
      go_ret
      exact ⟨rfl, Below.refl _ _⟩
    · have HB : Hid (buildR false L = joinL L) := by unfold buildR; simp [Hid, h0]
      rw [HB.out]
      have hp : 0 < L.length := List.length_pos_iff.2 h0
      have hn : ((L.length : Int) == 0) = false := by simp; omega
      clear h0
      go_enter Tryd.func31, Tryd.ntmps31
      go_wp2_with fail
      refine HJ.out.mono ?_
      rintro e w' ⟨rfl, hB⟩
      have HBl := Lib.hid hB
      clear hB
      go_wp2
      go_ret
      exact ⟨rfl, HBl.out⟩

def rbuildL (r : Bool) (L : List (List UInt8)) : List UInt8 := if r = true then 47 :: joinL L else if joinL L = [] then [46] else joinL L
theorem joinL_nil_iff (L : List (List UInt8)) (h : ∀ x ∈ L, x ≠ []) : joinL L = [] ↔ L = [] := by
  constructor
  · intro e
    cases L with
    | nil => rfl
    | cons x r =>
      exfalso
      cases r with
      | nil => rw [joinL_one] at e; exact h x (by simp) e
      | cons y r => rw [joinL_cons2] at e; simp at e
  · rintro rfl; rfl
theorem rbuild_eq (r : Bool) (L : List (List UInt8)) (h : ∀ x ∈ L, x ≠ []) : rbuildL r L = buildR r L := by
  unfold rbuildL buildR
  simp only [joinL_nil_iff L h]

theorem joinL_take_le (L : List (List UInt8)) (k : Nat) : (joinL (L.take k)).length ≤ (joinL L).length := by
  by_cases h0 : L.take k = []
  · rw [h0]; simp [joinL, Lib.join_nil]
  · have h1 : L ≠ [] := by rintro rfl; simp at h0
    have a := sumL_join _ h0
    have b := sumL_join _ h1
    have c : sumL L = sumL (L.take k) + sumL (L.drop k) := by rw [← sumL_app, List.take_append_drop]
    omega

set_option maxHeartbeats 1600000 in
theorem Build_any (v : Value) (L : List (List UInt8)) (r : Bool) (w : World) (h : SRow w v L) (hlen : (joinL L).length ≤ 1000000) (hL : L.length ≤ 1000000) :
    Calls Tryd.prog 27 #[.bool r, v] w fun e w' => e = .returned (.string (mk (rbuildL r L))) ∧ w = w' := by
  obtain ⟨p, cap, rfl, hc, hm, h⟩ := h
  have HH := Lib.hid h
  have HLn := Lib.hid (fun k => joinL_take_le L k)
  have hr : ∀ t, t = joinL L → rbuildL r L = if r = true then 47 :: t else if t = [] then [46] else t := by rintro t rfl; rfl
  have HR := Lib.hid hr
  generalize rbuildL r L = res at HR ⊢
  clear h hr
  go_enter Tryd.func27, Tryd.ntmps27
  go_wp2
  go_loop [5, 6] (fun vs vi => ∃ (k : Nat) (t : List UInt8), vi = .int .i64 (k : Int) ∧ vs = .string (mk t) ∧ k ≤ L.length ∧ (mk t).size ≤ 1000000 ∧ Hid (t = joinL (L.take k))) (fun _ vi => L.length - (intOf vi).toNat)
  case atStart => exact ⟨0, [], rfl, rfl, by omega, by rw [mk_size]; simp, rfl⟩
  case round =>
    obtain ⟨k, t, rfl, rfl, hk, ht, hj⟩ := hrel
    by_cases hlt : k < L.length
    · obtain ⟨b, o, hp, hb, hcell⟩ := HH.out (by rintro rfl; simp at hlt)
      subst hp
      have hck := hcell k hlt
      have hu : sv L[k] = .string (mk L[k]) := rfl
      rw [hu] at hck
      have hsz := mk_size (joinL (L.take (k + 1)))
      have hle := HLn.out (k + 1)
      clear hcell hu
      by_cases hk0 : k = 0
      · subst hk0
        have e : joinL (L.take (0 + 1)) = L[0] := by rw [List.take_succ_eq_append_getElem hlt]; simp [joinL_one]
        rw [e] at hsz hle
        have hs2 : (mk L[0]).size ≤ 1000000 := by omega
        have ht0 : t = [] := by rw [hj.out]; rfl
        subst ht0
        have HE := Lib.hid e
        clear hsz hle e hj
        rw [Nat.add_zero] at hck
        go_wp2
        refine ⟨⟨1, L[0], rfl, ?_, by omega, by omega, ?_⟩, by simp [intOf]; omega⟩
        · rw [mk_app]; rfl
        · exact HE.out.symm
      · have hkp : 0 < k := by omega
        have e : joinL (L.take (k + 1)) = t ++ 47 :: L[k] := by
          rw [List.take_succ_eq_append_getElem hlt, joinL_snoc _ _ (by intro h; have := congrArg List.length h; rw [List.length_take, List.length_nil] at this; omega), hj.out]
        rw [e] at hsz hle
        have hm1 := mk_size t
        have hm2 := mk_size L[k]
        have hs2 : (mk t).size + (mk L[k]).size + 1 ≤ 1000000 := by simp at hle; omega
        have HE := Lib.hid e
        clear hsz hle e hj hm1 hm2 hk0
        go_wp2
        refine ⟨⟨k + 1, t ++ 47 :: L[k], by go_num, ?_, by omega, ?_, HE.out.symm⟩, by simp [intOf]; omega⟩
        · rw [show (⟨#[47]⟩ : ByteArray) = mk [47] from rfl, mk_app, mk_app]; simp
        · rw [mk_size]; have := mk_size t; have := mk_size L[k]; simp; omega
    · have hkl : k = L.length := by omega
      have hj' := hj.out
      rw [hkl, List.take_length] at hj'
      have HR' := Lib.hid (HR.out t hj')
      have htt := mk_toList t
      clear hj'
      cases r with
      | true =>
        clear htt
        go_wp2
        go_ret
        rw [HR'.out]
        exact ⟨by rw [mk_slash]; rfl, rfl⟩
      | false =>
        by_cases h0 : t = []
        · subst h0
          have h1 : (mk []).toList = [] := htt
          clear htt
          go_wp2
          go_ret
          rw [HR'.out]
          exact ⟨rfl, rfl⟩
        · have h1 : (mk t).toList ≠ [] := by rw [htt]; exact h0
          have h2 : (mk t).toList.isEmpty = false := by rw [htt]; simpa using h0
          have H0 := Lib.hid h0
          clear htt h0
          go_wp2
          go_ret
          rw [HR'.out, if_neg (by simp), if_neg H0.out]
          exact ⟨rfl, rfl⟩
end Go.Proofs.YtoihflkhpbpljaaDoor
