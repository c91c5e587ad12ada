/-
  The laws' own functions: small, three.
-/
import Derived.Test.YtadnkbhigcegmaaDoorUt
import Derived.Test.YtadnkbhigcegmaaDoorUu
namespace Go.Proofs.YtadnkbhigcegmaaDoor
open Go.RowKit

def okU (u : U) : Prop := u.m.length ≤ 30 ∧ u.n.length ≤ 200 ∧ u.l.length ≤ 200 ∧ ∀ j, j < u.m.length → (u.m.getD j []).length ≤ 200
instance (u : U) : Decidable (okU u) := by unfold okU; infer_instance
def smallL (L : List U) : Bool := decide (L.length ≤ 70) && decide (∀ k, k < L.length → okU (getL L k))
theorem okU_go {L : List U} {k : Nat} (h : ∀ j, j < k → okU (getL L j)) (he : okU (getL L k)) : ∀ j, j < k + 1 → okU (getL L j) := fun j hj => by
  by_cases e : j = k
  · subst e; exact he
  · exact h j (by omega)
theorem len_go {M : List (List UInt8)} {k : Nat} (h : ∀ j, j < k → (M.getD j []).length ≤ 200) (he : (M.getD k []).length ≤ 200) : ∀ j, j < k + 1 → (M.getD j []).length ≤ 200 := fun j hj => by
  by_cases e : j = k
  · subst e; exact he
  · exact h j (by omega)

set_option maxRecDepth 100000 in
set_option maxHeartbeats 1600000 in
theorem small_any (v : Value) (L : List U) (w : World) (h : URow w v L) :
    Calls Tryd.prog 13 #[v] w fun e w' => e = .returned (.bool (smallL L)) ∧ w = w' := by
  have HU := Lib.hid h
  obtain ⟨p, cap, rfl, hc, hm, _⟩ := h
  by_cases h70 : L.length ≤ 70
  · have hr : ∀ r, r = smallL L → ((∀ k, k < L.length → okU (getL L k)) → r = true) ∧ (∀ k, k < L.length → ¬ okU (getL L k) → r = false) := by
      rintro _ rfl
      unfold smallL
      rw [decide_eq_true h70, Bool.true_and]
      exact ⟨fun h => decide_eq_true h, fun k hk hn => decide_eq_false (fun h => hn (h k hk))⟩
    have hR := hr _ rfl
    clear hr
    generalize smallL L = r at hR ⊢
    have HT := Lib.hid hR.1
    have HF := Lib.hid hR.2
    clear hR
    go_enter Tryd.func13, Tryd.ntmps13
    go_wp2
    go_loop [10] (fun vi => ∃ k : Nat, vi = .int .i64 (k : Int) ∧ k ≤ L.length ∧ Hid (∀ j, j < k → okU (getL L j))) (fun vi => L.length - (intOf vi).toNat)
    case atStart => exact ⟨0, rfl, by omega, fun j hj => by omega⟩
    case round =>
      obtain ⟨k, rfl, hk, HA⟩ := hrel
      by_cases hlt : k < L.length
      · obtain ⟨b, o, cap', q, c, hp, hb, hcl, c0, c1, c2, hqc, hs⟩ := HU.out.at_ (Below.refl _ _) hlt
        obtain ⟨rfl, rfl⟩ : p = some ⟨b, o, none⟩ ∧ cap = cap' := by injection hp with h1 h2 h3; exact ⟨h1, h3⟩
        have HS := Lib.hid hs
        have hF := fun h => HF.out k hlt h
        have HG := Lib.hid (fun h => okU_go HA.out h)
        clear hp hs
        generalize getL L k = uk at c0 c1 c2 hqc HS hF HG
        obtain ⟨un, ul, um⟩ := uk
        dsimp only at c0 c1 c2 hqc HS
        have z1 := mk_size un
        have z2 := mk_size ul
        by_cases g1 : um.length ≤ 30
        · by_cases g2 : un.length ≤ 200
          · by_cases g3 : ul.length ≤ 200
            · have s1 : (mk un).size ≤ 200 := by omega
              have s2 : (mk ul).size ≤ 200 := by omega
              have hHF : Hid (∀ j, j < um.length → ¬ (um.getD j []).length ≤ 200 → r = false) := fun j hj hn => hF (fun h => hn (h.2.2.2 j hj))
              have hHG : Hid ((∀ j, j < um.length → (um.getD j []).length ≤ 200) → ∀ j, j < k + 1 → okU (getL L j)) := fun h => HG.out ⟨g1, g2, g3, h⟩
              have hcq : (um.length : Int) ≤ (c : Int) := by omega
              clear hF HG z1 z2
              go_wp2
              go_loop [44] (fun vj => ∃ j : Nat, vj = .int .i64 (j : Int) ∧ j ≤ um.length ∧ Hid (∀ i, i < j → (um.getD i []).length ≤ 200)) (fun vj => um.length - (intOf vj).toNat)
              case atStart => exact ⟨0, rfl, by omega, fun j hj => by omega⟩
              case round =>
                obtain ⟨j, rfl, hj, HB⟩ := hrel
                by_cases hjl : j < um.length
                · obtain ⟨b', o', hp', hb', d0⟩ := HS.out.at_ (Below.refl _ _) hjl
                  subst hp'
                  have z3 := mk_size (um.getD j [])
                  by_cases g4 : (um.getD j []).length ≤ 200
                  · have HB2 := Lib.hid (len_go HB.out g4)
                    have s3 : (mk (um.getD j [])).size ≤ 200 := by omega
                    clear z3 g4
                    generalize um.getD j [] = t at d0 s3
                    go_wp2
                    exact ⟨⟨j + 1, by go_num, by omega, HB2⟩, by simp [intOf]; omega⟩
                  · have HR := Lib.hid (hHF.out j hjl g4)
                    have s3 : 200 < (mk (um.getD j [])).size := by omega
                    clear z3 g4
                    generalize um.getD j [] = t at d0 s3
                    go_wp2
                    go_ret
                    rw [HR.out]
                    exact ⟨rfl, rfl⟩
                · have hjn : j = um.length := by omega
                  have HA2 := Lib.hid (hHG.out (by rw [← hjn]; exact HB.out))
                  clear hjn
                  go_wp2
                  exact ⟨⟨k + 1, by go_num, by omega, HA2⟩, by simp [intOf]; omega⟩
            · have s2 : 200 < (mk ul).size := by omega
              have s1 : (mk un).size ≤ 200 := by omega
              have HR := Lib.hid (hF (fun h => g3 h.2.2.1))
              clear z1 z2 hF
              go_wp2
              go_ret
              rw [HR.out]
              exact ⟨rfl, rfl⟩
          · have s1 : 200 < (mk un).size := by omega
            have HR := Lib.hid (hF (fun h => g2 h.2.1))
            clear z1 z2 hF
            go_wp2
            go_ret
            rw [HR.out]
            exact ⟨rfl, rfl⟩
        · have HR := Lib.hid (hF (fun h => g1 h.1))
          clear z1 z2 hF
          go_wp2
          go_ret
          rw [HR.out]
          exact ⟨rfl, rfl⟩
      · have hkn : k = L.length := by omega
        have HR := Lib.hid (HT.out (by rw [← hkn]; exact HA.out))
        clear hkn
        go_wp2
        go_ret
        rw [HR.out]
        exact ⟨rfl, rfl⟩
  · have hr : Hid (smallL L = false) := by unfold smallL; rw [Hid, decide_eq_false h70]; rfl
    generalize smallL L = r at hr ⊢
    go_enter Tryd.func13, Tryd.ntmps13
    go_wp2
    go_ret
    rw [hr.out]
    exact ⟨rfl, rfl⟩

def threeL : List U := [⟨[97, 100, 109], [97, 110, 110], [[97, 110, 110], [98, 111, 98]]⟩, ⟨[97, 110, 110], [], []⟩, ⟨[98, 111, 98], [], []⟩]
set_option maxRecDepth 100000 in
set_option maxHeartbeats 1600000 in
theorem three_any (w : World) : Calls Tryd.prog 28 #[] w fun e w' => ∃ v, e = .returned v ∧ URow w' v threeL ∧ Below w.heap.size w w' := by
  go_enter Tryd.func28, Tryd.ntmps28
  go_wp2
  go_ret
  have hx := heap_alloc_new (w.alloc (.cells #[.string ⟨#[97, 110, 110]⟩, .string ⟨#[98, 111, 98]⟩] 9)) (.cells #[.string ⟨#[97, 100, 109]⟩, .string ⟨#[97, 110, 110]⟩, .slice (some ⟨w.heap.size, 0, none⟩) 2 2, .string ⟨#[97, 110, 110]⟩, .string ⟨#[]⟩, .slice none 0 0, .string ⟨#[98, 111, 98]⟩, .string ⟨#[]⟩, .slice none 0 0] 32 (0, 0))
  rw [World.size_alloc] at hx
  have hy := (Below.heap_alloc (w.alloc (.cells #[.string ⟨#[97, 110, 110]⟩, .string ⟨#[98, 111, 98]⟩] 9)) (.cells #[.string ⟨#[97, 100, 109]⟩, .string ⟨#[97, 110, 110]⟩, .slice (some ⟨w.heap.size, 0, none⟩) 2 2, .string ⟨#[97, 110, 110]⟩, .string ⟨#[]⟩, .slice none 0 0, .string ⟨#[98, 111, 98]⟩, .string ⟨#[]⟩, .slice none 0 0] 32 (0, 0)) w.heap.size (by simp)).trans (heap_alloc_new w (.cells #[.string ⟨#[97, 110, 110]⟩, .string ⟨#[98, 111, 98]⟩] 9 (0, 0)))
  refine ⟨_, rfl, ⟨_, 3, rfl, Nat.le_refl _, by unfold maxLen; decide, fun _ => ⟨w.heap.size + 1, 0, rfl, by simp, fun k hk => ?_⟩⟩, ((Below.refl w.heap.size w).alloc (Nat.le_refl _) _).alloc (by simp) _⟩
  have hk3 : k < 3 := hk
  have hc := fun j => cell_of_row _ _ j _ _ (0, 0) hx
  match k, hk3 with
  | 0, _ =>
    refine ⟨.slice (some ⟨w.heap.size, 0, none⟩) 2 2, (hc 0).trans rfl, (hc 1).trans rfl, (hc 2).trans rfl, ⟨_, 2, rfl, Nat.le_refl _, by unfold maxLen; decide, fun _ => ⟨w.heap.size, 0, rfl, by simp; omega, fun j hj => ?_⟩⟩⟩
    have hj2 : j < 2 := hj
    match j, hj2 with
    | 0, _ => exact (cell_of_row _ _ 0 _ _ (0, 0) hy).trans rfl
    | 1, _ => exact (cell_of_row _ _ 1 _ _ (0, 0) hy).trans rfl
  | 1, _ => exact ⟨.slice none 0 0, (hc 3).trans rfl, (hc 4).trans rfl, (hc 5).trans rfl, SRow.nil_ _⟩
  | 2, _ => exact ⟨.slice none 0 0, (hc 6).trans rfl, (hc 7).trans rfl, (hc 8).trans rfl, SRow.nil_ _⟩
end Go.Proofs.YtadnkbhigcegmaaDoor
