/-
  Walks: closures over nodes; ContainsFunc; child, Find.
-/
import Derived.Test.YtalhkoolpnmcdaaAj
namespace Go.Proofs.Ytalhkoolpnmcdaa
open Go.RowKit

set_option maxRecDepth 100000 in
set_option maxHeartbeats 1600000 in
theorem ContainsFunc_any (g : Nat) (lb : Array Value) (p : ND → Bool) (eg : ∀ args w, (callFunc g args).run Try.prog w = .ok (.enter g args) w) (v : Value) (L : List ND) (w : World) (h : NRow w v L) (hp : Asks g lb p w) :
    Calls Try.prog 87 #[v, .func (.func g) #[] lb] w fun e w' => e = .returned (.bool (L.any p)) ∧ Below w.heap.size w w' := by
  have hI := Lib.hid (IndexFunc_any g lb p eg v L w h hp)
  have hr : decide (0 ≤ idxI L p) = L.any p := by
    unfold idxI
    rw [Bool.eq_iff_iff]
    simp only [decide_eq_true_eq, List.any_eq_true]
    rw [← List.findIdx_lt_length]
    split
    · rename_i hlt; exact ⟨fun _ => hlt, fun _ => by omega⟩
    · rename_i hlt; exact ⟨fun h => by omega, fun h => absurd h hlt⟩
  rw [← hr]
  clear hr eg hp
  obtain ⟨q, cap, rfl, hc, hm, _⟩ := h
  generalize idxI L p = r at *
  go_enter Try.func87, Try.ntmps87
  go_wp2_with fail
  refine hI.out.mono ?_
  rintro e w' ⟨rfl, hB⟩
  have HB := Lib.hid hB
  clear hB
  go_wp2
  go_ret
  exact ⟨rfl, HB.out⟩

/-- A string in a block of its own. -/
def BlkS (w : World) (b : Nat) (x : List UInt8) : Prop := w.cell? ⟨b, 0, none⟩ = some (.string (mk x)) ∧ b < w.heap.size
def BlkI (w : World) (b : Nat) (i : Int) : Prop := w.cell? ⟨b, 0, none⟩ = some (.int .i64 i) ∧ b < w.heap.size
theorem BlkS.below {w w' : World} {b : Nat} {x : List UInt8} (h : BlkS w b x) (hB : Below w.heap.size w w') : BlkS w' b x := ⟨(hB.cell (p := ⟨b, 0, none⟩) h.2).trans h.1, Nat.lt_of_lt_of_le h.2 hB.size⟩
theorem BlkI.below {w w' : World} {b : Nat} {x : Int} (h : BlkI w b x) (hB : Below w.heap.size w w') : BlkI w' b x := ⟨(hB.cell (p := ⟨b, 0, none⟩) h.2).trans h.1, Nat.lt_of_lt_of_le h.2 hB.size⟩

def namedB (d : Int) (x : List UInt8) (n : ND) : Bool := n.nm == x && kidB n d
set_option maxRecDepth 100000 in
set_option maxHeartbeats 3200000 in
theorem child1_any (n : ND) (x : List UInt8) (d : Int) (bs bi : Nat) (w : World) (hs : BlkS w bs x) (hi : BlkI w bi d) :
    Calls Try.prog 81 #[nodeV n, .pointer (some ⟨bs, 0, none⟩), .pointer (some ⟨bi, 0, none⟩)] w fun e w' => e = .returned (.bool (namedB d x n)) ∧ Below w.heap.size w w' := by
  have hB0 : Below w.heap.size w (w.alloc (.cells (cellsA n) 31)) := (Below.refl _ w).alloc (Nat.le_refl _) _
  have hK0 := BlkN.new w n
  obtain ⟨c1, b1⟩ := hs.below hB0
  obtain ⟨c2, b2⟩ := hi.below hB0
  have c3 := hK0.cell 3
  rw [show (cellsN n)[3]? = some (.string (mk n.nm)) from rfl] at c3
  have hK := Lib.hid (fun W => isChild_any n d W)
  have HR : Hid (namedB d x n = ((mk n.nm).toList == (mk x).toList && kidB n d)) := by rw [mk_toList, mk_toList]; exact rfl
  generalize namedB d x n = res at HR ⊢
  generalize hW : w.alloc (.cells (cellsA n) 31) = W at *
  replace hW := Lib.hid hW
  have HB0 := Lib.hid hB0
  have HK0 := Lib.hid hK0
  have hsz := Lib.hid (cellsA_size n)
  have hb1 := Lib.hid b1
  have hb2 := Lib.hid b2
  unfold nodeV at hK ⊢
  clear hs hi hB0 hK0 b1 b2
  cases h1 : ((mk n.nm).toList == (mk x).toList)
  all_goals
    have HR2 := HR.out
    rw [h1] at HR2
    replace HR2 := Lib.hid HR2
    clear HR
    go_enter Try.func81, Try.ntmps81
    go_wp2_with (first
      | (refine wpList_gload_row (by rfl) 31 _ rfl w.heap.size rfl 31 (cellsA n) (0, 0) _ HK0.out Try.underlying31 rfl (by kernel_rfl) ?_)
      | (go_at_call 52; refine (hK.out _).mono ?_; rintro e w' ⟨rfl, hB1⟩; have HB1 := Lib.hid (HB0.out.trans (hB1.mono HB0.out.size)); clear hB1)
      | simp only [hW.out])
    go_ret
    rw [HR2.out]
    first
      | exact ⟨rfl, HB0.out⟩
      | exact ⟨rfl, HB1.out⟩
end Go.Proofs.Ytalhkoolpnmcdaa
