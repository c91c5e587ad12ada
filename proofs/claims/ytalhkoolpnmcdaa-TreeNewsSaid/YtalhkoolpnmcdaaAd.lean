/-
  Modes as numbers: the program's tests of bits. Nodes in memory. No walk in this text.
-/
import Derived.Test.YtalhkoolpnmcdaaAc
import Derived.Laws.Bits64
import Derived.Laws.BitsAllLaws
import Derived.Laws.BitsLemmas
import Derived.Laws.Bits128
import Derived.StillTailTactics
import Derived.Deep.MidRow
import Derived.Lib.SmallJoins
import Derived.IntWalk
import Derived.Deep.AppendLies
import Derived.Laws.OwnMore
import Derived.Maps.AppendAt
import Derived.OwnWalk
import Derived.Handy
namespace Go.Proofs.Ytalhkoolpnmcdaa
open Go.RowKit

/-! ### Bits of whatever int -/
/-- The 64 bits of an int. -/
def un (m : Int) : Nat := (m % 18446744073709551616).toNat
theorem un_lt (m : Int) : un m < 18446744073709551616 := by unfold un; omega
theorem ofInt_un (m : Int) : BitVec.ofInt 64 m = BitVec.ofNat 64 (un m) := by
  apply BitVec.eq_of_toNat_eq
  rw [BitVec.toNat_ofInt, BitVec.toNat_ofNat]
  unfold un
  rw [Nat.mod_eq_of_lt (by omega)]
  rfl
theorem ofInt_un_toNat (m : Int) : (BitVec.ofInt 64 m).toNat = un m := by
  rw [ofInt_un, BitVec.toNat_ofNat]; exact Nat.mod_eq_of_lt (un_lt m)
theorem and_un (m : Int) (b : Nat) (hb : b < 9223372036854775808) : bits .and .i64 m (b : Int) = ((un m &&& b : Nat) : Int) := by
  have hx : un m &&& b < 2 ^ 63 := Nat.and_lt_two_pow _ (by omega)
  show IntKind.i64.wrap ((BitVec.ofInt 64 m &&& BitVec.ofInt 64 (b : Int)).toNat : Int) = _
  have e : (BitVec.ofInt 64 (b : Int)).toNat = b := by rw [BitVec.ofInt_natCast, BitVec.toNat_ofNat]; exact Nat.mod_eq_of_lt (by omega)
  rw [BitVec.toNat_and, ofInt_un_toNat, e, IntKind.wrap_i64]
  omega
theorem andNot_un (m : Int) (b : Nat) (hb : b < 9223372036854775808) : bits .andNot .i64 m (b : Int) = IntKind.i64.wrap ((un m &&& (18446744073709551615 - b) : Nat) : Int) := by
  show IntKind.i64.wrap ((BitVec.ofInt 64 m &&& ~~~BitVec.ofInt 64 (b : Int)).toNat : Int) = _
  have e : (BitVec.ofInt 64 (b : Int)).toNat = b := by rw [BitVec.ofInt_natCast, BitVec.toNat_ofNat]; exact Nat.mod_eq_of_lt (by omega)
  rw [BitVec.toNat_and, BitVec.toNat_not, ofInt_un_toNat, e]
/-- Bit 31. -/
def dbit (m : Int) : Bool := decide (m / 2147483648 % 2 = 1)
theorem dbit_and (m : Int) : (bits .and .i64 m 2147483648 != 0) = dbit m := by
  have e := and_un m 2147483648 (by decide)
  have e2 : un m &&& 2147483648 = un m % 4294967296 / 2147483648 * 2147483648 := nat_midmask 32 31 _ (by decide)
  rw [e2] at e
  rw [show ((2147483648 : Nat) : Int) = 2147483648 from rfl] at e
  rw [e]
  unfold dbit
  have hu : (un m : Int) = m % 18446744073709551616 := by unfold un; omega
  rw [Bool.eq_iff_iff]
  simp only [bne_iff_ne, ne_eq, decide_eq_true_eq]
  omega
theorem low_and (m : Int) : bits .and .i64 m 511 = m % 512 := by
  have e := and_un m 511 (by decide)
  have e2 : un m &&& 511 = un m % 512 := by
    have := Nat.and_two_pow_sub_one_eq_mod (un m) 9
    exact this
  rw [e2] at e
  rw [show ((511 : Nat) : Int) = 511 from rfl] at e
  rw [e]
  have hu : (un m : Int) = m % 18446744073709551616 := by unfold un; omega
  omega
theorem dir_or {x : Int} (h0 : 0 ≤ x) (h1 : x < 512) : bits .or .i64 2147483648 x = 2147483648 + x := by
  obtain ⟨n, rfl⟩ := Int.eq_ofNat_of_zero_le h0
  have hx : 2147483648 ||| n = 2147483648 + n := by
    have := Nat.two_pow_add_eq_or_of_lt (i := 31) (b := n) (by omega) 1
    simpa using this.symm
  show IntKind.i64.wrap ((BitVec.ofInt 64 2147483648 ||| BitVec.ofInt 64 (n : Int)).toNat : Int) = _
  have e1 : (BitVec.ofInt 64 2147483648).toNat = 2147483648 := by decide
  have e : (BitVec.ofInt 64 (n : Int)).toNat = n := by rw [BitVec.ofInt_natCast, BitVec.toNat_ofNat]; exact Nat.mod_eq_of_lt (by omega)
  rw [BitVec.toNat_or, e1, e, IntKind.wrap_i64, hx]
  omega
theorem app_and (m : Int) : (bits .and .i64 m 1073741824 != 0) = appB m := by
  have e := and_un m 1073741824 (by decide)
  have e2 : un m &&& 1073741824 = un m % 2147483648 / 1073741824 * 1073741824 := nat_midmask 31 30 _ (by decide)
  rw [e2] at e
  rw [show ((1073741824 : Nat) : Int) = 1073741824 from rfl] at e
  rw [e]
  unfold appB
  have hu : (un m : Int) = m % 18446744073709551616 := by unfold un; omega
  rw [Bool.eq_iff_iff]
  simp only [bne_iff_ne, ne_eq, decide_eq_true_eq]
  omega
theorem mode_dir {m : Int} (h : inI m) (hd : dbit m = true) : (bits .andNot .i64 m 511 == 2147483648) = modeB m := by
  have e := andNot_un m 511 (by decide)
  have e2 : un m &&& (18446744073709551615 - 511) = un m % 18446744073709551616 / 512 * 512 := nat_midmask 64 9 _ (by decide)
  rw [e2] at e
  rw [show ((511 : Nat) : Int) = 511 from rfl, IntKind.wrap_i64] at e
  rw [e]
  have hu : (un m : Int) = m % 18446744073709551616 := by unfold un; omega
  unfold inI at h
  unfold dbit at hd
  unfold modeB
  rw [decide_eq_true_iff] at hd
  rw [Bool.eq_iff_iff]
  simp only [beq_iff_eq, decide_eq_true_eq]
  omega
theorem mode_file {m : Int} (h : inI m) (hd : dbit m = false) : (bits .andNot .i64 m 1610613247 == 0) = modeB m := by
  have e := andNot_un m 1610613247 (by decide)
  have e4 : un m &&& (18446744073709551615 - 1610613247) = (un m % 18446744073709551616 / 2147483648 * 2147483648) ||| (un m % 536870912 / 512 * 512) := by
    have a1 : un m &&& 18446744071562067968 = un m % 18446744073709551616 / 2147483648 * 2147483648 := nat_midmask 64 31 _ (by decide)
    have a2 : un m &&& 536870400 = un m % 536870912 / 512 * 512 := nat_midmask 29 9 _ (by decide)
    have a3 : 18446744073709551615 - 1610613247 = 18446744071562067968 ||| 536870400 := by decide
    rw [a3, Nat.and_or_distrib_left, a1, a2]
  have hlt : (un m &&& (18446744073709551615 - 1610613247)) < 18446744073709551616 := Nat.lt_of_le_of_lt Nat.and_le_left (un_lt m)
  rw [show ((1610613247 : Nat) : Int) = 1610613247 from rfl, IntKind.wrap_i64] at e
  have hz : (bits .andNot .i64 m 1610613247 == 0) = decide (un m &&& (18446744073709551615 - 1610613247) = 0) := by
    rw [e, Bool.eq_iff_iff]
    simp only [beq_iff_eq, decide_eq_true_eq]
    omega
  rw [hz, e4]
  have hu : (un m : Int) = m % 18446744073709551616 := by unfold un; omega
  unfold inI at h
  unfold dbit at hd
  unfold modeB
  rw [decide_eq_false_iff_not] at hd
  rw [decide_eq_decide, Nat.or_eq_zero_iff]
  omega
theorem dbit_dir {m : Int} (h : modeB m = true) : dbit m = dirB m := by
  unfold modeB at h
  unfold dbit dirB
  rw [decide_eq_true_iff] at h
  rw [decide_eq_decide]
  omega

/-! ### Nodes in memory -/
theorem add_at (b o j : Nat) : (⟨b, o, none⟩ : Addr).add j = ⟨b, o + j, none⟩ := by
  unfold Addr.add
  split
  · rename_i h; subst h; rfl
  · rfl
theorem mk_app (a b : List UInt8) : mk a ++ mk b = mk (a ++ b) := by
  apply ByteArray.ext
  simp [mk, ByteArray.data_append]
theorem below_drew {B : Nat} {a w : World} (h : Below B a w) : Below B a w.drew := ⟨h.os, h.tape, h.output, h.size, h.block⟩
theorem below_drewN {B : Nat} {a w : World} (h : Below B a w) (n : Nat) : Below B a (w.drewN n) := ⟨h.os, h.tape, h.output, h.size, h.block⟩
theorem below_setRow {B : Nat} {a w : World} (h : Below B a w) {g : Nat} (hg : B ≤ g) (cs : Array Value) : Below B a (w.setRow g cs) :=
  ⟨h.os, h.tape, h.output, by simp [World.setRow]; exact h.size, fun k hk => by
    have := h.block k hk
    rw [← this]
    simp only [World.setRow, Array.getElem?_modify]
    rw [if_neg (by omega)]⟩
theorem below_grown {B : Nat} {w w1 : World} {e : TypeId} {sz : Nat} {v : Value} {n : Nat} {xs : List Value} (hB : B ≤ w.heap.size) (hown : w.ownsRow B e sz v n xs) (hg : w.grownBy w1 v.ownBlock) : Below B w w1 :=
  (Below.refl B w).grown hg hB (fun k hk => (hown.lt k hk).1)

def cellsN (n : ND) : List Value := [.int .i64 n.id, .int .i64 n.pa, .int .i64 n.ve, .string (mk n.nm), .int .i64 n.mo, .string (mk n.ui), .string (mk n.gi), .string (mk n.mu), .int .i64 n.ti, .int .i64 n.mt, .string (mk n.da)]
theorem cellsN_len (n : ND) : (cellsN n).length = 11 := rfl
def cellsA (n : ND) : Array Value := (cellsN n).toArray
/-- A node as a value. -/
def nodeV (n : ND) : Value := .agg (cellsA n)
theorem cellsA_size (n : ND) : (cellsA n).size = 11 := rfl
theorem cellsA_one (n : ND) : (cellsA n).all (·.oneCell') = true := by simp [cellsA, cellsN, Value.oneCell']
theorem cellsN_one (n : ND) : ∀ u ∈ cellsN n, u.oneCell' = true := fun u hu => (Array.all_eq_true_iff_forall_mem.1 (cellsA_one n)) u (by simpa [cellsA] using hu)
/-- The block b is that of the node n. -/
def BlkN (w : World) (b : Nat) (n : ND) : Prop := w.heap[b]? = some (.cells (cellsA n) 31 (0, 0))
theorem BlkN.lt {w : World} {b : Nat} {n : ND} (h : BlkN w b n) : b < w.heap.size := (Array.getElem?_eq_some_iff.1 h).1
theorem BlkN.cell {w : World} {b : Nat} {n : ND} (h : BlkN w b n) (i : Nat) : w.cell? ⟨b, i, none⟩ = (cellsN n)[i]? := by
  rw [Joins.cell_of_block h i]; simp [cellsA]
theorem BlkN.frozen {w : World} {b : Nat} {n : ND} (h : BlkN w b n) (i : Nat) : w.frozen? ⟨b, i, none⟩ = false := by
  unfold BlkN at h
  simp [World.frozen?, h]
theorem BlkN.new (w : World) (n : ND) : BlkN (w.alloc (.cells (cellsA n) 31)) w.heap.size n := heap_alloc_new w _
theorem BlkN.alloc {w : World} {b : Nat} {n : ND} (h : BlkN w b n) (o : Obj) : BlkN (w.alloc o) b n := (Below.heap_alloc w o b h.lt).trans h
theorem BlkN.below {w w' : World} {b B : Nat} {n : ND} (h : BlkN w b n) (hB : Below B w w') (hb : b < B) : BlkN w' b n := (hB.block b hb).trans h
theorem BlkN.setRow {w : World} {b : Nat} {n : ND} (h : BlkN w b n) (e : ND) : BlkN (w.setRow b (cellsA e)) b e := setRow_heap w b _ _ _ _ h
theorem cells_nodeAt {w : World} {b : Nat} {n : ND} (h : BlkN w b n) : ∀ j u, (cellsN n)[j]? = some u → w.cell? ((⟨b, 0, none⟩ : Addr).add j) = some u := fun j u hu => by
  rw [add_at, Nat.zero_add, h.cell j]; exact hu
/-- All eleven cells of a node. -/
theorem cells11 {w : World} {b o : Nat} {n : ND} (h : ∀ j u, (cellsN n)[j]? = some u → w.cell? ⟨b, o + j, none⟩ = some u) :
    w.cell? ⟨b, o, none⟩ = some (.int .i64 n.id) ∧ w.cell? ⟨b, o + 1, none⟩ = some (.int .i64 n.pa) ∧ w.cell? ⟨b, o + 2, none⟩ = some (.int .i64 n.ve) ∧ w.cell? ⟨b, o + 3, none⟩ = some (.string (mk n.nm)) ∧ w.cell? ⟨b, o + 4, none⟩ = some (.int .i64 n.mo) ∧ w.cell? ⟨b, o + 5, none⟩ = some (.string (mk n.ui)) ∧ w.cell? ⟨b, o + 6, none⟩ = some (.string (mk n.gi)) ∧ w.cell? ⟨b, o + 7, none⟩ = some (.string (mk n.mu)) ∧ w.cell? ⟨b, o + 8, none⟩ = some (.int .i64 n.ti) ∧ w.cell? ⟨b, o + 9, none⟩ = some (.int .i64 n.mt) ∧ w.cell? ⟨b, o + 10, none⟩ = some (.string (mk n.da)) :=
  ⟨h 0 _ rfl, h 1 _ rfl, h 2 _ rfl, h 3 _ rfl, h 4 _ rfl, h 5 _ rfl, h 6 _ rfl, h 7 _ rfl, h 8 _ rfl, h 9 _ rfl, h 10 _ rfl⟩

def flatN (L : List ND) : List Value := L.flatMap cellsN
theorem flatN_len (L : List ND) : (flatN L).length = L.length * 11 := by
  induction L with
  | nil => rfl
  | cons d L ih => rw [flatN, List.flatMap_cons, List.length_append, cellsN_len]; simp only [flatN] at ih; rw [ih, List.length_cons]; omega
theorem flatN_get (L : List ND) : ∀ (k j : Nat), k < L.length → j < 11 → (flatN L)[k * 11 + j]? = (cellsN (getN L k))[j]? := by
  induction L with
  | nil => intro k j hk; simp at hk
  | cons d L ih =>
    intro k j hk hj
    rw [flatN, List.flatMap_cons]
    cases k with
    | zero =>
      rw [List.getElem?_append_left (by rw [cellsN_len]; omega)]
      simp [getN]
    | succ k =>
      rw [List.getElem?_append_right (by rw [cellsN_len]; omega), cellsN_len, show (k + 1) * 11 + j - 11 = k * 11 + j by omega]
      have := ih k j (by simpa using hk) hj
      rw [flatN] at this
      rw [this]
      simp [getN]
theorem flatN_snoc (L : List ND) (d : ND) : flatN (L ++ [d]) = flatN L ++ cellsN d := by simp [flatN]
theorem flatN_one (L : List ND) : ∀ u ∈ flatN L, u.oneCell' = true := fun u hu => by
  obtain ⟨n, _, h⟩ := List.mem_flatMap.1 hu
  exact cellsN_one n u h

/-- The slice v holds the nodes L, in a block that lies below the world's size. -/
def NRow (w : World) (v : Value) (L : List ND) : Prop :=
  ∃ p cap, v = .slice p L.length cap ∧ L.length ≤ cap ∧ cap ≤ maxLen ∧ (L ≠ [] → ∃ b o, p = some ⟨b, o, none⟩ ∧ b < w.heap.size ∧ ∀ k, k < L.length → w.rangeAt b (o + k * 11) (cellsN (getN L k)))
theorem rangeAt_below {w w' : World} {B b o : Nat} {cs : List Value} (h : w.rangeAt b o cs) (hB : Below B w w') (hb : b < B) : w'.rangeAt b o cs := fun j u hu => (hB.cell (p := ⟨b, o + j, none⟩) hb).trans (h j u hu)
theorem NRow.below {w w' : World} {v : Value} {L : List ND} (h : NRow w v L) (hB : Below w.heap.size w w') : NRow w' v L := by
  obtain ⟨p, cap, rfl, hc, hm, h⟩ := h
  refine ⟨p, cap, rfl, hc, hm, fun hL => ?_⟩
  obtain ⟨b, o, rfl, hb, hcell⟩ := h hL
  exact ⟨b, o, rfl, Nat.lt_of_lt_of_le hb hB.size, fun k hk => rangeAt_below (hcell k hk) hB hb⟩
theorem NRow.nil_ (w : World) : NRow w (.slice none 0 0) [] := ⟨none, 0, rfl, Nat.le_refl _, Nat.zero_le _, fun h => absurd rfl h⟩
/-- The form of a list that is not empty, in all later worlds. -/
theorem NRow.form {w : World} {v : Value} {L : List ND} (h : NRow w v L) (hL : 0 < L.length) :
    ∃ b o cap, v = .slice (some ⟨b, o, none⟩) L.length cap ∧ b < w.heap.size ∧ (L.length : Int) ≤ (cap : Int) ∧ (cap : Int) ≤ 9223372036854775807 ∧ ∀ wr, Below w.heap.size w wr → ∀ k, k < L.length → wr.rangeAt b (o + k * 11) (cellsN (getN L k)) := by
  obtain ⟨p, cap, rfl, hc, hm, h⟩ := h
  obtain ⟨b, o, rfl, hb, hcell⟩ := h (by rintro rfl; simp at hL)
  unfold maxLen at hm
  exact ⟨b, o, cap, rfl, hb, by omega, by omega, fun wr hB k hk => rangeAt_below (hcell k hk) hB hb⟩
/-- v is a slice of the call's own that holds the nodes acc. -/
def NOwn (B : Nat) (w : World) (v : Value) (acc : List ND) : Prop := w.ownsRow B 31 11 v acc.length (flatN acc)
theorem NOwn.nil_ (B : Nat) (w : World) : NOwn B w (.slice none 0 0) [] := World.ownsRow_nil _ _ _ _
theorem NOwn.row {B : Nat} {w : World} {v : Value} {acc : List ND} (h : NOwn B w v acc) : NRow w v acc := by
  have hown := h
  obtain ⟨h1, h2⟩ := h
  rcases h2 with ⟨rfl, hx⟩ | ⟨g, cap, cur, rfl, hb, hg, hnc, hcm, rest⟩
  · have : acc = [] := List.eq_nil_of_length_eq_zero hx
    subst this
    exact NRow.nil_ w
  · refine ⟨some ⟨g, 0, none⟩, cap, rfl, hnc, hcm, fun _ => ⟨g, 0, rfl, (Array.getElem?_eq_some_iff.1 hg).1, fun k hkl j u hu => ?_⟩⟩
    have hj : j < 11 := by
      have := (List.getElem?_eq_some_iff.1 hu).1
      rwa [cellsN_len] at this
    have := World.ownsRow.cells (w := w) hown rfl (k * 11 + j) u ((flatN_get acc k j hkl hj).trans hu)
    rw [add_at] at this
    rw [show 0 + k * 11 + j = 0 + (k * 11 + j) by omega]
    exact this
theorem NOwn.below {B : Nat} {w w' : World} {v : Value} {acc : List ND} (h : NOwn B w v acc) (hB : Below w.heap.size w w') : NOwn B w' v acc :=
  World.ownsRow.kept (row := none) h ⟨hB.os, hB.tape, hB.output, hB.size, fun k hk _ => hB.block k hk⟩ (by cases v.ownBlock <;> simp)
theorem NOwn.more {B : Nat} {w : World} {v : Value} {acc : List ND} {d : ND} (h : w.ownsRow B 31 11 v (acc.length + 1) (flatN acc ++ cellsN d)) : NOwn B w v (acc ++ [d]) := by
  unfold NOwn
  rw [List.length_append, flatN_snoc]
  exact h
theorem info_node : (Try.prog.info? 31).map (fun i => (i.zero, i.size, i.bytes)) = some (some (.agg (cellsA noN)), 11, 128) := by kernel_rfl

/-- A tree as a value. -/
def treeV (nx : Int) (v : Value) : Value := .agg #[.int .i64 nx, v]
end Go.Proofs.Ytalhkoolpnmcdaa
