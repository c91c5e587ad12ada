/-
  The walk over the statement OctetBack.
-/
import Derived.Test.YtagllhphchmfhaaOp
namespace Go.Proofs.Ytagllhphchmfhaa
open Go.RowKit

/-- The three strings in memory. -/
def Arr (g : Nat) (a b c : ByteArray) (w : World) : Prop := g < w.heap.size ∧ w.cell? ⟨g, 0, none⟩ = some (.string a) ∧ w.cell? ⟨g, 1, none⟩ = some (.string b) ∧ w.cell? ⟨g, 2, none⟩ = some (.string c)
theorem Arr.below {g : Nat} {a b c : ByteArray} {w w' : World} (h : Arr g a b c w) (hB : Below w.heap.size w w') : Arr g a b c w' :=
  ⟨Nat.lt_of_lt_of_le h.1 hB.size, by rw [hB.cell (p := ⟨g, 0, none⟩) h.1]; exact h.2.1, by rw [hB.cell (p := ⟨g, 1, none⟩) h.1]; exact h.2.2.1, by rw [hB.cell (p := ⟨g, 2, none⟩) h.1]; exact h.2.2.2⟩
theorem Arr.new (a b c : ByteArray) (w : World) (e : TypeId) : Arr w.heap.size a b c (w.alloc (.cells #[.string a, .string b, .string c] e)) :=
  ⟨by simp, by rw [World.cell?_alloc_new]; rfl, by rw [World.cell?_alloc_new]; rfl, by rw [World.cell?_alloc_new]; rfl⟩

theorem mid_data (a c : ByteArray) (p : List UInt8) : (a ++ ⟨p.toArray⟩ ++ c).data.toList = a.data.toList ++ (p ++ c.data.toList) := by simp [ByteArray.data_append]
theorem mid_size (a c : ByteArray) (p : List UInt8) : (a ++ ⟨p.toArray⟩ ++ c).size = a.size + p.length + c.size := by
  rw [ByteArray.size_append, ByteArray.size_append]; rfl
theorem mid_sub (a c : ByteArray) (p : List UInt8) : sub (a ++ ⟨p.toArray⟩ ++ c) a.size p.length = p := by
  unfold sub
  rw [mid_data, ← show a.data.toList.length = a.size from Array.length_toList]
  simp
theorem putR_cases (n w : Int) (hn : inI n) : (∃ c, c ≠ 0 ∧ putR n w = ([], c)) ∨ (∃ k m : Nat, w = k ∧ n = m ∧ 1 ≤ k ∧ k ≤ 8 ∧ m < 256 ^ k ∧ putR n w = (le k m, 0)) := by
  by_cases h1 : w < 1 ∨ 8 < w
  · exact .inl ⟨1, by omega, by rw [putR, if_pos h1]⟩
  by_cases h2 : n < 0 ∨ (256 ^ w.toNat : Nat) ≤ n.toNat
  · exact .inl ⟨5, by omega, by rw [putR, if_neg h1, if_pos h2]⟩
  exact .inr ⟨w.toNat, n.toNat, by omega, by omega, by omega, by omega, by omega, by rw [putR, if_neg h1, if_neg h2]⟩
theorem getR_back (a c : ByteArray) (k m : Nat) (hk : 1 ≤ k) (hk8 : k ≤ 8) (hm : m < 256 ^ k) (hm2 : m < 9223372036854775808) :
    getR (a ++ ⟨(le k m).toArray⟩ ++ c).data.toList a.size k = ((m : Int), (a.size : Int) + k, 0) := by
  have hsz := mid_size a c (le k m)
  have hs := mid_sub a c (le k m)
  rw [le_len] at hsz hs
  have hlen : (a ++ ⟨(le k m).toArray⟩ ++ c).data.toList.length = (a ++ ⟨(le k m).toArray⟩ ++ c).size := Array.length_toList
  rw [getR, if_neg (by omega), if_neg (by omega)]
  have e : ((a ++ ⟨(le k m).toArray⟩ ++ c).data.toList.drop (a.size : Int).toNat).take (k : Int).toNat = le k m := hs
  rw [e, val_le k m hm, if_neg (by omega)]
theorem getTextR_back (a c l : ByteArray) (hl : l.size < 65536) :
    getTextR (a ++ ⟨(le 2 l.size ++ l.data.toList).toArray⟩ ++ c).data.toList a.size = (l.data.toList, (a.size : Int) + 2 + l.size, 0) := by
  have hll : l.data.toList.length = l.size := Array.length_toList
  have hpl : (le 2 l.size ++ l.data.toList).length = 2 + l.size := by rw [List.length_append, le_len, hll]
  have hsz := mid_size a c (le 2 l.size ++ l.data.toList)
  have hs := mid_sub a c (le 2 l.size ++ l.data.toList)
  rw [hpl] at hsz hs
  have hlen : (a ++ ⟨(le 2 l.size ++ l.data.toList).toArray⟩ ++ c).data.toList.length = (a ++ ⟨(le 2 l.size ++ l.data.toList).toArray⟩ ++ c).size := Array.length_toList
  generalize a ++ ⟨(le 2 l.size ++ l.data.toList).toArray⟩ ++ c = z at hsz hs hlen
  rw [sub_add] at hs
  have h1 : sub z a.size 2 = le 2 l.size := (List.append_inj hs (by rw [sub_len _ _ _ (by omega), le_len])).1
  have h2 : sub z (a.size + 2) l.size = l.data.toList := (List.append_inj hs (by rw [sub_len _ _ _ (by omega), le_len])).2
  have hg : getR z.data.toList (a.size : Int) 2 = ((l.size : Int), (a.size : Int) + 2, 0) := by
    rw [getR, if_neg (by omega), if_neg (by omega)]
    have e : (z.data.toList.drop (a.size : Int).toNat).take (2 : Int).toNat = le 2 l.size := h1
    rw [e, val_le 2 l.size hl, if_neg (by omega)]
  rw [getTextR_ok hlen hg (by omega)]
  exact congrArg (·, _) h2

set_option maxRecDepth 100000 in
set_option maxHeartbeats 3200000 in
theorem octetBack_walk (n wd : Int) (a b c : ByteArray) (hn : inI n) (_hw : inI wd) (ha : a.size ≤ maxLen) (hb : b.size ≤ maxLen) (hc : c.size ≤ maxLen) (w : World) :
    Calls Try.prog 6 #[.int .i64 n, .int .i64 wd, .agg #[.string a, .string b, .string c]] w fun e w' => e = .returned (.bool true) ∧ Below w.heap.size w w' := by
  have HA := Lib.hid (fun w => alive_any w)
  have HP := Lib.hid (fun w => Put_any n wd hn w)
  have HT := Lib.hid (fun w => PutText_any b hb w)
  have HN := Lib.hid (Arr.new a b c w 35)
  have HB0 := Lib.hid ((Below.refl w.heap.size w).alloc (Nat.le_refl _) (.cells #[.string a, .string b, .string c] 35))
  unfold maxLen at ha hb hc
  by_cases h1 : 300 < a.size
  · clear HP HT HN
    go_enter Try.func6, Try.ntmps6
    go_wp2_with fail
    refine (HA.out _).mono ?_
    rintro e w' ⟨rfl, hB⟩
    go_wp2
    go_ret
    exact ⟨rfl, HB0.out.trans (hB.mono HB0.out.size)⟩
  by_cases h2 : 300 < b.size
  · clear HP HT HN
    go_enter Try.func6, Try.ntmps6
    go_wp2_with fail
    refine (HA.out _).mono ?_
    rintro e w' ⟨rfl, hB⟩
    go_wp2
    go_ret
    exact ⟨rfl, HB0.out.trans (hB.mono HB0.out.size)⟩
  by_cases h3 : 300 < c.size
  · clear HP HT HN
    go_enter Try.func6, Try.ntmps6
    go_wp2_with fail
    refine (HA.out _).mono ?_
    rintro e w' ⟨rfl, hB⟩
    go_wp2
    go_ret
    exact ⟨rfl, HB0.out.trans (hB.mono HB0.out.size)⟩
  -- PutText, and what GetText reads of it
  have hbl : b.data.toList.length = b.size := Array.length_toList
  have hpt : putTextR b.data.toList = (le 2 b.size ++ b.data.toList, 0) := by rw [putTextR, if_neg (by omega), hbl]
  have h5 := fun w => GetText_any (a ++ ⟨(le 2 b.size ++ b.data.toList).toArray⟩ ++ c) a.size (by rw [mid_size, List.length_append, le_len, hbl]; unfold maxLen; omega) w
  simp only [getTextR_back a c b (by omega)] at h5
  have hbb : (⟨b.data.toList.toArray⟩ : ByteArray) = b := by apply ByteArray.ext; simp
  simp only [hbb] at h5
  have hpl : (⟨(le 2 b.size ++ b.data.toList).toArray⟩ : ByteArray).size = 2 + b.size := by show (le 2 b.size ++ b.data.toList).toArray.size = _; rw [List.size_toArray, List.length_append, le_len, hbl]
  rw [hpt] at HT
  generalize le 2 b.size ++ b.data.toList = q at HT h5 hpl
  have HG := Lib.hid h5
  clear h5 hpt hbl hbb
  rcases putR_cases n wd hn with ⟨d, hd, hp⟩ | ⟨k, m, rfl, rfl, hk, hk8, hm, hp⟩
  · rw [hp] at HP
    have hd0 : (d == 0) = false := by simpa using hd
    clear hp hd hn
    go_enter Try.func6, Try.ntmps6
    go_wp2_with fail
    refine (HP.out _).mono ?_
    rintro e w1 ⟨rfl, B1⟩
    have HN1 := Lib.hid (HN.out.below B1)
    have HB1 := Lib.hid (HB0.out.trans (B1.mono HB0.out.size))
    obtain ⟨g0, g1, g2, g3⟩ := HN1.out
    clear B1 HB0
    go_wp2_with fail
    refine (HT.out _).mono ?_
    rintro e w2 ⟨rfl, B2⟩
    have HN2 := Lib.hid (HN1.out.below B2)
    have HB2 := Lib.hid (HB1.out.trans (B2.mono HB1.out.size))
    clear g0 g1 g2 g3
    obtain ⟨g0, g1, g2, g3⟩ := HN2.out
    clear B2 HB1
    go_wp2_with fail
    refine (HG.out _).mono ?_
    rintro e w3 ⟨rfl, B3⟩
    have HN3 := Lib.hid (HN2.out.below B3)
    have HB3 := Lib.hid (HB2.out.trans (B3.mono HB2.out.size))
    clear g0 g1 g2 g3
    obtain ⟨g0, g1, g2, g3⟩ := HN3.out
    clear B3 HB2
    go_wp2_with fail
    refine (HA.out _).mono ?_
    rintro e w4 ⟨rfl, B4⟩
    go_wp2
    go_ret
    exact ⟨rfl, HB3.out.trans (B4.mono HB3.out.size)⟩
  · rw [hp] at HP
    have h6 := fun w => Get_any (a ++ ⟨(le k m).toArray⟩ ++ c) a.size k (by rw [mid_size, le_len]; unfold maxLen; omega) w
    have hm2 : m < 9223372036854775808 := by have := hn.2; omega
    simp only [getR_back a c k m hk hk8 hm hm2] at h6
    have hl : (⟨(le k m).toArray⟩ : ByteArray).size = k := by show (le k m).toArray.size = _; rw [List.size_toArray, le_len]
    generalize le k m = p at HP h6 hl
    have HQ := Lib.hid h6
    clear h6 hp hn hm hm2
    go_enter Try.func6, Try.ntmps6
    go_wp2_with fail
    refine (HP.out _).mono ?_
    rintro e w1 ⟨rfl, B1⟩
    have HN1 := Lib.hid (HN.out.below B1)
    have HB1 := Lib.hid (HB0.out.trans (B1.mono HB0.out.size))
    obtain ⟨g0, g1, g2, g3⟩ := HN1.out
    clear B1 HB0
    go_wp2_with fail
    refine (HQ.out _).mono ?_
    rintro e w' ⟨rfl, rfl⟩
    go_wp2_with fail
    refine (HT.out _).mono ?_
    rintro e w2 ⟨rfl, B2⟩
    have HN2 := Lib.hid (HN1.out.below B2)
    have HB2 := Lib.hid (HB1.out.trans (B2.mono HB1.out.size))
    clear g0 g1 g2 g3
    obtain ⟨g0, g1, g2, g3⟩ := HN2.out
    clear B2 HB1
    go_wp2_with fail
    refine (HG.out _).mono ?_
    rintro e w3 ⟨rfl, B3⟩
    have HN3 := Lib.hid (HN2.out.below B3)
    have HB3 := Lib.hid (HB2.out.trans (B3.mono HB2.out.size))
    clear g0 g1 g2 g3
    obtain ⟨g0, g1, g2, g3⟩ := HN3.out
    clear B3 HB2
    go_wp2_with fail
    refine (HA.out _).mono ?_
    rintro e w4 ⟨rfl, B4⟩
    go_wp2
    go_ret
    exact ⟨rfl, HB3.out.trans (B4.mono HB3.out.size)⟩
end Go.Proofs.Ytagllhphchmfhaa
