/-
  The reference's Fields.
-/
import Derived.Test.YtddiaoilelcfkaaDoorNm
import Derived.Laws.DeepStrings4
namespace Go.Proofs.YtddiaoilelcfkaaDoor
open Go.RowKit

theorem info_str : (Tryd.prog.info? 9).map (fun i => (i.zero, i.size, i.bytes)) = some (some (.string ⟨#[]⟩), 1, 16) := by kernel_rfl

/-- What has been done with the text l when the loop comes to k: fr is where the open field began. -/
def FRel (l : List UInt8) (n fr k : Nat) (done : List ByteArray) : Prop :=
  (k ≤ n → flds l = done.map (·.data.toList) ++ fld (Lib.pieceU l fr k) (l.drop k)) ∧ (k = n + 1 → flds l = done.map (·.data.toList))
theorem FRel_start (l : List UInt8) (n : Nat) : FRel l n 0 0 [] := ⟨fun _ => by simp [flds, Lib.pieceU], fun h => by omega⟩
theorem piece_self (l : List UInt8) (k : Nat) : Lib.pieceU l k k = [] := by simp [Lib.pieceU]
theorem piece_more {l : List UInt8} {fr k : Nat} (hf : fr ≤ k) (hk : k < l.length) : Lib.pieceU l fr k ++ [l[k]] = Lib.pieceU l fr (k + 1) := by
  rw [← Lib.pieceU_grow _ _ _ 1 hf, List.drop_eq_getElem_cons hk]; rfl
theorem FRel_go {l : List UInt8} {n fr k : Nat} {done : List ByteArray} (hn : l.length = n) (hf : fr ≤ k) (hk : k < n) (hs : sepN (l[k]'(by omega)).toNat = false) (h : FRel l n fr k done) : FRel l n fr (k + 1) done :=
  ⟨fun _ => by rw [h.1 (by omega), List.drop_eq_getElem_cons (by omega), fld, hs]; simp only [Bool.false_eq_true, if_false]; rw [piece_more hf (by omega)], fun h2 => by omega⟩
theorem FRel_skip {l : List UInt8} {n k : Nat} {done : List ByteArray} (hn : l.length = n) (hk : k < n) (hs : sepN (l[k]'(by omega)).toNat = true) (h : FRel l n k k done) : FRel l n (k + 1) (k + 1) done :=
  ⟨fun _ => by rw [h.1 (by omega), List.drop_eq_getElem_cons (by omega), fld, hs, piece_self, piece_self]; simp, fun h2 => by omega⟩
theorem FRel_cut {s : ByteArray} {n fr k : Nat} {done : List ByteArray} (hn : s.data.toList.length = n) (hf : fr < k) (hk : k < n) (hs : sepN (s.data.toList[k]'(by omega)).toNat = true) (h : FRel s.data.toList n fr k done) :
    FRel s.data.toList n (k + 1) (k + 1) (done ++ [s.extract fr k]) :=
  ⟨fun _ => by
    rw [h.1 (by omega), List.drop_eq_getElem_cons (by omega), fld, hs, piece_self, if_neg (Lib.pieceU_ne _ _ _ hf (by omega))]
    simp [Lib.extract_data, Lib.pieceU], fun h2 => by omega⟩
theorem FRel_end0 {l : List UInt8} {n : Nat} {done : List ByteArray} (hn : l.length = n) (h : FRel l n n n done) : FRel l n (n + 1) (n + 1) done :=
  ⟨fun h2 => by omega, fun _ => by rw [h.1 (by omega), List.drop_eq_nil_of_le (by omega), piece_self]; simp [fld]⟩
theorem FRel_end1 {s : ByteArray} {n fr : Nat} {done : List ByteArray} (hn : s.data.toList.length = n) (hf : fr < n) (h : FRel s.data.toList n fr n done) : FRel s.data.toList n (n + 1) (n + 1) (done ++ [s.extract fr n]) :=
  ⟨fun h2 => by omega, fun _ => by
    rw [h.1 (by omega), List.drop_eq_nil_of_le (by omega), fld, if_neg (Lib.pieceU_ne _ _ _ hf (by omega))]
    simp [Lib.extract_data, Lib.pieceU]⟩

set_option maxRecDepth 100000 in
set_option maxHeartbeats 1600000 in
theorem RFields_any (s : ByteArray) (w : World) (hs : s.size ≤ 1000000000) :
    Calls Tryd.prog 18 #[.string s] w fun e w' => ∃ v L, e = .returned v ∧ StrRow w' v L ∧ L.length ≤ s.size + 1 ∧ L.map (·.data.toList) = flds s.data.toList ∧ Below w.heap.size w w' := by
  obtain ⟨i0, hi, hz0, hz1, hz2⟩ := info_parts info_str
  have hsz : s.data.toList.length = s.size := by rw [Lib.size_eq]
  have HSZ := Lib.hid hsz
  clear hsz
  go_enter Tryd.func18, Tryd.ntmps18
  go_wp2
  go_loopw [3, 4, 5] (fun vo vf vi wr => ∃ (k fr : Nat) (done : List ByteArray), vi = .int .i64 (k : Int) ∧ vf = .int .i64 (fr : Int) ∧ k ≤ s.size + 1 ∧ fr ≤ k ∧ done.length ≤ fr ∧ wr.ownsRow w.heap.size 9 1 vo done.length (done.map Value.string) ∧ Below w.heap.size w wr ∧ Hid (FRel s.data.toList s.size fr k done))
    (fun _ _ vi _ => s.size + 2 - (intOf vi).toNat)
  case atStart => exact ⟨0, 0, [], rfl, rfl, by omega, by omega, by simp, World.ownsRow_nil _ _ _ _, Below.refl _ _, FRel_start _ _⟩
  case round =>
    obtain ⟨k, fr, done, rfl, rfl, hk, hf, hd, hown, hB, hrel⟩ := hrel
    have HO := Lib.hid hown
    have HBL := Lib.hid hB
    have hbs := hB.size
    clear hown hB
    by_cases hke : k = s.size + 1
    · subst hke
      go_wp2
      go_ret
      exact ⟨_, done, rfl, StrRow.of_own HO.out, by omega, (hrel.out.2 rfl).symm, HBL.out⟩
    by_cases hkn : k < s.size
    · have hkl : k < s.data.toList.length := by have := HSZ.out; omega
      have hget : s.data.toList[k] = s[k] := by simp [Array.getElem_toList]; rfl
      have hsep := fun W => Separator_any (s[k].toNat : Int) W
      rw [sepB_sepN] at hsep
      by_cases hc : sepN s[k].toNat = true
      · rw [hc] at hsep
        rw [← hget] at hc
        have HS := Lib.hid hsep
        have HC := Lib.hid hc
        clear hsep hc hget
        by_cases hfk : fr < k
        · go_wp2_with (first | (go_at_call 30; refine (HS.out _).mono ?_; rintro e w' ⟨rfl, rfl⟩) | (at_builtin; refine wpList_append_own _ rfl _ _ 31 rfl w.heap.size 9 i0 (.string ⟨#[]⟩) 1 16 Tryd.underlying31 hi hz0 hz1 hz2 rfl (by decide) _ _ _ rfl (HO.out.alloc _) ⟨wr.heap.size, 0, none⟩ 1 1 [.string (s.extract fr k)] rfl rfl ?c1 ?c2 ?c3 ?c4 ?c5 ?_))
          case c1 => exact cell_one_new _ _ _
          case c2 => intro u hu; simp at hu; subst hu; rfl
          case c3 => unfold maxLen; omega
          case c4 => omega
          case c5 => simp; omega
          intro v' w1 hown' hgrow _
          have hB1 : Below w.heap.size w w1 := (HBL.out.alloc hbs _).grown hgrow (by simp; omega) (fun k' hk' => (HO.out.lt k' hk').1)
          have HO1 := Lib.hid hown'
          have HB1 := Lib.hid hB1
          clear hown' hgrow hB1
          go_wp2
          refine ⟨⟨k + 1, k + 1, done ++ [s.extract fr k], by go_num, by go_num, by omega, by omega, by simp; omega, ?_, HB1.out, FRel_cut HSZ.out hfk hkn HC.out hrel.out⟩, by simp [intOf]; omega⟩
          have e := HO1.out
          rw [List.length_append, List.map_append]; exact e
        · have hfe : fr = k := by omega
          subst hfe
          go_wp2_with (go_at_call 30; refine (HS.out _).mono ?_; rintro e w' ⟨rfl, rfl⟩)
          exact ⟨⟨fr + 1, fr + 1, done, by go_num, by go_num, by omega, by omega, by omega, HO.out, HBL.out, FRel_skip HSZ.out hkn HC.out hrel.out⟩, by simp [intOf]; omega⟩
      · have hc : sepN s[k].toNat = false := by simpa using hc
        rw [hc] at hsep
        rw [← hget] at hc
        have HS := Lib.hid hsep
        have HC := Lib.hid hc
        clear hsep hc hget
        go_wp2_with (go_at_call 30; refine (HS.out _).mono ?_; rintro e w' ⟨rfl, rfl⟩)
        exact ⟨⟨k + 1, fr, done, by go_num, rfl, by omega, by omega, by omega, HO.out, HBL.out, FRel_go HSZ.out hf hkn HC.out hrel.out⟩, by simp [intOf]; omega⟩
    · have hkz : k = s.size := by omega
      subst hkz
      by_cases hfk : fr < s.size
      · go_wp2_with (first | (at_builtin; refine wpList_append_own _ rfl _ _ 31 rfl w.heap.size 9 i0 (.string ⟨#[]⟩) 1 16 Tryd.underlying31 hi hz0 hz1 hz2 rfl (by decide) _ _ _ rfl (HO.out.alloc _) ⟨wr.heap.size, 0, none⟩ 1 1 [.string (s.extract fr s.size)] rfl rfl ?c1 ?c2 ?c3 ?c4 ?c5 ?_))
        case c1 => exact cell_one_new _ _ _
        case c2 => intro u hu; simp at hu; subst hu; rfl
        case c3 => unfold maxLen; omega
        case c4 => omega
        case c5 => simp; omega
        intro v' w1 hown' hgrow _
        have hB1 : Below w.heap.size w w1 := (HBL.out.alloc hbs _).grown hgrow (by simp; omega) (fun k' hk' => (HO.out.lt k' hk').1)
        have HO1 := Lib.hid hown'
        have HB1 := Lib.hid hB1
        clear hown' hgrow hB1
        go_wp2
        refine ⟨⟨s.size + 1, s.size + 1, done ++ [s.extract fr s.size], by go_num, by go_num, by omega, by omega, by simp; omega, ?_, HB1.out, FRel_end1 HSZ.out hfk hrel.out⟩, by simp [intOf]⟩
        have e := HO1.out
        rw [List.length_append, List.map_append]; exact e
      · have hfe : fr = s.size := by omega
        subst hfe
        go_wp2
        exact ⟨⟨s.size + 1, s.size + 1, done, by go_num, by go_num, by omega, by omega, by omega, HO.out, HBL.out, FRel_end0 HSZ.out hrel.out⟩, by simp [intOf]⟩
end Go.Proofs.YtddiaoilelcfkaaDoor
