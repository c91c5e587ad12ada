/-
  The walks over the statements without the reference: a cleaned path settles, Dir and Base rejoin.
-/
import Derived.Test.YtoihflkhpbpljaaDoorPn
namespace Go.Proofs.YtoihflkhpbpljaaDoor
open Go.RowKit

set_option maxRecDepth 100000 in
set_option maxHeartbeats 1600000 in
theorem pathSettles_walk (s : ByteArray) (hs : s.size ≤ maxLen) (W : World) (g : G W) :
    Calls Tryd.prog 8 #[.string s] W fun e w' => e = .returned (.bool true) ∧ Below W.heap.size W w' := by
  unfold maxLen at hs
  have HG := Lib.hid g
  by_cases hbig : 5000 < s.size
  · have A := Lib.hid (awake_any W g)
    clear g
    go_enter Tryd.func8, Tryd.ntmps8
    go_wp2_with fail
    refine A.out.mono ?_
    rintro e w' ⟨rfl, hB⟩
    go_wp2_with fail
    go_ret
    exact ⟨rfl, hB⟩
  have C1 := Clean_any s (by omega) W g
  rcases splitR_cases s.data.toList with ⟨c, hc, h⟩ | ⟨es, h, he, -, hl, -⟩
  · rw [cleanR_bad hc h, show mk (([] : List UInt8), c).1 = ⟨#[]⟩ from rfl] at C1
    have hc1 : (c != 0) = true := by simpa using hc
    have hc2 : (c == 0) = false := by simpa using hc
    have A1 := Lib.hid C1
    clear C1 h hc g
    go_enter Tryd.func8, Tryd.ntmps8
    go_wp2_with fail
    refine A1.out.mono ?_
    rintro e w1 ⟨rfl, hB1⟩
    have B1 := Lib.hid hB1
    clear hB1
    go_wp2_with fail
    refine (awake_end HG.out B1.out).mono ?_
    rintro e w2 ⟨rfl, hB2⟩
    go_wp2_with fail
    go_ret
    exact ⟨rfl, hB2⟩
  · rw [cleanR_ok h] at C1
    have hcc := clean_clean h
    have hsc := split_clean h
    have hbl := build_len h
    have hne := elems_nonempty (rootedL s.data.toList) (pieces s.data.toList)
    rw [he] at hne
    have hrb := rbuild_eq (rootedL s.data.toList) es hne
    have hj : (joinL es).length ≤ 1000000 := by
      have := elems_join_le (rootedL s.data.toList) s.data.toList
      rw [he, ← Lib.size_eq] at this
      omega
    have hsz := mk_size (buildR (rootedL s.data.toList) es)
    have A2 := fun w g => Clean_any (mk (buildR (rootedL s.data.toList) es)) (by omega) w g
    have A3 := fun w g => Split_any (mk (buildR (rootedL s.data.toList) es)) (by omega) w g
    rw [mk_data, hcc] at A2
    rw [mk_data, hsc.1] at A3
    have A4 := Lib.hid (fun w => Rooted_any s (by omega) w)
    have A5 := fun v w hv => Build_any v es (rootedL s.data.toList) w hv hj (by omega)
    rw [hrb] at A5
    generalize rootedL s.data.toList = r at C1 A2 A3 A4 A5
    generalize buildR r es = cl at C1 A2 A3 A5
    have A1 := Lib.hid C1
    replace A2 := Lib.hid A2
    replace A3 := Lib.hid A3
    replace A5 := Lib.hid A5
    clear C1 h he hcc hsc hbl hne hrb hj hsz g
    go_enter Tryd.func8, Tryd.ntmps8
    go_wp2_with fail
    refine A1.out.mono ?_
    rintro e w1 ⟨rfl, hB1⟩
    have B1 := Lib.hid hB1
    clear hB1
    go_wp2_with fail
    refine (A2.out w1 (HG.out.below B1.out)).mono ?_
    rintro e w2 ⟨rfl, hB2⟩
    have B2 := Lib.hid (B1.out.trans (hB2.mono B1.out.size))
    clear hB2
    go_wp2_with fail
    refine (A3.out w2 (HG.out.below B2.out)).mono ?_
    rintro e w3 ⟨v, rfl, hv, hB3⟩
    have B3 := Lib.hid (B2.out.trans (hB3.mono B2.out.size))
    have H5 := Lib.hid (A5.out v w3 hv)
    clear hB3 hv
    go_wp2_with fail
    refine (A4.out w3).mono ?_
    rintro e w' ⟨rfl, rfl⟩
    go_wp2_with fail
    refine H5.out.mono ?_
    rintro e w' ⟨rfl, rfl⟩
    go_wp2_with fail
    refine (awake_end HG.out B3.out).mono ?_
    rintro e w4 ⟨rfl, hB4⟩
    go_wp2_with fail
    go_ret
    exact ⟨rfl, hB4⟩

set_option maxRecDepth 100000 in
set_option maxHeartbeats 1600000 in
theorem pathRejoins_walk (s : ByteArray) (hs : s.size ≤ maxLen) (W : World) (g : G W) :
    Calls Tryd.prog 9 #[.string s] W fun e w' => e = .returned (.bool true) ∧ Below W.heap.size W w' := by
  unfold maxLen at hs
  have HG := Lib.hid g
  by_cases hbig : 5000 < s.size
  · have A := Lib.hid (awake_any W g)
    clear g
    go_enter Tryd.func9, Tryd.ntmps9
    go_wp2_with fail
    refine A.out.mono ?_
    rintro e w' ⟨rfl, hB⟩
    go_wp2_with fail
    go_ret
    exact ⟨rfl, hB⟩
  have C1 := Clean_any s (by omega) W g
  have C2 := fun w g => Split_any s (by omega) w g
  rcases splitR_cases s.data.toList with ⟨c, hc, h⟩ | ⟨es, h, he, -, hl, -⟩
  · rw [cleanR_bad hc h] at C1
    rw [h] at C2
    have hc1 : (c != 0) = true := by simpa using hc
    have hc2 : (c == 0) = false := by simpa using hc
    have A1 := Lib.hid C1
    have A2 := Lib.hid C2
    clear C1 C2 h hc g
    go_enter Tryd.func9, Tryd.ntmps9
    go_wp2_with fail
    refine A1.out.mono ?_
    rintro e w1 ⟨rfl, hB1⟩
    have B1 := Lib.hid hB1
    clear hB1
    go_wp2_with fail
    refine (A2.out w1 (HG.out.below B1.out)).mono ?_
    rintro e w2 ⟨v, rfl, hv, hB2⟩
    have B2 := Lib.hid (B1.out.trans (hB2.mono B1.out.size))
    clear hB2 hv
    go_wp2_with fail
    refine (awake_end HG.out B2.out).mono ?_
    rintro e w3 ⟨rfl, hB3⟩
    go_wp2_with fail
    go_ret
    exact ⟨rfl, hB3⟩
  rw [cleanR_ok h] at C1
  rw [h] at C2
  have A1 := Lib.hid C1
  have A2 := Lib.hid C2
  clear C1 C2
  by_cases h0 : es = []
  · subst h0
    generalize buildR (rootedL s.data.toList) [] = cl at A1
    clear h he g
    go_enter Tryd.func9, Tryd.ntmps9
    go_wp2_with fail
    refine A1.out.mono ?_
    rintro e w1 ⟨rfl, hB1⟩
    have B1 := Lib.hid hB1
    clear hB1
    go_wp2_with fail
    refine (A2.out w1 (HG.out.below B1.out)).mono ?_
    rintro e w2 ⟨v, rfl, hv, hB2⟩
    have B2 := Lib.hid (B1.out.trans (hB2.mono B1.out.size))
    obtain ⟨p, cap, rfl, -⟩ := hv
    clear hB2
    go_wp2_with fail
    refine (awake_end HG.out B2.out).mono ?_
    rintro e w3 ⟨rfl, hB3⟩
    go_wp2_with fail
    go_ret
    exact ⟨rfl, hB3⟩
  obtain ⟨d, y, rfl⟩ : ∃ d y, es = d ++ [y] := ⟨es.dropLast, es.getLast h0, (List.dropLast_concat_getLast h0).symm⟩
  have hdl : d.length ≤ 32 := by simp at hl; omega
  have hne : (((d.length : Int) + 1) == 0) = false := by simp; omega
  have hty := mk_toList y
  by_cases hy : y = [46, 46]
  · have hq : ((mk y).toList == [46, 46]) = true := by rw [hty, hy]; decide
    generalize buildR (rootedL s.data.toList) (d ++ [y]) = cl at A1
    clear h he g h0 hl hty hy
    go_enter Tryd.func9, Tryd.ntmps9
    go_wp2_with fail
    refine A1.out.mono ?_
    rintro e w1 ⟨rfl, hB1⟩
    have B1 := Lib.hid hB1
    clear hB1
    go_wp2_with fail
    refine (A2.out w1 (HG.out.below B1.out)).mono ?_
    rintro e w2 ⟨v, rfl, hv, hB2⟩
    have B2 := Lib.hid (B1.out.trans (hB2.mono B1.out.size))
    obtain ⟨b, o, cap, rfl, hcap, hcell⟩ := hv.last
    clear hB2 hv
    go_wp2_with fail
    refine (awake_end HG.out B2.out).mono ?_
    rintro e w3 ⟨rfl, hB3⟩
    go_wp2_with fail
    go_ret
    exact ⟨rfl, hB3⟩
  · have hq : ((mk y).toList == [46, 46]) = false := by rw [hty]; simpa using hy
    have hrj := rejoin h hy
    have D1 := Lib.hid (fun w g => Dir_any s (by omega) w g)
    have D2 := Lib.hid (fun w g => Base_any s (by omega) w g)
    have hbase : (baseR s.data.toList).length ≤ 5000 := by
      rw [baseR_last h]
      have hm := elems_mem (rootedL s.data.toList) (pieces s.data.toList) [] y (by rw [he]; simp)
      rcases hm with hm | hm
      · simp at hm
      · have := piece_len hm.1; rw [← Lib.size_eq] at this; omega
    have hdir : (dirR s.data.toList).length ≤ 5000 := by
      rw [dirR_ok h]
      have h1 := joinL_take_le (d ++ [y]) d.length
      rw [List.take_left] at h1
      have h2 := elems_join_le (rootedL s.data.toList) s.data.toList
      have h3 := (split_good h).2.2.1
      rw [he] at h2
      rw [show (d ++ [y]).dropLast = d by simp]
      unfold buildR
      split
      · simp; omega
      · split
        · simp
        · omega
    have D3 := fun w g => Join_any (mk (dirR s.data.toList)) (mk (baseR s.data.toList)) (by rw [mk_size]; omega) (by rw [mk_size]; omega) w g
    rw [mk_data, mk_data, hrj] at D3
    generalize buildR (rootedL s.data.toList) (d ++ [y]) = cl at A1 D3
    generalize dirR s.data.toList = dd at D1 D3
    generalize baseR s.data.toList = bb at D2 D3
    replace D3 := Lib.hid D3
    clear h he g h0 hl hty hy hrj hbase hdir
    go_enter Tryd.func9, Tryd.ntmps9
    go_wp2_with fail
    refine A1.out.mono ?_
    rintro e w1 ⟨rfl, hB1⟩
    have B1 := Lib.hid hB1
    clear hB1
    go_wp2_with fail
    refine (A2.out w1 (HG.out.below B1.out)).mono ?_
    rintro e w2 ⟨v, rfl, hv, hB2⟩
    have B2 := Lib.hid (B1.out.trans (hB2.mono B1.out.size))
    obtain ⟨b, o, cap, rfl, hcap, hcell⟩ := hv.last
    clear hB2 hv
    go_wp2_with fail
    refine (D1.out w2 (HG.out.below B2.out)).mono ?_
    rintro e w3 ⟨rfl, hB3⟩
    have B3 := Lib.hid (B2.out.trans (hB3.mono B2.out.size))
    clear hB3
    go_wp2_with fail
    refine (D2.out w3 (HG.out.below B3.out)).mono ?_
    rintro e w4 ⟨rfl, hB4⟩
    have B4 := Lib.hid (B3.out.trans (hB4.mono B3.out.size))
    clear hB4
    go_wp2_with fail
    refine (D3.out w4 (HG.out.below B4.out)).mono ?_
    rintro e w5 ⟨rfl, hB5⟩
    have B5 := Lib.hid (B4.out.trans (hB5.mono B4.out.size))
    clear hB5
    go_wp2_with fail
    refine (awake_end HG.out B5.out).mono ?_
    rintro e w6 ⟨rfl, hB6⟩
    go_wp2_with fail
    go_ret
    exact ⟨rfl, hB6⟩
end Go.Proofs.YtoihflkhpbpljaaDoor
