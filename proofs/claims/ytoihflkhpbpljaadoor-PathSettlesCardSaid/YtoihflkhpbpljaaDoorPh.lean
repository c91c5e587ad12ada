/-
  Clean and Join, of package path and of the reference.
-/
import Derived.Test.YtoihflkhpbpljaaDoorPg
namespace Go.Proofs.YtoihflkhpbpljaaDoor
open Go.RowKit

theorem splitR_cases (l : List UInt8) : (∃ c, c ≠ 0 ∧ splitR l = ([], c)) ∨
    (∃ es, splitR l = (es, 0) ∧ elemsFrom (rootedL l) [] (pieces l) = es ∧ (pieces l).all okPart = true ∧ es.length ≤ 32 ∧ l.length ≤ 1024) := by
  by_cases h1 : 1024 < l.length
  · exact .inl ⟨4, by decide, splitR_long h1⟩
  by_cases h2 : (pieces l).all okPart = true
  · have h := splitR_end (by omega) h2
    by_cases h3 : 32 < (elemsFrom (rootedL l) [] (pieces l)).length
    · rw [if_pos h3] at h
      exact .inl ⟨4, by decide, h⟩
    · rw [if_neg h3] at h
      exact .inr ⟨_, h, rfl, h2, by omega, by omega⟩
  · exact .inl ⟨6, by decide, by rw [splitR, if_neg h1, if_pos (by simpa using h2)]⟩
theorem elems_join_le (r : Bool) (l : List UInt8) : (joinL (elemsFrom r [] (pieces l))).length ≤ l.length := by
  by_cases h0 : elemsFrom r [] (pieces l) = []
  · rw [h0]; simp [joinL, Lib.join_nil]
  · have a := sumL_join _ h0
    have b := elems_sum r (pieces l) []
    rw [sumL_nil, sumL_pieces] at b
    omega
theorem elems_nonempty (r : Bool) (ps : List (List UInt8)) : ∀ x ∈ elemsFrom r [] ps, x ≠ [] := fun x hx => by
  rcases elems_mem r ps [] x hx with h | h
  · simp at h
  · exact h.2.1
theorem cleanR_bad {l : List UInt8} {c : Int} (hc : c ≠ 0) (h : splitR l = ([], c)) : cleanR l = ([], c) := by rw [cleanR, h, if_neg hc]
theorem cleanR_ok {l : List UInt8} {es : List (List UInt8)} (h : splitR l = (es, 0)) : cleanR l = (buildR (rootedL l) es, 0) := by rw [cleanR, h, if_pos rfl]
theorem mk_nil : (⟨#[]⟩ : ByteArray) = mk [] := rfl

set_option maxRecDepth 100000 in
set_option maxHeartbeats 1600000 in
theorem Clean_any (s : ByteArray) (hs : s.size ≤ 100000) (w : World) (g : G w) :
    Calls Tryd.prog 14 #[.string s] w fun e w' => e = .returned (.tuple #[.string (mk (cleanR s.data.toList).1), .int .i64 (cleanR s.data.toList).2]) ∧ Below w.heap.size w w' := by
  have hsz : s.data.toList.length = s.size := by rw [Lib.size_eq]
  have H0 := Split_any s hs w g
  have HRT := Lib.hid (fun W => isRooted_any s W)
  rcases splitR_cases s.data.toList with ⟨c, hc, h⟩ | ⟨es, h, he, -, hl, -⟩
  · rw [cleanR_bad hc h]
    rw [h] at H0
    have HS := Lib.hid H0
    have hc1 : (c != 0) = true := by simpa using hc
    have hc2 : (c == 0) = false := by simpa using hc
    clear H0 h hc hsz
    go_enter Tryd.func14, Tryd.ntmps14
    go_wp2_with fail
    refine HS.out.mono ?_
    rintro e w1 ⟨v, rfl, hv, hB⟩
    have HB := Lib.hid hB
    clear hv hB
    go_wp2_with fail
    go_ret2
    exact ⟨rfl, HB.out⟩
  · rw [cleanR_ok h]
    rw [h] at H0
    have hj := elems_join_le (rootedL s.data.toList) s.data.toList
    rw [he] at hj
    have hj' : (joinL es).length ≤ 1000000 := by omega
    have HS := Lib.hid H0
    generalize rootedL s.data.toList = r at HRT ⊢
    clear H0 h he hsz hj
    go_enter Tryd.func14, Tryd.ntmps14
    go_wp2_with fail
    refine HS.out.mono ?_
    rintro e w1 ⟨v, rfl, hv, hB⟩
    have HB := Lib.hid hB
    have HT := Lib.hid (text_any v es r w1 hv hj')
    clear hv hB
    go_wp2_with fail
    refine (HRT.out w1).mono ?_
    rintro e w' ⟨rfl, rfl⟩
    go_wp2_with fail
    refine HT.out.mono ?_
    rintro e w2 ⟨rfl, hB2⟩
    have HB2 := Lib.hid (HB.out.trans (hB2.mono HB.out.size))
    clear hB2
    go_wp2_with fail
    go_ret2
    exact ⟨rfl, HB2.out⟩

set_option maxRecDepth 100000 in
set_option maxHeartbeats 1600000 in
theorem RClean_any (s : ByteArray) (hs : s.size ≤ 100000) (w : World) :
    Calls Tryd.prog 15 #[.string s] w fun e w' => e = .returned (.tuple #[.string (mk (cleanR s.data.toList).1), .int .i64 (cleanR s.data.toList).2]) ∧ Below w.heap.size w w' := by
  have hsz : s.data.toList.length = s.size := by rw [Lib.size_eq]
  have H0 := RSplit_any s hs w
  have HRT := Lib.hid (fun W => Rooted_any s hs W)
  rcases splitR_cases s.data.toList with ⟨c, hc, h⟩ | ⟨es, h, he, -, hl, -⟩
  · rw [cleanR_bad hc h]
    rw [h] at H0
    have HS := Lib.hid H0
    have hc1 : (c != 0) = true := by simpa using hc
    have hc2 : (c == 0) = false := by simpa using hc
    clear H0 h hc hsz
    go_enter Tryd.func15, Tryd.ntmps15
    go_wp2_with fail
    refine HS.out.mono ?_
    rintro e w1 ⟨v, rfl, hv, hB⟩
    have HB := Lib.hid hB
    clear hv hB
    go_wp2_with fail
    go_ret2
    exact ⟨rfl, HB.out⟩
  · rw [cleanR_ok h]
    rw [h] at H0
    have hj := elems_join_le (rootedL s.data.toList) s.data.toList
    have hne := elems_nonempty (rootedL s.data.toList) (pieces s.data.toList)
    rw [he] at hj hne
    have hj' : (joinL es).length ≤ 1000000 := by omega
    have HS := Lib.hid H0
    rw [← rbuild_eq _ _ hne]
    generalize rootedL s.data.toList = r at HRT ⊢
    clear H0 h he hsz hj hne
    go_enter Tryd.func15, Tryd.ntmps15
    go_wp2_with fail
    refine HS.out.mono ?_
    rintro e w1 ⟨v, rfl, hv, hB⟩
    have HB := Lib.hid hB
    have HT := Lib.hid (Build_any v es r w1 hv hj' (by omega))
    clear hv hB
    go_wp2_with fail
    refine (HRT.out w1).mono ?_
    rintro e w' ⟨rfl, rfl⟩
    go_wp2_with fail
    refine HT.out.mono ?_
    rintro e w2 ⟨rfl, rfl⟩
    go_wp2_with fail
    go_ret2
    exact ⟨rfl, HB.out⟩

theorem join_bytes (d s : ByteArray) : (d ++ ⟨#[47]⟩ ++ s).data.toList = d.data.toList ++ 47 :: s.data.toList := by simp [ByteArray.data_append]
theorem join_size (d s : ByteArray) : (d ++ ⟨#[47]⟩ ++ s).size = d.size + s.size + 1 := by
  have h := congrArg List.length (join_bytes d s)
  rw [List.length_append, List.length_cons, ← Lib.size_eq, ← Lib.size_eq, ← Lib.size_eq] at h
  omega

set_option maxRecDepth 100000 in
set_option maxHeartbeats 1600000 in
theorem Join_any (d s : ByteArray) (hd : d.size ≤ 40000) (hs : s.size ≤ 40000) (w : World) (g : G w) :
    Calls Tryd.prog 19 #[.string d, .string s] w fun e w' => e = .returned (.tuple #[.string (mk (joinR d.data.toList s.data.toList).1), .int .i64 (joinR d.data.toList s.data.toList).2]) ∧ Below w.heap.size w w' := by
  have HRT := Lib.hid (fun W => isRooted_any s W)
  have C1 := Clean_any s (by omega) w g
  have C2 := Clean_any (d ++ ⟨#[47]⟩ ++ s) (by rw [join_size]; omega) w g
  rw [join_bytes] at C2
  by_cases hd0 : d.data.toList = []
  · have hj : joinR d.data.toList s.data.toList = cleanR s.data.toList := by rw [joinR, if_pos (.inl hd0)]
    rw [hj]
    have h1 : d.toList = [] := by rw [Lib.toList_data]; exact hd0
    have HC := Lib.hid C1
    clear C1 C2 hj hd0
    generalize cleanR s.data.toList = c at HC ⊢
    obtain ⟨c1, c2⟩ := c
    go_enter Tryd.func19, Tryd.ntmps19
    go_wp2_with fail
    refine HC.out.mono ?_
    rintro e w1 ⟨rfl, hB⟩
    have HB := Lib.hid hB
    clear hB
    go_wp2_with fail
    go_ret2
    exact ⟨rfl, HB.out⟩
  · have h1 : d.toList ≠ [] := by rw [Lib.toList_data]; exact hd0
    have h2 : d.toList.isEmpty = false := by simpa using h1
    cases hr : rootedL s.data.toList
    · have hj : joinR d.data.toList s.data.toList = cleanR (d.data.toList ++ 47 :: s.data.toList) := by rw [joinR, if_neg (by rw [hr]; simp [hd0])]
      rw [hj]
      rw [hr] at HRT
      have HC := Lib.hid C2
      clear C1 C2 hj hd0 hr
      generalize cleanR (d.data.toList ++ 47 :: s.data.toList) = c at HC ⊢
      obtain ⟨c1, c2⟩ := c
      go_enter Tryd.func19, Tryd.ntmps19
      go_wp2_with fail
      refine (HRT.out w).mono ?_
      rintro e w' ⟨rfl, rfl⟩
      go_wp2_with fail
      refine HC.out.mono ?_
      rintro e w1 ⟨rfl, hB⟩
      have HB := Lib.hid hB
      clear hB
      go_wp2_with fail
      go_ret2
      exact ⟨rfl, HB.out⟩
    · have hj : joinR d.data.toList s.data.toList = cleanR s.data.toList := by rw [joinR, if_pos (.inr hr)]
      rw [hj]
      rw [hr] at HRT
      have HC := Lib.hid C1
      clear C1 C2 hj hd0 hr
      generalize cleanR s.data.toList = c at HC ⊢
      obtain ⟨c1, c2⟩ := c
      go_enter Tryd.func19, Tryd.ntmps19
      go_wp2_with fail
      refine (HRT.out w).mono ?_
      rintro e w' ⟨rfl, rfl⟩
      go_wp2_with fail
      refine HC.out.mono ?_
      rintro e w1 ⟨rfl, hB⟩
      have HB := Lib.hid hB
      clear hB
      go_wp2_with fail
      go_ret2
      exact ⟨rfl, HB.out⟩

set_option maxRecDepth 100000 in
set_option maxHeartbeats 1600000 in
theorem RJoin_any (d s : ByteArray) (hd : d.size ≤ 40000) (hs : s.size ≤ 40000) (w : World) :
    Calls Tryd.prog 20 #[.string d, .string s] w fun e w' => e = .returned (.tuple #[.string (mk (joinR d.data.toList s.data.toList).1), .int .i64 (joinR d.data.toList s.data.toList).2]) ∧ Below w.heap.size w w' := by
  have HRT := Lib.hid (fun W => Rooted_any s (by omega) W)
  have C1 := RClean_any s (by omega) w
  have C2 := RClean_any (d ++ ⟨#[47]⟩ ++ s) (by rw [join_size]; omega) w
  rw [join_bytes] at C2
  cases hr : rootedL s.data.toList
  · rw [hr] at HRT
    by_cases hd0 : d.data.toList = []
    · have hj : joinR d.data.toList s.data.toList = cleanR s.data.toList := by rw [joinR, if_pos (.inl hd0)]
      rw [hj]
      have h1 : d.toList = [] := by rw [Lib.toList_data]; exact hd0
      have HC := Lib.hid C1
      clear C1 C2 hj hd0 hr
      generalize cleanR s.data.toList = c at HC ⊢
      obtain ⟨c1, c2⟩ := c
      go_enter Tryd.func20, Tryd.ntmps20
      go_wp2_with fail
      refine (HRT.out w).mono ?_
      rintro e w' ⟨rfl, rfl⟩
      go_wp2_with fail
      refine HC.out.mono ?_
      rintro e w1 ⟨rfl, hB⟩
      have HB := Lib.hid hB
      clear hB
      go_wp2_with fail
      go_ret2
      exact ⟨rfl, HB.out⟩
    · have hj : joinR d.data.toList s.data.toList = cleanR (d.data.toList ++ 47 :: s.data.toList) := by rw [joinR, if_neg (by rw [hr]; simp [hd0])]
      rw [hj]
      have h1 : d.toList ≠ [] := by rw [Lib.toList_data]; exact hd0
      have h2 : d.toList.isEmpty = false := by simpa using h1
      have HC := Lib.hid C2
      clear C1 C2 hj hd0 hr
      generalize cleanR (d.data.toList ++ 47 :: s.data.toList) = c at HC ⊢
      obtain ⟨c1, c2⟩ := c
      go_enter Tryd.func20, Tryd.ntmps20
      go_wp2_with fail
      refine (HRT.out w).mono ?_
      rintro e w' ⟨rfl, rfl⟩
      go_wp2_with fail
      refine HC.out.mono ?_
      rintro e w1 ⟨rfl, hB⟩
      have HB := Lib.hid hB
      clear hB
      go_wp2_with fail
      go_ret2
      exact ⟨rfl, HB.out⟩
  · have hj : joinR d.data.toList s.data.toList = cleanR s.data.toList := by rw [joinR, if_pos (.inr hr)]
    rw [hj]
    rw [hr] at HRT
    have HC := Lib.hid C1
    clear C1 C2 hj hr
    generalize cleanR s.data.toList = c at HC ⊢
    obtain ⟨c1, c2⟩ := c
    go_enter Tryd.func20, Tryd.ntmps20
    go_wp2_with fail
    refine (HRT.out w).mono ?_
    rintro e w' ⟨rfl, rfl⟩
    go_wp2_with fail
    refine HC.out.mono ?_
    rintro e w1 ⟨rfl, hB⟩
    have HB := Lib.hid hB
    clear hB
    go_wp2_with fail
    go_ret2
    exact ⟨rfl, HB.out⟩
end Go.Proofs.YtoihflkhpbpljaaDoor
