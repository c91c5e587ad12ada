/-
  Walks: Read.
-/
import Derived.Test.YtalhkoolpnmcdaaAu
import Derived.WalkLawsBesides
namespace Go.Proofs.Ytalhkoolpnmcdaa
open Go.RowKit

set_option maxHeartbeats 800000 in
theorem Clone_any (s : ByteArray) (hs : s.size ≤ 1000000) (w : World) : Calls Try.prog 64 #[.string s] w fun e w' => e = .returned (.string s) ∧ Below w.heap.size w w' := by
  have hC := Lib.hid (Try.stringslite_Clone s w (by omega))
  go_enter Try.func64, Try.ntmps64
  go_wp2_with fail
  refine hC.out.mono ?_
  rintro e w' ⟨rfl, hB⟩
  have HB := Lib.hid hB
  clear hB
  go_wp2
  go_ret
  exact ⟨rfl, HB.out⟩

/-- A part of a text. -/
theorem mk_extract (l : List UInt8) (a b : Nat) : (mk l).extract a b = mk ((l.drop a).take (b - a)) := by
  rw [← mk_of ((mk l).extract a b), Lib.extract_data, mk_data]
theorem read_file {L : List ND} {id off cnt : Int} {n : ND} {e : Int} (h : fileT L id = (n, e)) : readT L id off cnt = if e ≠ 0 then ([], e) else if off < 0 ∨ cnt < 0 then ([], 1) else ((n.da.drop off.toNat).take cnt.toNat, 0) := by
  unfold fileT at h
  unfold readT fileE
  split at h
  · rename_i h1
    injection h with h2 h3
    subst h2 h3
    rw [if_pos h1, if_pos (by decide), if_pos (by decide)]
  · rename_i h1
    rw [if_neg h1]
    split at h
    · rename_i h4
      injection h with h2 h3
      subst h2 h3
      rw [if_pos h4, if_pos (by decide), if_pos (by decide)]
    · rename_i h4
      injection h with h2 h3
      subst h2 h3
      rw [if_neg h4, if_neg (show ¬ (0 : Int) ≠ 0 by decide)]
theorem fileT_le {nx : Int} {L : List ND} (hV : Vld nx L) (id : Int) : (fileT L id).1.da.length ≤ 65536 := by
  unfold fileT
  split
  · simp [noN]
  · split
    · simp [noN]
    · rename_i h1 _
      exact (fieldsB_iff.1 (hV.fld _ (nodeN_mem (by simpa using h1)))).2.2.2.2.2.2.2.2.2.2.1

set_option maxRecDepth 100000 in
set_option maxHeartbeats 6400000 in
theorem Read_any (nx : Int) (v : Value) (L : List ND) (id off cnt : Int) (w : World) (h : NRow w v L) (hV : Vld nx L) :
    Calls Try.prog 29 #[treeV nx v, .int .i64 id, .int .i64 off, .int .i64 cnt] w fun e w' => e = .returned (.tuple #[.string (mk (readT L id off cnt).1), .int .i64 (readT L id off cnt).2]) ∧ Below w.heap.size w w' := by
  obtain ⟨W, hW, hB0, hs0, hT0⟩ := start_t w nx v
  have hD := Lib.hid (file_any nx v L id W (h.below hB0) hV)
  have hle := fileT_le hV id
  have hfd := fun n e h => read_file (L := L) (id := id) (off := off) (cnt := cnt) (n := n) (e := e) h
  generalize readT L id off cnt = res at hfd ⊢
  generalize hd : fileT L id = dd at *
  obtain ⟨n, e⟩ := dd
  have hres := hfd n e rfl
  have hle2 := mk_size n.da
  replace hW := Lib.hid hW
  have HB0 := Lib.hid hB0
  have hs := Lib.hid hs0
  have HT := Lib.hid hT0
  obtain ⟨q, cap, rfl, hc, hm, _⟩ := h
  unfold treeV nodeV at hD
  unfold treeV
  clear hB0 hs0 hT0 hfd hd hV hc hm
  dsimp only at hD hle
  have hsz : (mk n.da).size ≤ 65536 := by omega
  by_cases he : e = 0
  · subst he
    rw [if_neg (by simp)] at hres
    by_cases hoc : off < 0 ∨ cnt < 0
    · rw [if_pos hoc] at hres
      replace hres := Lib.hid hres
      have hoc2 : decide (off < 0) = true ∨ (decide (off < 0) = false ∧ decide (cnt < 0) = true) := by
        by_cases h : off < 0
        · exact .inl (by simpa using h)
        · exact .inr ⟨by simpa using h, by simp; omega⟩
      clear hoc hle hle2
      rcases hoc2 with h1 | ⟨h1, h2⟩
      all_goals
        go_enter Try.func29, Try.ntmps29
        go_wp2_with ((first | simp only [hW.out] | skip); refine wpList_load_row rfl 26 _ rfl w.heap.size rfl 26 #[.int .i64 nx, .slice q L.length cap] (0, 0) _ HT.out Try.underlying26 rfl (by kernel_rfl) ?_)
        refine hD.out.mono ?_
        rintro e w2 ⟨rfl, hB⟩
        have HB2 := HB0.out.trans (hB.mono (by rw [hs.out]; omega))
        obtain ⟨W3, hW3, hB3, hb3, hM3, hs3⟩ := lay1 (n := n) HB2 HB2.size
        replace hW3 := Lib.hid hW3
        replace hB3 := Lib.hid hB3
        clear hB hM3 HB2 hb3 hs3
        go_wp2_with (refine wpList_store_row rfl 31 _ _ rfl w2.heap.size (cellsA n) rfl rfl 31 (cellsA noN) (heap_alloc_new w2 _) (by kernel_rfl) rfl (cellsA_one n) ?_; rw [World.setRow_alloc_new, hW3.out])
        go_ret2
        rw [hres.out]
        exact ⟨rfl, hB3.out⟩
    · rw [if_neg hoc] at hres
      obtain ⟨o, rfl⟩ := Int.eq_ofNat_of_zero_le (show 0 ≤ off by omega)
      obtain ⟨c, rfl⟩ := Int.eq_ofNat_of_zero_le (show 0 ≤ cnt by omega)
      rw [Int.toNat_natCast, Int.toNat_natCast] at hres
      have hC := Lib.hid (fun s (h : s.size ≤ 1000000) W => Clone_any s h W)
      have hx := Lib.hid (mk_extract n.da)
      have hx2 := Lib.hid (fun a b a' b' => (congrArg (fun s : ByteArray => s.extract a' b') (mk_extract n.da a b)).trans (mk_extract _ a' b'))
      clear hoc hle
      have HL2 := Lib.hid hle2
      clear hle2
      by_cases ho : o ≤ (mk n.da).size
      · by_cases hcc : c ≤ (mk n.da).size - o
        · have hy : ((mk n.da).extract o (mk n.da).size).extract 0 (c) = mk res.1 := by
            rw [hx2.out, hres, List.drop_zero, List.take_take]
            congr 1
            have hq := HL2.out
            rw [List.take_eq_take_iff]
            simp only [List.length_drop]
            omega
          have m1 : min (o : Int) ((mk n.da).size : Int) = (o : Int) := by omega
          have m2 : decide ((c : Int) < 0) = false := by simp
          have hyl : (mk res.1).size ≤ 1000000 := by rw [mk_size, hres]; simp only [List.length_take, List.length_drop]; rw [← HL2.out]; omega
          have HR1 : Hid (res = (res.1, 0)) := by rw [hres]; exact rfl
          go_enter Try.func29, Try.ntmps29
          go_wp2_with ((first | simp only [hW.out] | skip); refine wpList_load_row rfl 26 _ rfl w.heap.size rfl 26 #[.int .i64 nx, .slice q L.length cap] (0, 0) _ HT.out Try.underlying26 rfl (by kernel_rfl) ?_)
          refine hD.out.mono ?_
          rintro e w2 ⟨rfl, hB⟩
          have HB2 := HB0.out.trans (hB.mono (by rw [hs.out]; omega))
          obtain ⟨W3, hW3, hB3, hb3, hM3, hs3⟩ := lay1 (n := n) HB2 HB2.size
          have c10 : W3.cell? ⟨w2.heap.size, 10, none⟩ = some (.string (mk n.da)) := hM3.cell 10
          replace hW3 := Lib.hid hW3
          replace hB3 := Lib.hid hB3
          replace hy := Lib.hid hy
          clear hB hM3 HB2 hb3 hs3 hres
          go_wp2_with (refine wpList_store_row rfl 31 _ _ rfl w2.heap.size (cellsA n) rfl rfl 31 (cellsA noN) (heap_alloc_new w2 _) (by kernel_rfl) rfl (cellsA_one n) ?_; rw [World.setRow_alloc_new, hW3.out])
          rw [hy.out]
          refine (Clone_any _ hyl _).mono ?_
          rintro e w4 ⟨rfl, hB4⟩
          have HB4 := Lib.hid (hB3.out.trans (hB4.mono hB3.out.size))
          clear hB4
          go_wp2
          go_ret2
          rw [HR1.out]
          exact ⟨rfl, HB4.out⟩
        · by_cases hc6 : c ≤ 65536
          · have hy : ((mk n.da).extract o (mk n.da).size).extract 0 ((mk n.da).size - o) = mk res.1 := by
              rw [hx2.out, hres, List.drop_zero, List.take_take]
              congr 1
              have hq := HL2.out
              rw [List.take_eq_take_iff]
              simp only [List.length_drop]
              omega
            have m1 : min (o : Int) ((mk n.da).size : Int) = (o : Int) := by omega
            have m2 : decide ((c : Int) < 0) = false := by simp
            have hyl : (mk res.1).size ≤ 1000000 := by rw [mk_size, hres]; simp only [List.length_take, List.length_drop]; rw [← HL2.out]; omega
            have HR1 : Hid (res = (res.1, 0)) := by rw [hres]; exact rfl
            go_enter Try.func29, Try.ntmps29
            go_wp2_with ((first | simp only [hW.out] | skip); refine wpList_load_row rfl 26 _ rfl w.heap.size rfl 26 #[.int .i64 nx, .slice q L.length cap] (0, 0) _ HT.out Try.underlying26 rfl (by kernel_rfl) ?_)
            refine hD.out.mono ?_
            rintro e w2 ⟨rfl, hB⟩
            have HB2 := HB0.out.trans (hB.mono (by rw [hs.out]; omega))
            obtain ⟨W3, hW3, hB3, hb3, hM3, hs3⟩ := lay1 (n := n) HB2 HB2.size
            have c10 : W3.cell? ⟨w2.heap.size, 10, none⟩ = some (.string (mk n.da)) := hM3.cell 10
            replace hW3 := Lib.hid hW3
            replace hB3 := Lib.hid hB3
            replace hy := Lib.hid hy
            clear hB hM3 HB2 hb3 hs3 hres
            go_wp2_with (refine wpList_store_row rfl 31 _ _ rfl w2.heap.size (cellsA n) rfl rfl 31 (cellsA noN) (heap_alloc_new w2 _) (by kernel_rfl) rfl (cellsA_one n) ?_; rw [World.setRow_alloc_new, hW3.out])
            rw [hy.out]
            refine (Clone_any _ hyl _).mono ?_
            rintro e w4 ⟨rfl, hB4⟩
            have HB4 := Lib.hid (hB3.out.trans (hB4.mono hB3.out.size))
            clear hB4
            go_wp2
            go_ret2
            rw [HR1.out]
            exact ⟨rfl, HB4.out⟩
          · by_cases hc7 : (mk n.da).size - o < 65536
            · have hy : ((mk n.da).extract o (mk n.da).size).extract 0 ((mk n.da).size - o) = mk res.1 := by
                rw [hx2.out, hres, List.drop_zero, List.take_take]
                congr 1
                have hq := HL2.out
                rw [List.take_eq_take_iff]
                simp only [List.length_drop]
                omega
              have m1 : min (o : Int) ((mk n.da).size : Int) = (o : Int) := by omega
              have m2 : decide ((c : Int) < 0) = false := by simp
              have hyl : (mk res.1).size ≤ 1000000 := by rw [mk_size, hres]; simp only [List.length_take, List.length_drop]; rw [← HL2.out]; omega
              have HR1 : Hid (res = (res.1, 0)) := by rw [hres]; exact rfl
              go_enter Try.func29, Try.ntmps29
              go_wp2_with ((first | simp only [hW.out] | skip); refine wpList_load_row rfl 26 _ rfl w.heap.size rfl 26 #[.int .i64 nx, .slice q L.length cap] (0, 0) _ HT.out Try.underlying26 rfl (by kernel_rfl) ?_)
              refine hD.out.mono ?_
              rintro e w2 ⟨rfl, hB⟩
              have HB2 := HB0.out.trans (hB.mono (by rw [hs.out]; omega))
              obtain ⟨W3, hW3, hB3, hb3, hM3, hs3⟩ := lay1 (n := n) HB2 HB2.size
              have c10 : W3.cell? ⟨w2.heap.size, 10, none⟩ = some (.string (mk n.da)) := hM3.cell 10
              replace hW3 := Lib.hid hW3
              replace hB3 := Lib.hid hB3
              replace hy := Lib.hid hy
              clear hB hM3 HB2 hb3 hs3 hres
              go_wp2_with (refine wpList_store_row rfl 31 _ _ rfl w2.heap.size (cellsA n) rfl rfl 31 (cellsA noN) (heap_alloc_new w2 _) (by kernel_rfl) rfl (cellsA_one n) ?_; rw [World.setRow_alloc_new, hW3.out])
              rw [hy.out]
              refine (Clone_any _ hyl _).mono ?_
              rintro e w4 ⟨rfl, hB4⟩
              have HB4 := Lib.hid (hB3.out.trans (hB4.mono hB3.out.size))
              clear hB4
              go_wp2
              go_ret2
              rw [HR1.out]
              exact ⟨rfl, HB4.out⟩
            · have hy : ((mk n.da).extract o (mk n.da).size).extract 0 (65536) = mk res.1 := by
                rw [hx2.out, hres, List.drop_zero, List.take_take]
                congr 1
                have hq := HL2.out
                rw [List.take_eq_take_iff]
                simp only [List.length_drop]
                omega
              have m1 : min (o : Int) ((mk n.da).size : Int) = (o : Int) := by omega
              have m2 : decide ((c : Int) < 0) = false := by simp
              have hyl : (mk res.1).size ≤ 1000000 := by rw [mk_size, hres]; simp only [List.length_take, List.length_drop]; rw [← HL2.out]; omega
              have HR1 : Hid (res = (res.1, 0)) := by rw [hres]; exact rfl
              go_enter Try.func29, Try.ntmps29
              go_wp2_with ((first | simp only [hW.out] | skip); refine wpList_load_row rfl 26 _ rfl w.heap.size rfl 26 #[.int .i64 nx, .slice q L.length cap] (0, 0) _ HT.out Try.underlying26 rfl (by kernel_rfl) ?_)
              refine hD.out.mono ?_
              rintro e w2 ⟨rfl, hB⟩
              have HB2 := HB0.out.trans (hB.mono (by rw [hs.out]; omega))
              obtain ⟨W3, hW3, hB3, hb3, hM3, hs3⟩ := lay1 (n := n) HB2 HB2.size
              have c10 : W3.cell? ⟨w2.heap.size, 10, none⟩ = some (.string (mk n.da)) := hM3.cell 10
              replace hW3 := Lib.hid hW3
              replace hB3 := Lib.hid hB3
              replace hy := Lib.hid hy
              clear hB hM3 HB2 hb3 hs3 hres
              go_wp2_with (refine wpList_store_row rfl 31 _ _ rfl w2.heap.size (cellsA n) rfl rfl 31 (cellsA noN) (heap_alloc_new w2 _) (by kernel_rfl) rfl (cellsA_one n) ?_; rw [World.setRow_alloc_new, hW3.out])
              rw [hy.out]
              refine (Clone_any _ hyl _).mono ?_
              rintro e w4 ⟨rfl, hB4⟩
              have HB4 := Lib.hid (hB3.out.trans (hB4.mono hB3.out.size))
              clear hB4
              go_wp2
              go_ret2
              rw [HR1.out]
              exact ⟨rfl, HB4.out⟩
      · by_cases hc6 : c ≤ 65536
        · by_cases hc0 : c = 0
          · subst hc0
            have hy : ByteArray.empty = mk res.1 := by
              rw [hres]
              show _ = mk ((n.da.drop o).take 0)
              rw [List.drop_eq_nil_of_le (by rw [← HL2.out]; omega), List.take_nil]
              rfl
            have m1 : min (o : Int) ((mk n.da).size : Int) = ((mk n.da).size : Int) := by omega
            have m2 : True := trivial
            have hyl : (mk res.1).size ≤ 1000000 := by rw [mk_size, hres]; simp only [List.length_take, List.length_drop]; rw [← HL2.out]; omega
            have HR1 : Hid (res = (res.1, 0)) := by rw [hres]; exact rfl
            go_enter Try.func29, Try.ntmps29
            go_wp2_with ((first | simp only [hW.out] | skip); refine wpList_load_row rfl 26 _ rfl w.heap.size rfl 26 #[.int .i64 nx, .slice q L.length cap] (0, 0) _ HT.out Try.underlying26 rfl (by kernel_rfl) ?_)
            refine hD.out.mono ?_
            rintro e w2 ⟨rfl, hB⟩
            have HB2 := HB0.out.trans (hB.mono (by rw [hs.out]; omega))
            obtain ⟨W3, hW3, hB3, hb3, hM3, hs3⟩ := lay1 (n := n) HB2 HB2.size
            have c10 : W3.cell? ⟨w2.heap.size, 10, none⟩ = some (.string (mk n.da)) := hM3.cell 10
            replace hW3 := Lib.hid hW3
            replace hB3 := Lib.hid hB3
            replace hy := Lib.hid hy
            clear hB hM3 HB2 hb3 hs3 hres
            go_wp2_with (refine wpList_store_row rfl 31 _ _ rfl w2.heap.size (cellsA n) rfl rfl 31 (cellsA noN) (heap_alloc_new w2 _) (by kernel_rfl) rfl (cellsA_one n) ?_; rw [World.setRow_alloc_new, hW3.out])
            rw [hy.out]
            refine (Clone_any _ hyl _).mono ?_
            rintro e w4 ⟨rfl, hB4⟩
            have HB4 := Lib.hid (hB3.out.trans (hB4.mono hB3.out.size))
            clear hB4
            go_wp2
            go_ret2
            rw [HR1.out]
            exact ⟨rfl, HB4.out⟩
          · have hc1 : 0 < c := by omega
            have hy : ByteArray.empty = mk res.1 := by
              rw [hres]
              show _ = mk ((n.da.drop o).take c)
              rw [List.drop_eq_nil_of_le (by rw [← HL2.out]; omega), List.take_nil]
              rfl
            have m1 : min (o : Int) ((mk n.da).size : Int) = ((mk n.da).size : Int) := by omega
            have m2 : decide ((c : Int) < 0) = false := by simp
            have hyl : (mk res.1).size ≤ 1000000 := by rw [mk_size, hres]; simp only [List.length_take, List.length_drop]; rw [← HL2.out]; omega
            have HR1 : Hid (res = (res.1, 0)) := by rw [hres]; exact rfl
            go_enter Try.func29, Try.ntmps29
            go_wp2_with ((first | simp only [hW.out] | skip); refine wpList_load_row rfl 26 _ rfl w.heap.size rfl 26 #[.int .i64 nx, .slice q L.length cap] (0, 0) _ HT.out Try.underlying26 rfl (by kernel_rfl) ?_)
            refine hD.out.mono ?_
            rintro e w2 ⟨rfl, hB⟩
            have HB2 := HB0.out.trans (hB.mono (by rw [hs.out]; omega))
            obtain ⟨W3, hW3, hB3, hb3, hM3, hs3⟩ := lay1 (n := n) HB2 HB2.size
            have c10 : W3.cell? ⟨w2.heap.size, 10, none⟩ = some (.string (mk n.da)) := hM3.cell 10
            replace hW3 := Lib.hid hW3
            replace hB3 := Lib.hid hB3
            replace hy := Lib.hid hy
            clear hB hM3 HB2 hb3 hs3 hres
            go_wp2_with (refine wpList_store_row rfl 31 _ _ rfl w2.heap.size (cellsA n) rfl rfl 31 (cellsA noN) (heap_alloc_new w2 _) (by kernel_rfl) rfl (cellsA_one n) ?_; rw [World.setRow_alloc_new, hW3.out])
            rw [hy.out]
            refine (Clone_any _ hyl _).mono ?_
            rintro e w4 ⟨rfl, hB4⟩
            have HB4 := Lib.hid (hB3.out.trans (hB4.mono hB3.out.size))
            clear hB4
            go_wp2
            go_ret2
            rw [HR1.out]
            exact ⟨rfl, HB4.out⟩
        · have hy : ByteArray.empty = mk res.1 := by
            rw [hres]
            show _ = mk ((n.da.drop o).take c)
            rw [List.drop_eq_nil_of_le (by rw [← HL2.out]; omega), List.take_nil]
            rfl
          have m1 : min (o : Int) ((mk n.da).size : Int) = ((mk n.da).size : Int) := by omega
          have m2 : decide ((c : Int) < 0) = false := by simp
          have hyl : (mk res.1).size ≤ 1000000 := by rw [mk_size, hres]; simp only [List.length_take, List.length_drop]; rw [← HL2.out]; omega
          have HR1 : Hid (res = (res.1, 0)) := by rw [hres]; exact rfl
          go_enter Try.func29, Try.ntmps29
          go_wp2_with ((first | simp only [hW.out] | skip); refine wpList_load_row rfl 26 _ rfl w.heap.size rfl 26 #[.int .i64 nx, .slice q L.length cap] (0, 0) _ HT.out Try.underlying26 rfl (by kernel_rfl) ?_)
          refine hD.out.mono ?_
          rintro e w2 ⟨rfl, hB⟩
          have HB2 := HB0.out.trans (hB.mono (by rw [hs.out]; omega))
          obtain ⟨W3, hW3, hB3, hb3, hM3, hs3⟩ := lay1 (n := n) HB2 HB2.size
          have c10 : W3.cell? ⟨w2.heap.size, 10, none⟩ = some (.string (mk n.da)) := hM3.cell 10
          replace hW3 := Lib.hid hW3
          replace hB3 := Lib.hid hB3
          replace hy := Lib.hid hy
          clear hB hM3 HB2 hb3 hs3 hres
          go_wp2_with (refine wpList_store_row rfl 31 _ _ rfl w2.heap.size (cellsA n) rfl rfl 31 (cellsA noN) (heap_alloc_new w2 _) (by kernel_rfl) rfl (cellsA_one n) ?_; rw [World.setRow_alloc_new, hW3.out])
          rw [hy.out]
          refine (Clone_any _ hyl _).mono ?_
          rintro e w4 ⟨rfl, hB4⟩
          have HB4 := Lib.hid (hB3.out.trans (hB4.mono hB3.out.size))
          clear hB4
          go_wp2
          go_ret2
          rw [HR1.out]
          exact ⟨rfl, HB4.out⟩
  · rw [if_pos he] at hres
    have he2 : (e != 0) = true := by simpa using he
    replace hres := Lib.hid hres
    clear he hle hle2
    go_enter Try.func29, Try.ntmps29
    go_wp2_with ((first | simp only [hW.out] | skip); refine wpList_load_row rfl 26 _ rfl w.heap.size rfl 26 #[.int .i64 nx, .slice q L.length cap] (0, 0) _ HT.out Try.underlying26 rfl (by kernel_rfl) ?_)
    refine hD.out.mono ?_
    rintro e w2 ⟨rfl, hB⟩
    have HB2 := HB0.out.trans (hB.mono (by rw [hs.out]; omega))
    obtain ⟨W3, hW3, hB3, hb3, hM3, hs3⟩ := lay1 (n := n) HB2 HB2.size
    replace hW3 := Lib.hid hW3
    replace hB3 := Lib.hid hB3
    clear hB hM3 HB2 hb3 hs3
    go_wp2_with (refine wpList_store_row rfl 31 _ _ rfl w2.heap.size (cellsA n) rfl rfl 31 (cellsA noN) (heap_alloc_new w2 _) (by kernel_rfl) rfl (cellsA_one n) ?_; rw [World.setRow_alloc_new, hW3.out])
    go_ret2
    rw [hres.out]
    exact ⟨rfl, hB3.out⟩
end Go.Proofs.Ytalhkoolpnmcdaa
