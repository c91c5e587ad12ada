/-
  Walks: Resize, Write.
-/
import Derived.Test.YtalhkoolpnmcdaaAy
namespace Go.Proofs.Ytalhkoolpnmcdaa
open Go.RowKit

theorem file_split {L : List ND} {id : Int} {n : ND} {e : Int} (h : fileT L id = (n, e)) : fileE L id = e ∧ (e = 0 → n = nodeN L id ∧ hasN L id = true ∧ dirB n.mo = false) := by
  unfold fileT at h
  unfold fileE
  split at h
  · rename_i h1
    injection h with h2 h3
    subst h2 h3
    rw [if_pos h1]
    exact ⟨rfl, fun h => absurd h (by decide)⟩
  · rename_i h1
    rw [if_neg h1]
    split at h
    · rename_i h4
      injection h with h2 h3
      subst h2 h3
      rw [if_pos h4]
      exact ⟨rfl, fun h => absurd h (by decide)⟩
    · rename_i h4
      injection h with h2 h3
      subst h2 h3
      rw [if_neg h4]
      exact ⟨rfl, fun _ => ⟨rfl, by simpa using h1, by simpa using h4⟩⟩
theorem resize_file {nx : Int} {L : List ND} {id len : Int} {uid : List UInt8} {now : Int} {n : ND} {e : Int} (h : fileT L id = (n, e)) :
    resizeT (nx, L) id len uid now = if e ≠ 0 then ((nx, L), 0, e) else if len < 0 then ((nx, L), 0, 1) else if 65536 < len then ((nx, L), 0, 4) else if len = n.da.length then ((nx, L), 0, 0)
      else ((nx, edT L id (fun m => touchN uid now (dataN (resL n.da len.toNat) m))), 0, 0) := by
  obtain ⟨h1, h2⟩ := file_split h
  unfold resizeT
  dsimp only
  rw [h1]
  by_cases he : e = 0
  · rw [(h2 he).1]
  · rw [if_pos he, if_pos he]
theorem write_file {nx : Int} {L : List ND} {id off : Int} {s uid : List UInt8} {now : Int} {n : ND} {e : Int} (h : fileT L id = (n, e)) :
    writeT (nx, L) id off s uid now = if e ≠ 0 then ((nx, L), 0, e) else if off < 0 then ((nx, L), 0, 1) else if s = [] then ((nx, L), 0, 0) else if 65536 < placeI n off + s.length then ((nx, L), 0, 4)
      else ((nx, edT L id (fun m => touchN uid now (dataN (overL n.da (placeI n off).toNat s) m))), (s.length : Int), 0) := by
  obtain ⟨h1, h2⟩ := file_split h
  unfold writeT
  dsimp only
  rw [h1]
  by_cases he : e = 0
  · rw [(h2 he).1]
  · rw [if_pos he, if_pos he]

/-- What stays in sight: the tree that came in and the node found. -/
structure ISt (w : World) (nx : Int) (v : Value) (b : Nat) (n : ND) (W : World) : Prop where
  bel : Below w.heap.size w W
  inn : BlkT W w.heap.size nx v
  nod : BlkN W b n
theorem ISt.go {w W W' : World} {nx : Int} {v : Value} {b : Nat} {n : ND} (h : ISt w nx v b n W) (hB : Below W.heap.size W W') : ISt w nx v b n W' := ⟨h.bel.trans (hB.mono h.bel.size), h.inn.below hB h.inn.lt, h.nod.below hB h.nod.lt⟩
theorem ISt.setRow {w W : World} {nx : Int} {v : Value} {b : Nat} {n : ND} (h : ISt w nx v b n W) {g : Nat} (hg : w.heap.size < g) (hb : b ≠ g) (cs : Array Value) : ISt w nx v b n (W.setRow g cs) :=
  ⟨below_setRow h.bel (by omega) _, h.inn.setRow (by omega) _, h.nod.other hb _⟩
theorem ISt.drew {w W : World} {nx : Int} {v : Value} {b : Nat} {n : ND} (h : ISt w nx v b n W) : ISt w nx v b n W.drew := ⟨below_drew h.bel, h.inn, h.nod⟩

set_option maxRecDepth 100000 in
set_option maxHeartbeats 12800000 in
theorem Resize_any (nx : Int) (v : Value) (L : List ND) (id len : Int) (uid : List UInt8) (now : Int) (w : World) (h : NRow w v L) (hV : Vld nx L) :
    Calls Try.prog 54 #[treeV nx v, .int .i64 id, .int .i64 len, .string (mk uid), .int .i64 now] w fun e w' => Gives2 (resizeT (nx, L) id len uid now).1 (resizeT (nx, L) id len uid now).2.2 w e w' := by
  obtain ⟨W, hW, hB0, hs0, hT0, hU0⟩ := start_tt w nx v
  have hl : L.length ≤ 1000000 := by have := hV.len; omega
  have hD := Lib.hid (file_any nx v L id W (h.below hB0) hV)
  have hCp := Lib.hid (fun W' (hB : Below w.heap.size w W') => copied_any nx v L W' (h.below hB) hV.ne hl)
  have hSD := fun s W' (hB : Below w.heap.size w W') => setData_any s uid now nx v L id W' (h.below hB) hV.rise hV.ne hl hV.vers
  have hda := fileT_le hV id
  have hfd := fun n e h => resize_file (nx := nx) (L := L) (id := id) (len := len) (uid := uid) (now := now) (n := n) (e := e) h
  generalize resizeT (nx, L) id len uid now = res at hfd ⊢
  generalize hd : fileT L id = dd at *
  obtain ⟨n, e⟩ := dd
  have hres := hfd n e rfl
  have h0 := hV.ne
  have hdz := mk_size n.da
  replace hW := Lib.hid hW
  have H0 := Lib.hid (CSt.mk hB0 hT0 hU0)
  obtain ⟨q, cap, rfl, hc, hm, _⟩ := h
  unfold treeV nodeV at hD
  unfold treeV at hCp hSD ⊢
  dsimp only at hD hda
  clear hB0 hs0 hT0 hU0 hV hc hm hfd hd
  by_cases he : e ≠ 0
  · rw [if_pos he] at hres
    have he2 : (e != 0) = true := by simpa using he
    clear he hSD
    replace hres := Lib.hid hres
    go_enter Try.func54, Try.ntmps54
    go_wp2_with ((first | simp only [hW.out] | skip); refine wpList_load_row rfl 26 _ rfl w.heap.size rfl 26 #[.int .i64 nx, .slice q L.length cap] (0, 0) _ H0.out.inn Try.underlying26 rfl (by kernel_rfl) ?_)
    refine hD.out.mono ?_
    rintro e w2 ⟨rfl, hB⟩
    have H2 := Lib.hid (H0.out.go hB)
    have hs2 := H2.out.size
    obtain ⟨W3, hW3, _, hb3, hM3, hs3⟩ := lay1 (n := n) (Below.refl w2.heap.size w2) (Nat.le_refl _)
    have H3 := Lib.hid (H2.out.go hb3)
    have n1 : W3.cell? ⟨w2.heap.size, 1, none⟩ = some (.int .i64 n.pa) := hM3.cell 1
    have n3 : W3.cell? ⟨w2.heap.size, 3, none⟩ = some (.string (mk n.nm)) := hM3.cell 3
    have n4 : W3.cell? ⟨w2.heap.size, 4, none⟩ = some (.int .i64 n.mo) := hM3.cell 4
    have n10 : W3.cell? ⟨w2.heap.size, 10, none⟩ = some (.string (mk n.da)) := hM3.cell 10
    have HM3 := Lib.hid hM3
    replace hW3 := Lib.hid hW3
    clear hB hb3 hs3 hM3
    go_wp2_with (first
      | (refine wpList_store_row rfl 31 _ _ rfl w2.heap.size (cellsA n) rfl rfl 31 (cellsA noN) (heap_alloc_new w2 _) (by kernel_rfl) rfl (cellsA_one n) ?_; rw [World.setRow_alloc_new, hW3.out])
      | (refine wpList_load_row rfl 26 _ rfl w.heap.size rfl 26 #[.int .i64 nx, .slice q L.length cap] (0, 0) _ H3.out.inn Try.underlying26 rfl (by kernel_rfl) ?_)
      )
    refine (hCp.out _ H3.out.bel).mono ?_
    rintro e w5 ⟨v', rfl, hO5, hB5⟩
    have H5 := Lib.hid (H3.out.go hB5)
    obtain ⟨G, cap', rfl, hG1, _⟩ := hO5.form h0
    have hsz := H3.out.size
    have HO5 := Lib.hid hO5
    unfold treeV
    clear hB5 hO5
    go_wp2_with (refine wpList_store_row rfl 26 _ _ rfl (w.heap.size + 1) #[.int .i64 nx, .slice (some ⟨G, 0, none⟩) L.length cap'] rfl rfl 26 #[.int .i64 0, .slice none 0 0] H5.out.out (by kernel_rfl) rfl (treeA_one _ _ _ _) ?_)
    refine bodyPost_ret (results_tree2 (b := w.heap.size + 1) (nx := nx) (v := .slice (some ⟨G, 0, none⟩) L.length cap') rfl rfl (setRow_heap _ _ _ _ _ _ H5.out.out)) rfl ?_
    rw [hres.out]
    exact ⟨.slice (some ⟨G, 0, none⟩) L.length cap', rfl, (own_setRow (k := w.heap.size + 1) HO5.out (by simp [Value.ownBlock]; omega) _).row, below_setRow (g := w.heap.size + 1) H5.out.bel (by omega) _⟩
  · obtain rfl : e = 0 := by simpa using he
    rw [if_neg he] at hres
    clear he
    by_cases h1 : len < 0
    · rw [if_pos h1] at hres
      clear hSD
      replace hres := Lib.hid hres
      go_enter Try.func54, Try.ntmps54
      go_wp2_with ((first | simp only [hW.out] | skip); refine wpList_load_row rfl 26 _ rfl w.heap.size rfl 26 #[.int .i64 nx, .slice q L.length cap] (0, 0) _ H0.out.inn Try.underlying26 rfl (by kernel_rfl) ?_)
      refine hD.out.mono ?_
      rintro e w2 ⟨rfl, hB⟩
      have H2 := Lib.hid (H0.out.go hB)
      have hs2 := H2.out.size
      obtain ⟨W3, hW3, _, hb3, hM3, hs3⟩ := lay1 (n := n) (Below.refl w2.heap.size w2) (Nat.le_refl _)
      have H3 := Lib.hid (H2.out.go hb3)
      have n1 : W3.cell? ⟨w2.heap.size, 1, none⟩ = some (.int .i64 n.pa) := hM3.cell 1
      have n3 : W3.cell? ⟨w2.heap.size, 3, none⟩ = some (.string (mk n.nm)) := hM3.cell 3
      have n4 : W3.cell? ⟨w2.heap.size, 4, none⟩ = some (.int .i64 n.mo) := hM3.cell 4
      have n10 : W3.cell? ⟨w2.heap.size, 10, none⟩ = some (.string (mk n.da)) := hM3.cell 10
      have HM3 := Lib.hid hM3
      replace hW3 := Lib.hid hW3
      clear hB hb3 hs3 hM3
      go_wp2_with (first
        | (refine wpList_store_row rfl 31 _ _ rfl w2.heap.size (cellsA n) rfl rfl 31 (cellsA noN) (heap_alloc_new w2 _) (by kernel_rfl) rfl (cellsA_one n) ?_; rw [World.setRow_alloc_new, hW3.out])
        | (refine wpList_load_row rfl 26 _ rfl w.heap.size rfl 26 #[.int .i64 nx, .slice q L.length cap] (0, 0) _ H3.out.inn Try.underlying26 rfl (by kernel_rfl) ?_)
        )
      refine (hCp.out _ H3.out.bel).mono ?_
      rintro e w5 ⟨v', rfl, hO5, hB5⟩
      have H5 := Lib.hid (H3.out.go hB5)
      obtain ⟨G, cap', rfl, hG1, _⟩ := hO5.form h0
      have hsz := H3.out.size
      have HO5 := Lib.hid hO5
      unfold treeV
      clear hB5 hO5
      go_wp2_with (refine wpList_store_row rfl 26 _ _ rfl (w.heap.size + 1) #[.int .i64 nx, .slice (some ⟨G, 0, none⟩) L.length cap'] rfl rfl 26 #[.int .i64 0, .slice none 0 0] H5.out.out (by kernel_rfl) rfl (treeA_one _ _ _ _) ?_)
      refine bodyPost_ret (results_tree2 (b := w.heap.size + 1) (nx := nx) (v := .slice (some ⟨G, 0, none⟩) L.length cap') rfl rfl (setRow_heap _ _ _ _ _ _ H5.out.out)) rfl ?_
      rw [hres.out]
      exact ⟨.slice (some ⟨G, 0, none⟩) L.length cap', rfl, (own_setRow (k := w.heap.size + 1) HO5.out (by simp [Value.ownBlock]; omega) _).row, below_setRow (g := w.heap.size + 1) H5.out.bel (by omega) _⟩
    · rw [if_neg h1] at hres
      by_cases h2 : 65536 < len
      · rw [if_pos h2] at hres
        clear hSD
        replace hres := Lib.hid hres
        go_enter Try.func54, Try.ntmps54
        go_wp2_with ((first | simp only [hW.out] | skip); refine wpList_load_row rfl 26 _ rfl w.heap.size rfl 26 #[.int .i64 nx, .slice q L.length cap] (0, 0) _ H0.out.inn Try.underlying26 rfl (by kernel_rfl) ?_)
        refine hD.out.mono ?_
        rintro e w2 ⟨rfl, hB⟩
        have H2 := Lib.hid (H0.out.go hB)
        have hs2 := H2.out.size
        obtain ⟨W3, hW3, _, hb3, hM3, hs3⟩ := lay1 (n := n) (Below.refl w2.heap.size w2) (Nat.le_refl _)
        have H3 := Lib.hid (H2.out.go hb3)
        have n1 : W3.cell? ⟨w2.heap.size, 1, none⟩ = some (.int .i64 n.pa) := hM3.cell 1
        have n3 : W3.cell? ⟨w2.heap.size, 3, none⟩ = some (.string (mk n.nm)) := hM3.cell 3
        have n4 : W3.cell? ⟨w2.heap.size, 4, none⟩ = some (.int .i64 n.mo) := hM3.cell 4
        have n10 : W3.cell? ⟨w2.heap.size, 10, none⟩ = some (.string (mk n.da)) := hM3.cell 10
        have HM3 := Lib.hid hM3
        replace hW3 := Lib.hid hW3
        clear hB hb3 hs3 hM3
        go_wp2_with (first
          | (refine wpList_store_row rfl 31 _ _ rfl w2.heap.size (cellsA n) rfl rfl 31 (cellsA noN) (heap_alloc_new w2 _) (by kernel_rfl) rfl (cellsA_one n) ?_; rw [World.setRow_alloc_new, hW3.out])
          | (refine wpList_load_row rfl 26 _ rfl w.heap.size rfl 26 #[.int .i64 nx, .slice q L.length cap] (0, 0) _ H3.out.inn Try.underlying26 rfl (by kernel_rfl) ?_)
          )
        refine (hCp.out _ H3.out.bel).mono ?_
        rintro e w5 ⟨v', rfl, hO5, hB5⟩
        have H5 := Lib.hid (H3.out.go hB5)
        obtain ⟨G, cap', rfl, hG1, _⟩ := hO5.form h0
        have hsz := H3.out.size
        have HO5 := Lib.hid hO5
        unfold treeV
        clear hB5 hO5
        go_wp2_with (refine wpList_store_row rfl 26 _ _ rfl (w.heap.size + 1) #[.int .i64 nx, .slice (some ⟨G, 0, none⟩) L.length cap'] rfl rfl 26 #[.int .i64 0, .slice none 0 0] H5.out.out (by kernel_rfl) rfl (treeA_one _ _ _ _) ?_)
        refine bodyPost_ret (results_tree2 (b := w.heap.size + 1) (nx := nx) (v := .slice (some ⟨G, 0, none⟩) L.length cap') rfl rfl (setRow_heap _ _ _ _ _ _ H5.out.out)) rfl ?_
        rw [hres.out]
        exact ⟨.slice (some ⟨G, 0, none⟩) L.length cap', rfl, (own_setRow (k := w.heap.size + 1) HO5.out (by simp [Value.ownBlock]; omega) _).row, below_setRow (g := w.heap.size + 1) H5.out.bel (by omega) _⟩
      · rw [if_neg h2] at hres
        by_cases h3 : len = n.da.length
        · rw [if_pos h3] at hres
          have h4 : (len == ((mk n.da).size : Int)) = true := by rw [h3]; simp; omega
          clear hSD h3
          replace hres := Lib.hid hres
          go_enter Try.func54, Try.ntmps54
          go_wp2_with ((first | simp only [hW.out] | skip); refine wpList_load_row rfl 26 _ rfl w.heap.size rfl 26 #[.int .i64 nx, .slice q L.length cap] (0, 0) _ H0.out.inn Try.underlying26 rfl (by kernel_rfl) ?_)
          refine hD.out.mono ?_
          rintro e w2 ⟨rfl, hB⟩
          have H2 := Lib.hid (H0.out.go hB)
          have hs2 := H2.out.size
          obtain ⟨W3, hW3, _, hb3, hM3, hs3⟩ := lay1 (n := n) (Below.refl w2.heap.size w2) (Nat.le_refl _)
          have H3 := Lib.hid (H2.out.go hb3)
          have n1 : W3.cell? ⟨w2.heap.size, 1, none⟩ = some (.int .i64 n.pa) := hM3.cell 1
          have n3 : W3.cell? ⟨w2.heap.size, 3, none⟩ = some (.string (mk n.nm)) := hM3.cell 3
          have n4 : W3.cell? ⟨w2.heap.size, 4, none⟩ = some (.int .i64 n.mo) := hM3.cell 4
          have n10 : W3.cell? ⟨w2.heap.size, 10, none⟩ = some (.string (mk n.da)) := hM3.cell 10
          have HM3 := Lib.hid hM3
          replace hW3 := Lib.hid hW3
          clear hB hb3 hs3 hM3
          go_wp2_with (first
            | (refine wpList_store_row rfl 31 _ _ rfl w2.heap.size (cellsA n) rfl rfl 31 (cellsA noN) (heap_alloc_new w2 _) (by kernel_rfl) rfl (cellsA_one n) ?_; rw [World.setRow_alloc_new, hW3.out])
            | (refine wpList_load_row rfl 26 _ rfl w.heap.size rfl 26 #[.int .i64 nx, .slice q L.length cap] (0, 0) _ H3.out.inn Try.underlying26 rfl (by kernel_rfl) ?_)
            )
          refine (hCp.out _ H3.out.bel).mono ?_
          rintro e w5 ⟨v', rfl, hO5, hB5⟩
          have H5 := Lib.hid (H3.out.go hB5)
          obtain ⟨G, cap', rfl, hG1, _⟩ := hO5.form h0
          have hsz := H3.out.size
          have HO5 := Lib.hid hO5
          unfold treeV
          clear hB5 hO5
          go_wp2_with (refine wpList_store_row rfl 26 _ _ rfl (w.heap.size + 1) #[.int .i64 nx, .slice (some ⟨G, 0, none⟩) L.length cap'] rfl rfl 26 #[.int .i64 0, .slice none 0 0] H5.out.out (by kernel_rfl) rfl (treeA_one _ _ _ _) ?_)
          refine bodyPost_ret (results_tree2 (b := w.heap.size + 1) (nx := nx) (v := .slice (some ⟨G, 0, none⟩) L.length cap') rfl rfl (setRow_heap _ _ _ _ _ _ H5.out.out)) rfl ?_
          rw [hres.out]
          exact ⟨.slice (some ⟨G, 0, none⟩) L.length cap', rfl, (own_setRow (k := w.heap.size + 1) HO5.out (by simp [Value.ownBlock]; omega) _).row, below_setRow (g := w.heap.size + 1) H5.out.bel (by omega) _⟩
        · rw [if_neg h3] at hres
          have h4 : (len == ((mk n.da).size : Int)) = false := by simp; omega
          obtain ⟨k, rfl⟩ := Int.eq_ofNat_of_zero_le (show 0 ≤ len by omega)
          rw [Int.toNat_natCast] at hres
          have hRs := Lib.hid (fun W => resized_any n.da k (by omega) (by omega) W)
          have hSD2 := hSD (resL n.da k)
          have hml : (edT L id fun m => touchN uid now (dataN (resL n.da k) m)).length = L.length := edT_len _ _ _
          generalize (edT L id fun m => touchN uid now (dataN (resL n.da k) m)) = M at hSD2 hml hres
          have hSD3 := Lib.hid hSD2
          replace hml := Lib.hid hml
          generalize resL n.da k = rd at *
          clear hSD hSD2 h3 hda
          replace hres := Lib.hid hres
          go_enter Try.func54, Try.ntmps54
          go_wp2_with ((first | simp only [hW.out] | skip); refine wpList_load_row rfl 26 _ rfl w.heap.size rfl 26 #[.int .i64 nx, .slice q L.length cap] (0, 0) _ H0.out.inn Try.underlying26 rfl (by kernel_rfl) ?_)
          refine hD.out.mono ?_
          rintro e w2 ⟨rfl, hB⟩
          have H2 := Lib.hid (H0.out.go hB)
          have hs2 := H2.out.size
          obtain ⟨W3, hW3, _, hb3, hM3, hs3⟩ := lay1 (n := n) (Below.refl w2.heap.size w2) (Nat.le_refl _)
          have H3 := Lib.hid (H2.out.go hb3)
          have n1 : W3.cell? ⟨w2.heap.size, 1, none⟩ = some (.int .i64 n.pa) := hM3.cell 1
          have n3 : W3.cell? ⟨w2.heap.size, 3, none⟩ = some (.string (mk n.nm)) := hM3.cell 3
          have n4 : W3.cell? ⟨w2.heap.size, 4, none⟩ = some (.int .i64 n.mo) := hM3.cell 4
          have n10 : W3.cell? ⟨w2.heap.size, 10, none⟩ = some (.string (mk n.da)) := hM3.cell 10
          have HM3 := Lib.hid hM3
          replace hW3 := Lib.hid hW3
          clear hB hb3 hs3 hM3
          go_wp2_with (refine wpList_store_row rfl 31 _ _ rfl w2.heap.size (cellsA n) rfl rfl 31 (cellsA noN) (heap_alloc_new w2 _) (by kernel_rfl) rfl (cellsA_one n) ?_; rw [World.setRow_alloc_new, hW3.out])
          have HI := Lib.hid (ISt.mk H3.out.bel H3.out.inn HM3.out)
          have HOt := Lib.hid H3.out.out
          have HId := Lib.hid HI.out.drew
          have HOd : Hid (BlkT W3.drew (w.heap.size + 1) 0 (.slice none 0 0)) := H3.out.out
          clear n1 n3 n4 n10
          refine wp_region_held_drew (S := ISt w nx (.slice q L.length cap) w2.heap.size n) (by kernel_rfl) (HId.out) (fun hHeld => ?_)
          refine takeD (i := 0) (oi := _) (d := some 44) (v := .agg #[.int .i64 nx, .slice q L.length cap]) rfl rfl (by kernel_rfl) (by kernel_rfl) (by kernel_rfl) (fun _ _ _ h => h) (yieldsIf_load_row (by rfl) 26 _ rfl w.heap.size rfl #[.int .i64 nx, .slice q L.length cap] (fun W' (hS : ISt w nx (.slice q L.length cap) w2.heap.size n W') => load_tree hS.inn)) (by assumption) ?_
          try simp only [Act.put, List.setIfInBounds_toArray, List.set_cons_zero, List.set_cons_succ]
          refine takeD (i := 1) (oi := _) (d := some 45) (v := .int .i64 id) rfl rfl (by kernel_rfl) (by kernel_rfl) (by kernel_rfl) (fun _ _ _ h => h) (Or.inl ⟨by rfl, fun W' hSw => by go_simp⟩) (by assumption) ?_
          try simp only [Act.put, List.setIfInBounds_toArray, List.set_cons_zero, List.set_cons_succ]
          refine takeD (i := 2) (oi := _) (d := some 46) (v := .pointer (some ⟨w2.heap.size, 10, none⟩)) rfl rfl (by kernel_rfl) (by kernel_rfl) (by kernel_rfl) (fun _ _ _ h => h) (Or.inl ⟨by rfl, fun W' hSw => by go_simp⟩) (by assumption) ?_
          try simp only [Act.put, List.setIfInBounds_toArray, List.set_cons_zero, List.set_cons_succ]
          refine takeD (i := 3) (oi := _) (d := some 47) (v := .string (mk n.da)) rfl rfl (by kernel_rfl) (by kernel_rfl) (by kernel_rfl) (fun _ _ _ h => h) (Or.inl ⟨by rfl, fun W' hSw => by have x0 : W'.cell? ⟨w2.heap.size, 10, none⟩ = some (.string (mk n.da)) := hSw.nod.cell 10; go_simp⟩) (by assumption) ?_
          try simp only [Act.put, List.setIfInBounds_toArray, List.set_cons_zero, List.set_cons_succ]
          refine takeD (i := 4) (oi := _) (d := some 48) (v := .int .i64 (k : Int)) rfl rfl (by kernel_rfl) (by kernel_rfl) (by kernel_rfl) (fun _ _ _ h => h) (Or.inl ⟨by rfl, fun W' hSw => by go_simp⟩) (by assumption) ?_
          try simp only [Act.put, List.setIfInBounds_toArray, List.set_cons_zero, List.set_cons_succ]
          refine takeD (i := 6) (oi := _) (d := some 50) (v := .string (mk uid)) rfl rfl (by kernel_rfl) (by kernel_rfl) (by kernel_rfl) (fun _ _ _ h => h) (Or.inl ⟨by rfl, fun W' hSw => by go_simp⟩) (by assumption) ?_
          try simp only [Act.put, List.setIfInBounds_toArray, List.set_cons_zero, List.set_cons_succ]
          refine takeD (i := 7) (oi := _) (d := some 51) (v := .int .i64 now) rfl rfl (by kernel_rfl) (by kernel_rfl) (by kernel_rfl) (fun _ _ _ h => h) (Or.inl ⟨by rfl, fun W' hSw => by go_simp⟩) (by assumption) ?_
          try simp only [Act.put, List.setIfInBounds_toArray, List.set_cons_zero, List.set_cons_succ]
          refine wpAnyH_ready (rs := [5]) (by kernel_rfl) (by simp) ?_
          refine AllReadyH.cons (o := _) rfl (fun K hK => ?_) AllReadyH.nil
          go_simp
          refine (hRs.out _).mono ?_
          rintro e W6 ⟨rfl, hB6⟩
          have H6 := Lib.hid (HId.out.go hB6)
          have HO6 := Lib.hid (HOd.out.below hB6 HOd.out.lt)
          clear hB6
          refine hK.out _ _ (H6.out) (fun hHeld => ?_)
          clear hK K
          try simp only [Act.put, List.setIfInBounds_toArray, List.set_cons_zero, List.set_cons_succ]
          refine wpAnyH_ready (rs := [8]) (by kernel_rfl) (by simp) ?_
          refine AllReadyH.cons (o := _) rfl (fun K hK => ?_) AllReadyH.nil
          go_simp
          refine (hSD3.out _ H6.out.bel).mono ?_
          rintro e W7 ⟨v7, rfl, hO7, hB7⟩
          have H7 := Lib.hid (H6.out.go hB7)
          have HO7 := Lib.hid (HO6.out.below hB7 HO6.out.lt)
          obtain ⟨G, cap7, rfl, hG1, hG2, _, _⟩ := hO7.form (by rw [hml.out]; exact h0)
          have hlt6 := HO6.out.lt
          have HN7 := Lib.hid (NOwn.mono hO7 H6.out.bel.size)
          clear hB7 hO7
          refine hK.out _ _ (H7.out) (fun hHeld => ?_)
          clear hK K
          try simp only [Act.put, List.setIfInBounds_toArray, List.set_cons_zero, List.set_cons_succ]
          refine wpAnyH_ready (rs := [9]) (by kernel_rfl) (by simp) ?_
          refine AllReadyH.cons (o := _) rfl (fun K hK => ?_) AllReadyH.nil
          rw [if_pos (by rfl)]
          refine wp_store_row 26 _ _ rfl (w.heap.size + 1) #[.int .i64 nx, .slice (some ⟨G, 0, none⟩) M.length cap7] rfl rfl 26 #[.int .i64 0, .slice none 0 0] HO7.out (by kernel_rfl) rfl (treeA_one _ _ _ _) ?_
          refine hK.out _ _ (H7.out.setRow (by omega) (by omega) _) (fun hHeld => ?_)
          clear hK K
          try simp only [Act.put, List.setIfInBounds_toArray, List.set_cons_zero, List.set_cons_succ]
          refine takeD (i := 10) (oi := _) (d := some 11) (v := .int .i64 0) rfl rfl (by kernel_rfl) (by kernel_rfl) (by kernel_rfl) (fun _ _ _ h => h) (Or.inl ⟨by rfl, fun W' hSw => by go_simp⟩) (by assumption) ?_
          try simp only [Act.put, List.setIfInBounds_toArray, List.set_cons_zero, List.set_cons_succ]
          refine wpAnyH_done (by kernel_rfl) ?_ _
          go_wp2_with fail
          refine bodyPost_ret (results_tree2 (b := w.heap.size + 1) (nx := nx) (v := .slice (some ⟨G, 0, none⟩) M.length cap7) rfl rfl (setRow_heap _ _ _ _ _ _ HO7.out)) rfl ?_
          rw [hres.out]
          exact ⟨.slice (some ⟨G, 0, none⟩) M.length cap7, rfl, (own_setRow (k := w.heap.size + 1) HN7.out (by simp [Value.ownBlock]; omega) _).row, below_setRow (g := w.heap.size + 1) H7.out.bel (by omega) _⟩

set_option maxRecDepth 100000 in
set_option maxHeartbeats 12800000 in
theorem Write_any (nx : Int) (v : Value) (L : List ND) (id off : Int) (s uid : List UInt8) (now : Int) (w : World) (h : NRow w v L) (hV : Vld nx L) (hs : s.length ≤ 100000) (hoff : off ≤ 9223372036854775807) :
    Calls Try.prog 32 #[treeV nx v, .int .i64 id, .int .i64 off, .string (mk s), .string (mk uid), .int .i64 now] w fun e w' => Gives3 (writeT (nx, L) id off s uid now).1 (writeT (nx, L) id off s uid now).2.1 (writeT (nx, L) id off s uid now).2.2 w e w' := by
  obtain ⟨W, hW, hB0, hs0, hT0, hU0⟩ := start_tt w nx v
  have hl : L.length ≤ 1000000 := by have := hV.len; omega
  have hD := Lib.hid (file_any nx v L id W (h.below hB0) hV)
  have hCp := Lib.hid (fun W' (hB : Below w.heap.size w W') => copied_any nx v L W' (h.below hB) hV.ne hl)
  have hSD := fun s W' (hB : Below w.heap.size w W') => setData_any s uid now nx v L id W' (h.below hB) hV.rise hV.ne hl hV.vers
  have hda := fileT_le hV id
  have hfd := fun n e h => write_file (nx := nx) (L := L) (id := id) (off := off) (s := s) (uid := uid) (now := now) (n := n) (e := e) h
  generalize writeT (nx, L) id off s uid now = res at hfd ⊢
  generalize hd : fileT L id = dd at *
  obtain ⟨n, e⟩ := dd
  have hres := hfd n e rfl
  have h0 := hV.ne
  have hdz := mk_size n.da
  replace hW := Lib.hid hW
  have H0 := Lib.hid (CSt.mk hB0 hT0 hU0)
  obtain ⟨q, cap, rfl, hc, hm, _⟩ := h
  unfold treeV nodeV at hD
  unfold treeV at hCp hSD ⊢
  dsimp only at hD hda
  have hsz := mk_size s
  have hsm : (mk s).size ≤ 100000 := by omega
  have hap := Lib.hid (app_and n.mo)
  clear hB0 hs0 hT0 hU0 hV hc hm hfd hd
  by_cases he : e ≠ 0
  · rw [if_pos he] at hres
    have he2 : (e != 0) = true := by simpa using he
    clear he hSD
    replace hres := Lib.hid hres
    go_enter Try.func32, Try.ntmps32
    go_wp2_with ((first | simp only [hW.out] | skip); refine wpList_load_row rfl 26 _ rfl w.heap.size rfl 26 #[.int .i64 nx, .slice q L.length cap] (0, 0) _ H0.out.inn Try.underlying26 rfl (by kernel_rfl) ?_)
    refine hD.out.mono ?_
    rintro e w2 ⟨rfl, hB⟩
    have H2 := Lib.hid (H0.out.go hB)
    have hs2 := H2.out.size
    obtain ⟨W3, hW3, _, hb3, hM3, hs3⟩ := lay1 (n := n) (Below.refl w2.heap.size w2) (Nat.le_refl _)
    have H3 := Lib.hid (H2.out.go hb3)
    have n1 : W3.cell? ⟨w2.heap.size, 1, none⟩ = some (.int .i64 n.pa) := hM3.cell 1
    have n3 : W3.cell? ⟨w2.heap.size, 3, none⟩ = some (.string (mk n.nm)) := hM3.cell 3
    have n4 : W3.cell? ⟨w2.heap.size, 4, none⟩ = some (.int .i64 n.mo) := hM3.cell 4
    have n10 : W3.cell? ⟨w2.heap.size, 10, none⟩ = some (.string (mk n.da)) := hM3.cell 10
    have HM3 := Lib.hid hM3
    replace hW3 := Lib.hid hW3
    clear hB hb3 hs3 hM3
    go_wp2_with (first
      | (refine wpList_store_row rfl 31 _ _ rfl w2.heap.size (cellsA n) rfl rfl 31 (cellsA noN) (heap_alloc_new w2 _) (by kernel_rfl) rfl (cellsA_one n) ?_; rw [World.setRow_alloc_new, hW3.out])
      | (refine wpList_load_row rfl 26 _ rfl w.heap.size rfl 26 #[.int .i64 nx, .slice q L.length cap] (0, 0) _ H3.out.inn Try.underlying26 rfl (by kernel_rfl) ?_)
      )
    refine (hCp.out _ H3.out.bel).mono ?_
    rintro e w5 ⟨v', rfl, hO5, hB5⟩
    have H5 := Lib.hid (H3.out.go hB5)
    obtain ⟨G, cap', rfl, hG1, _⟩ := hO5.form h0
    have hsz := H3.out.size
    have HO5 := Lib.hid hO5
    unfold treeV
    clear hB5 hO5
    go_wp2_with (refine wpList_store_row rfl 26 _ _ rfl (w.heap.size + 1) #[.int .i64 nx, .slice (some ⟨G, 0, none⟩) L.length cap'] rfl rfl 26 #[.int .i64 0, .slice none 0 0] H5.out.out (by kernel_rfl) rfl (treeA_one _ _ _ _) ?_)
    refine bodyPost_ret (results_tree3 (b := w.heap.size + 1) (nx := nx) (v := .slice (some ⟨G, 0, none⟩) L.length cap') rfl rfl (setRow_heap _ _ _ _ _ _ H5.out.out)) rfl ?_
    rw [hres.out]
    exact ⟨.slice (some ⟨G, 0, none⟩) L.length cap', rfl, (own_setRow (k := w.heap.size + 1) HO5.out (by simp [Value.ownBlock]; omega) _).row, below_setRow (g := w.heap.size + 1) H5.out.bel (by omega) _⟩
  · obtain rfl : e = 0 := by simpa using he
    rw [if_neg he] at hres
    clear he
    by_cases h1 : off < 0
    · rw [if_pos h1] at hres
      clear hSD
      replace hres := Lib.hid hres
      go_enter Try.func32, Try.ntmps32
      go_wp2_with ((first | simp only [hW.out] | skip); refine wpList_load_row rfl 26 _ rfl w.heap.size rfl 26 #[.int .i64 nx, .slice q L.length cap] (0, 0) _ H0.out.inn Try.underlying26 rfl (by kernel_rfl) ?_)
      refine hD.out.mono ?_
      rintro e w2 ⟨rfl, hB⟩
      have H2 := Lib.hid (H0.out.go hB)
      have hs2 := H2.out.size
      obtain ⟨W3, hW3, _, hb3, hM3, hs3⟩ := lay1 (n := n) (Below.refl w2.heap.size w2) (Nat.le_refl _)
      have H3 := Lib.hid (H2.out.go hb3)
      have n1 : W3.cell? ⟨w2.heap.size, 1, none⟩ = some (.int .i64 n.pa) := hM3.cell 1
      have n3 : W3.cell? ⟨w2.heap.size, 3, none⟩ = some (.string (mk n.nm)) := hM3.cell 3
      have n4 : W3.cell? ⟨w2.heap.size, 4, none⟩ = some (.int .i64 n.mo) := hM3.cell 4
      have n10 : W3.cell? ⟨w2.heap.size, 10, none⟩ = some (.string (mk n.da)) := hM3.cell 10
      have HM3 := Lib.hid hM3
      replace hW3 := Lib.hid hW3
      clear hB hb3 hs3 hM3
      go_wp2_with (first
        | (refine wpList_store_row rfl 31 _ _ rfl w2.heap.size (cellsA n) rfl rfl 31 (cellsA noN) (heap_alloc_new w2 _) (by kernel_rfl) rfl (cellsA_one n) ?_; rw [World.setRow_alloc_new, hW3.out])
        | (refine wpList_load_row rfl 26 _ rfl w.heap.size rfl 26 #[.int .i64 nx, .slice q L.length cap] (0, 0) _ H3.out.inn Try.underlying26 rfl (by kernel_rfl) ?_)
        )
      refine (hCp.out _ H3.out.bel).mono ?_
      rintro e w5 ⟨v', rfl, hO5, hB5⟩
      have H5 := Lib.hid (H3.out.go hB5)
      obtain ⟨G, cap', rfl, hG1, _⟩ := hO5.form h0
      have hsz := H3.out.size
      have HO5 := Lib.hid hO5
      unfold treeV
      clear hB5 hO5
      go_wp2_with (refine wpList_store_row rfl 26 _ _ rfl (w.heap.size + 1) #[.int .i64 nx, .slice (some ⟨G, 0, none⟩) L.length cap'] rfl rfl 26 #[.int .i64 0, .slice none 0 0] H5.out.out (by kernel_rfl) rfl (treeA_one _ _ _ _) ?_)
      refine bodyPost_ret (results_tree3 (b := w.heap.size + 1) (nx := nx) (v := .slice (some ⟨G, 0, none⟩) L.length cap') rfl rfl (setRow_heap _ _ _ _ _ _ H5.out.out)) rfl ?_
      rw [hres.out]
      exact ⟨.slice (some ⟨G, 0, none⟩) L.length cap', rfl, (own_setRow (k := w.heap.size + 1) HO5.out (by simp [Value.ownBlock]; omega) _).row, below_setRow (g := w.heap.size + 1) H5.out.bel (by omega) _⟩
    · rw [if_neg h1] at hres
      by_cases h2 : s = []
      · rw [if_pos h2] at hres
        have h3 : ((mk s).toList == []) = true := by rw [mk_toList, h2]; rfl
        have h4 : (mk s).toList = [] := by rw [mk_toList]; exact h2
        clear hSD h2
        replace hres := Lib.hid hres
        go_enter Try.func32, Try.ntmps32
        go_wp2_with ((first | simp only [hW.out] | skip); refine wpList_load_row rfl 26 _ rfl w.heap.size rfl 26 #[.int .i64 nx, .slice q L.length cap] (0, 0) _ H0.out.inn Try.underlying26 rfl (by kernel_rfl) ?_)
        refine hD.out.mono ?_
        rintro e w2 ⟨rfl, hB⟩
        have H2 := Lib.hid (H0.out.go hB)
        have hs2 := H2.out.size
        obtain ⟨W3, hW3, _, hb3, hM3, hs3⟩ := lay1 (n := n) (Below.refl w2.heap.size w2) (Nat.le_refl _)
        have H3 := Lib.hid (H2.out.go hb3)
        have n1 : W3.cell? ⟨w2.heap.size, 1, none⟩ = some (.int .i64 n.pa) := hM3.cell 1
        have n3 : W3.cell? ⟨w2.heap.size, 3, none⟩ = some (.string (mk n.nm)) := hM3.cell 3
        have n4 : W3.cell? ⟨w2.heap.size, 4, none⟩ = some (.int .i64 n.mo) := hM3.cell 4
        have n10 : W3.cell? ⟨w2.heap.size, 10, none⟩ = some (.string (mk n.da)) := hM3.cell 10
        have HM3 := Lib.hid hM3
        replace hW3 := Lib.hid hW3
        clear hB hb3 hs3 hM3
        go_wp2_with (first
          | (refine wpList_store_row rfl 31 _ _ rfl w2.heap.size (cellsA n) rfl rfl 31 (cellsA noN) (heap_alloc_new w2 _) (by kernel_rfl) rfl (cellsA_one n) ?_; rw [World.setRow_alloc_new, hW3.out])
          | (refine wpList_load_row rfl 26 _ rfl w.heap.size rfl 26 #[.int .i64 nx, .slice q L.length cap] (0, 0) _ H3.out.inn Try.underlying26 rfl (by kernel_rfl) ?_)
          )
        refine (hCp.out _ H3.out.bel).mono ?_
        rintro e w5 ⟨v', rfl, hO5, hB5⟩
        have H5 := Lib.hid (H3.out.go hB5)
        obtain ⟨G, cap', rfl, hG1, _⟩ := hO5.form h0
        have hsz := H3.out.size
        have HO5 := Lib.hid hO5
        unfold treeV
        clear hB5 hO5
        go_wp2_with (refine wpList_store_row rfl 26 _ _ rfl (w.heap.size + 1) #[.int .i64 nx, .slice (some ⟨G, 0, none⟩) L.length cap'] rfl rfl 26 #[.int .i64 0, .slice none 0 0] H5.out.out (by kernel_rfl) rfl (treeA_one _ _ _ _) ?_)
        refine bodyPost_ret (results_tree3 (b := w.heap.size + 1) (nx := nx) (v := .slice (some ⟨G, 0, none⟩) L.length cap') rfl rfl (setRow_heap _ _ _ _ _ _ H5.out.out)) rfl ?_
        rw [hres.out]
        exact ⟨.slice (some ⟨G, 0, none⟩) L.length cap', rfl, (own_setRow (k := w.heap.size + 1) HO5.out (by simp [Value.ownBlock]; omega) _).row, below_setRow (g := w.heap.size + 1) H5.out.bel (by omega) _⟩
      · rw [if_neg h2] at hres
        have h3 : ((mk s).toList == []) = false := by rw [mk_toList]; simpa using h2
        have h4 : (mk s).toList.isEmpty = false := by rw [mk_toList]; simpa using h2
        clear h2
        obtain ⟨k, rfl⟩ := Int.eq_ofNat_of_zero_le (show 0 ≤ off by omega)
        have hpl : ∃ p : Nat, placeI n (k : Int) = (p : Int) ∧ ((appB n.mo = true ∧ p = n.da.length) ∨ (appB n.mo = false ∧ p = k)) := by
          unfold placeI
          split
          · rename_i ha
            exact ⟨n.da.length, rfl, .inl ⟨ha, rfl⟩⟩
          · rename_i ha
            exact ⟨k, rfl, .inr ⟨by simpa using ha, rfl⟩⟩
        obtain ⟨p, hp, hap2⟩ := hpl
        rw [hp, Int.toNat_natCast] at hres
        by_cases h5 : 65536 < (p : Int) + (s.length : Int)
        · rw [if_pos h5] at hres
          rcases hap2 with ⟨ha, hpk⟩ | ⟨ha, hpk⟩
          · have hx : decide ((65536 : Int) - ((mk s).size : Int) < (((mk n.da).size : Int) : Int)) = true := by simp; omega
            rw [ha] at hap
            have hap3 := hap.out
            have hda2 : (mk n.da).size ≤ 65536 := by omega
            clear hSD ha hpk hp h5 hdz hsz
            replace hres := Lib.hid hres
            go_enter Try.func32, Try.ntmps32
            go_wp2_with ((first | simp only [hW.out] | skip); refine wpList_load_row rfl 26 _ rfl w.heap.size rfl 26 #[.int .i64 nx, .slice q L.length cap] (0, 0) _ H0.out.inn Try.underlying26 rfl (by kernel_rfl) ?_)
            refine hD.out.mono ?_
            rintro e w2 ⟨rfl, hB⟩
            have H2 := Lib.hid (H0.out.go hB)
            have hs2 := H2.out.size
            obtain ⟨W3, hW3, _, hb3, hM3, hs3⟩ := lay1 (n := n) (Below.refl w2.heap.size w2) (Nat.le_refl _)
            have H3 := Lib.hid (H2.out.go hb3)
            have n1 : W3.cell? ⟨w2.heap.size, 1, none⟩ = some (.int .i64 n.pa) := hM3.cell 1
            have n3 : W3.cell? ⟨w2.heap.size, 3, none⟩ = some (.string (mk n.nm)) := hM3.cell 3
            have n4 : W3.cell? ⟨w2.heap.size, 4, none⟩ = some (.int .i64 n.mo) := hM3.cell 4
            have n10 : W3.cell? ⟨w2.heap.size, 10, none⟩ = some (.string (mk n.da)) := hM3.cell 10
            have HM3 := Lib.hid hM3
            replace hW3 := Lib.hid hW3
            clear hB hb3 hs3 hM3
            go_wp2_with (first
              | (refine wpList_store_row rfl 31 _ _ rfl w2.heap.size (cellsA n) rfl rfl 31 (cellsA noN) (heap_alloc_new w2 _) (by kernel_rfl) rfl (cellsA_one n) ?_; rw [World.setRow_alloc_new, hW3.out])
              | (refine wpList_load_row rfl 26 _ rfl w.heap.size rfl 26 #[.int .i64 nx, .slice q L.length cap] (0, 0) _ H3.out.inn Try.underlying26 rfl (by kernel_rfl) ?_)
              )
            refine (hCp.out _ H3.out.bel).mono ?_
            rintro e w5 ⟨v', rfl, hO5, hB5⟩
            have H5 := Lib.hid (H3.out.go hB5)
            obtain ⟨G, cap', rfl, hG1, _⟩ := hO5.form h0
            have hsz := H3.out.size
            have HO5 := Lib.hid hO5
            unfold treeV
            clear hB5 hO5
            go_wp2_with (refine wpList_store_row rfl 26 _ _ rfl (w.heap.size + 1) #[.int .i64 nx, .slice (some ⟨G, 0, none⟩) L.length cap'] rfl rfl 26 #[.int .i64 0, .slice none 0 0] H5.out.out (by kernel_rfl) rfl (treeA_one _ _ _ _) ?_)
            refine bodyPost_ret (results_tree3 (b := w.heap.size + 1) (nx := nx) (v := .slice (some ⟨G, 0, none⟩) L.length cap') rfl rfl (setRow_heap _ _ _ _ _ _ H5.out.out)) rfl ?_
            rw [hres.out]
            exact ⟨.slice (some ⟨G, 0, none⟩) L.length cap', rfl, (own_setRow (k := w.heap.size + 1) HO5.out (by simp [Value.ownBlock]; omega) _).row, below_setRow (g := w.heap.size + 1) H5.out.bel (by omega) _⟩
          · have hx : decide ((65536 : Int) - ((mk s).size : Int) < (((k : Nat) : Int) : Int)) = true := by simp; omega
            rw [ha] at hap
            have hap3 := hap.out
            have hda2 : (mk n.da).size ≤ 65536 := by omega
            clear hSD ha hpk hp h5 hdz hsz
            replace hres := Lib.hid hres
            go_enter Try.func32, Try.ntmps32
            go_wp2_with ((first | simp only [hW.out] | skip); refine wpList_load_row rfl 26 _ rfl w.heap.size rfl 26 #[.int .i64 nx, .slice q L.length cap] (0, 0) _ H0.out.inn Try.underlying26 rfl (by kernel_rfl) ?_)
            refine hD.out.mono ?_
            rintro e w2 ⟨rfl, hB⟩
            have H2 := Lib.hid (H0.out.go hB)
            have hs2 := H2.out.size
            obtain ⟨W3, hW3, _, hb3, hM3, hs3⟩ := lay1 (n := n) (Below.refl w2.heap.size w2) (Nat.le_refl _)
            have H3 := Lib.hid (H2.out.go hb3)
            have n1 : W3.cell? ⟨w2.heap.size, 1, none⟩ = some (.int .i64 n.pa) := hM3.cell 1
            have n3 : W3.cell? ⟨w2.heap.size, 3, none⟩ = some (.string (mk n.nm)) := hM3.cell 3
            have n4 : W3.cell? ⟨w2.heap.size, 4, none⟩ = some (.int .i64 n.mo) := hM3.cell 4
            have n10 : W3.cell? ⟨w2.heap.size, 10, none⟩ = some (.string (mk n.da)) := hM3.cell 10
            have HM3 := Lib.hid hM3
            replace hW3 := Lib.hid hW3
            clear hB hb3 hs3 hM3
            go_wp2_with (first
              | (refine wpList_store_row rfl 31 _ _ rfl w2.heap.size (cellsA n) rfl rfl 31 (cellsA noN) (heap_alloc_new w2 _) (by kernel_rfl) rfl (cellsA_one n) ?_; rw [World.setRow_alloc_new, hW3.out])
              | (refine wpList_load_row rfl 26 _ rfl w.heap.size rfl 26 #[.int .i64 nx, .slice q L.length cap] (0, 0) _ H3.out.inn Try.underlying26 rfl (by kernel_rfl) ?_)
              )
            refine (hCp.out _ H3.out.bel).mono ?_
            rintro e w5 ⟨v', rfl, hO5, hB5⟩
            have H5 := Lib.hid (H3.out.go hB5)
            obtain ⟨G, cap', rfl, hG1, _⟩ := hO5.form h0
            have hsz := H3.out.size
            have HO5 := Lib.hid hO5
            unfold treeV
            clear hB5 hO5
            go_wp2_with (refine wpList_store_row rfl 26 _ _ rfl (w.heap.size + 1) #[.int .i64 nx, .slice (some ⟨G, 0, none⟩) L.length cap'] rfl rfl 26 #[.int .i64 0, .slice none 0 0] H5.out.out (by kernel_rfl) rfl (treeA_one _ _ _ _) ?_)
            refine bodyPost_ret (results_tree3 (b := w.heap.size + 1) (nx := nx) (v := .slice (some ⟨G, 0, none⟩) L.length cap') rfl rfl (setRow_heap _ _ _ _ _ _ H5.out.out)) rfl ?_
            rw [hres.out]
            exact ⟨.slice (some ⟨G, 0, none⟩) L.length cap', rfl, (own_setRow (k := w.heap.size + 1) HO5.out (by simp [Value.ownBlock]; omega) _).row, below_setRow (g := w.heap.size + 1) H5.out.bel (by omega) _⟩
        · rw [if_neg h5] at hres
          rcases hap2 with ⟨ha, hpk⟩ | ⟨ha, hpk⟩
          · have hx : decide ((65536 : Int) - ((mk s).size : Int) < (((mk n.da).size : Int) : Int)) = false := by simp; omega
            rw [ha] at hap
            have hap3 := hap.out
            have hpv : (p : Int) = ((mk n.da).size : Int) := by omega
            have hRs := fun W => overwritten_any n.da s p (by omega) (by omega) (by omega) W
            rw [hpv] at hRs
            replace hRs := Lib.hid hRs
            have hSD2 := hSD (overL n.da p s)
            have hml : (edT L id fun m => touchN uid now (dataN (overL n.da p s) m)).length = L.length := edT_len _ _ _
            generalize (edT L id fun m => touchN uid now (dataN (overL n.da p s) m)) = M at hSD2 hml hres
            have hSD3 := Lib.hid hSD2
            replace hml := Lib.hid hml
            generalize overL n.da p s = rd at *
            rw [← hsz] at hres
            have hda2 : (mk n.da).size ≤ 65536 := by omega
            clear hSD hSD2 ha hpk hp h5 hda hpv hdz hsz
            replace hres := Lib.hid hres
            go_enter Try.func32, Try.ntmps32
            go_wp2_with ((first | simp only [hW.out] | skip); refine wpList_load_row rfl 26 _ rfl w.heap.size rfl 26 #[.int .i64 nx, .slice q L.length cap] (0, 0) _ H0.out.inn Try.underlying26 rfl (by kernel_rfl) ?_)
            refine hD.out.mono ?_
            rintro e w2 ⟨rfl, hB⟩
            have H2 := Lib.hid (H0.out.go hB)
            have hs2 := H2.out.size
            obtain ⟨W3, hW3, _, hb3, hM3, hs3⟩ := lay1 (n := n) (Below.refl w2.heap.size w2) (Nat.le_refl _)
            have H3 := Lib.hid (H2.out.go hb3)
            have n1 : W3.cell? ⟨w2.heap.size, 1, none⟩ = some (.int .i64 n.pa) := hM3.cell 1
            have n3 : W3.cell? ⟨w2.heap.size, 3, none⟩ = some (.string (mk n.nm)) := hM3.cell 3
            have n4 : W3.cell? ⟨w2.heap.size, 4, none⟩ = some (.int .i64 n.mo) := hM3.cell 4
            have n10 : W3.cell? ⟨w2.heap.size, 10, none⟩ = some (.string (mk n.da)) := hM3.cell 10
            have HM3 := Lib.hid hM3
            replace hW3 := Lib.hid hW3
            clear hB hb3 hs3 hM3
            go_wp2_with (refine wpList_store_row rfl 31 _ _ rfl w2.heap.size (cellsA n) rfl rfl 31 (cellsA noN) (heap_alloc_new w2 _) (by kernel_rfl) rfl (cellsA_one n) ?_; rw [World.setRow_alloc_new, hW3.out])
            have HI := Lib.hid (ISt.mk H3.out.bel H3.out.inn HM3.out)
            have HId := Lib.hid HI.out.drew
            have HOd : Hid (BlkT W3.drew (w.heap.size + 1) 0 (.slice none 0 0)) := H3.out.out
            clear n1 n3 n4 n10
            refine wp_region_held_drew (S := ISt w nx (.slice q L.length cap) w2.heap.size n) (by kernel_rfl) (HId.out) (fun hHeld => ?_)
            refine takeD (i := 0) (oi := _) (d := some 52) (v := .agg #[.int .i64 nx, .slice q L.length cap]) rfl rfl (by kernel_rfl) (by kernel_rfl) (by kernel_rfl) (fun _ _ _ h => h) (yieldsIf_load_row (by rfl) 26 _ rfl w.heap.size rfl #[.int .i64 nx, .slice q L.length cap] (fun W' (hS : ISt w nx (.slice q L.length cap) w2.heap.size n W') => load_tree hS.inn)) (by assumption) ?_
            try simp only [Act.put, List.setIfInBounds_toArray, List.set_cons_zero, List.set_cons_succ]
            refine takeD (i := 1) (oi := _) (d := some 53) (v := .int .i64 id) rfl rfl (by kernel_rfl) (by kernel_rfl) (by kernel_rfl) (fun _ _ _ h => h) (Or.inl ⟨by rfl, fun W' hSw => by go_simp⟩) (by assumption) ?_
            try simp only [Act.put, List.setIfInBounds_toArray, List.set_cons_zero, List.set_cons_succ]
            refine takeD (i := 2) (oi := _) (d := some 54) (v := .pointer (some ⟨w2.heap.size, 10, none⟩)) rfl rfl (by kernel_rfl) (by kernel_rfl) (by kernel_rfl) (fun _ _ _ h => h) (Or.inl ⟨by rfl, fun W' hSw => by go_simp⟩) (by assumption) ?_
            try simp only [Act.put, List.setIfInBounds_toArray, List.set_cons_zero, List.set_cons_succ]
            refine takeD (i := 3) (oi := _) (d := some 55) (v := .string (mk n.da)) rfl rfl (by kernel_rfl) (by kernel_rfl) (by kernel_rfl) (fun _ _ _ h => h) (Or.inl ⟨by rfl, fun W' hSw => by have x0 : W'.cell? ⟨w2.heap.size, 10, none⟩ = some (.string (mk n.da)) := hSw.nod.cell 10; go_simp⟩) (by assumption) ?_
            try simp only [Act.put, List.setIfInBounds_toArray, List.set_cons_zero, List.set_cons_succ]
            refine takeD (i := 4) (oi := _) (d := some 56) (v := .int .i64 ((mk n.da).size : Int)) rfl rfl (by kernel_rfl) (by kernel_rfl) (by kernel_rfl) (fun _ _ _ h => h) (Or.inl ⟨by rfl, fun W' hSw => by go_simp⟩) (by assumption) ?_
            try simp only [Act.put, List.setIfInBounds_toArray, List.set_cons_zero, List.set_cons_succ]
            refine takeD (i := 5) (oi := _) (d := some 57) (v := .string (mk s)) rfl rfl (by kernel_rfl) (by kernel_rfl) (by kernel_rfl) (fun _ _ _ h => h) (Or.inl ⟨by rfl, fun W' hSw => by go_simp⟩) (by assumption) ?_
            try simp only [Act.put, List.setIfInBounds_toArray, List.set_cons_zero, List.set_cons_succ]
            refine takeD (i := 7) (oi := _) (d := some 59) (v := .string (mk uid)) rfl rfl (by kernel_rfl) (by kernel_rfl) (by kernel_rfl) (fun _ _ _ h => h) (Or.inl ⟨by rfl, fun W' hSw => by go_simp⟩) (by assumption) ?_
            try simp only [Act.put, List.setIfInBounds_toArray, List.set_cons_zero, List.set_cons_succ]
            refine takeD (i := 8) (oi := _) (d := some 60) (v := .int .i64 now) rfl rfl (by kernel_rfl) (by kernel_rfl) (by kernel_rfl) (fun _ _ _ h => h) (Or.inl ⟨by rfl, fun W' hSw => by go_simp⟩) (by assumption) ?_
            try simp only [Act.put, List.setIfInBounds_toArray, List.set_cons_zero, List.set_cons_succ]
            refine takeD (i := 10) (oi := _) (d := some 62) (v := .string (mk s)) rfl rfl (by kernel_rfl) (by kernel_rfl) (by kernel_rfl) (fun _ _ _ h => h) (Or.inl ⟨by rfl, fun W' hSw => by go_simp⟩) (by assumption) ?_
            try simp only [Act.put, List.setIfInBounds_toArray, List.set_cons_zero, List.set_cons_succ]
            refine takeD (i := 11) (oi := _) (d := some 63) (v := .int .i64 ((mk s).size : Int)) rfl rfl (by kernel_rfl) (by kernel_rfl) (by kernel_rfl) (fun _ _ _ h => h) (Or.inl ⟨by rfl, fun W' hSw => by go_simp⟩) (by assumption) ?_
            try simp only [Act.put, List.setIfInBounds_toArray, List.set_cons_zero, List.set_cons_succ]
            refine wpAnyH_ready (rs := [6]) (by kernel_rfl) (by simp) ?_
            refine AllReadyH.cons (o := _) rfl (fun K hK => ?_) AllReadyH.nil
            go_simp
            refine (hRs.out _).mono ?_
            rintro e W6 ⟨rfl, hB6⟩
            have H6 := Lib.hid (HId.out.go hB6)
            have HO6 := Lib.hid (HOd.out.below hB6 HOd.out.lt)
            clear hB6
            refine hK.out _ _ (H6.out) (fun hHeld => ?_)
            clear hK K
            try simp only [Act.put, List.setIfInBounds_toArray, List.set_cons_zero, List.set_cons_succ]
            refine wpAnyH_ready (rs := [9]) (by kernel_rfl) (by simp) ?_
            refine AllReadyH.cons (o := _) rfl (fun K hK => ?_) AllReadyH.nil
            go_simp
            refine (hSD3.out _ H6.out.bel).mono ?_
            rintro e W7 ⟨v7, rfl, hO7, hB7⟩
            have H7 := Lib.hid (H6.out.go hB7)
            have HO7 := Lib.hid (HO6.out.below hB7 HO6.out.lt)
            obtain ⟨G, cap7, rfl, hG1, hG2, _, _⟩ := hO7.form (by rw [hml.out]; exact h0)
            have hlt6 := HO6.out.lt
            have HN7 := Lib.hid (NOwn.mono hO7 H6.out.bel.size)
            clear hB7 hO7
            refine hK.out _ _ (H7.out) (fun hHeld => ?_)
            clear hK K
            try simp only [Act.put, List.setIfInBounds_toArray, List.set_cons_zero, List.set_cons_succ]
            refine wpAnyH_ready (rs := [12]) (by kernel_rfl) (by simp) ?_
            refine AllReadyH.cons (o := _) rfl (fun K hK => ?_) AllReadyH.nil
            rw [if_pos (by rfl)]
            refine wp_store_row 26 _ _ rfl (w.heap.size + 1) #[.int .i64 nx, .slice (some ⟨G, 0, none⟩) M.length cap7] rfl rfl 26 #[.int .i64 0, .slice none 0 0] HO7.out (by kernel_rfl) rfl (treeA_one _ _ _ _) ?_
            refine hK.out _ _ (H7.out.setRow (by omega) (by omega) _) (fun hHeld => ?_)
            clear hK K
            try simp only [Act.put, List.setIfInBounds_toArray, List.set_cons_zero, List.set_cons_succ]
            refine takeD (i := 13) (oi := _) (d := some 13) (v := .int .i64 ((mk s).size : Int)) rfl rfl (by kernel_rfl) (by kernel_rfl) (by kernel_rfl) (fun _ _ _ h => h) (Or.inl ⟨by rfl, fun W' hSw => by go_simp⟩) (by assumption) ?_
            try simp only [Act.put, List.setIfInBounds_toArray, List.set_cons_zero, List.set_cons_succ]
            refine takeD (i := 14) (oi := _) (d := some 14) (v := .int .i64 0) rfl rfl (by kernel_rfl) (by kernel_rfl) (by kernel_rfl) (fun _ _ _ h => h) (Or.inl ⟨by rfl, fun W' hSw => by go_simp⟩) (by assumption) ?_
            try simp only [Act.put, List.setIfInBounds_toArray, List.set_cons_zero, List.set_cons_succ]
            refine wpAnyH_done (by kernel_rfl) ?_ _
            go_wp2_with fail
            refine bodyPost_ret (results_tree3 (b := w.heap.size + 1) (nx := nx) (v := .slice (some ⟨G, 0, none⟩) M.length cap7) rfl rfl (setRow_heap _ _ _ _ _ _ HO7.out)) rfl ?_
            rw [hres.out]
            exact ⟨.slice (some ⟨G, 0, none⟩) M.length cap7, rfl, (own_setRow (k := w.heap.size + 1) HN7.out (by simp [Value.ownBlock]; omega) _).row, below_setRow (g := w.heap.size + 1) H7.out.bel (by omega) _⟩
          · have hx : decide ((65536 : Int) - ((mk s).size : Int) < (((k : Nat) : Int) : Int)) = false := by simp; omega
            rw [ha] at hap
            have hap3 := hap.out
            have hpv : (p : Int) = ((k : Nat) : Int) := by omega
            have hRs := fun W => overwritten_any n.da s p (by omega) (by omega) (by omega) W
            rw [hpv] at hRs
            replace hRs := Lib.hid hRs
            have hSD2 := hSD (overL n.da p s)
            have hml : (edT L id fun m => touchN uid now (dataN (overL n.da p s) m)).length = L.length := edT_len _ _ _
            generalize (edT L id fun m => touchN uid now (dataN (overL n.da p s) m)) = M at hSD2 hml hres
            have hSD3 := Lib.hid hSD2
            replace hml := Lib.hid hml
            generalize overL n.da p s = rd at *
            rw [← hsz] at hres
            have hda2 : (mk n.da).size ≤ 65536 := by omega
            clear hSD hSD2 ha hpk hp h5 hda hpv hdz hsz
            replace hres := Lib.hid hres
            go_enter Try.func32, Try.ntmps32
            go_wp2_with ((first | simp only [hW.out] | skip); refine wpList_load_row rfl 26 _ rfl w.heap.size rfl 26 #[.int .i64 nx, .slice q L.length cap] (0, 0) _ H0.out.inn Try.underlying26 rfl (by kernel_rfl) ?_)
            refine hD.out.mono ?_
            rintro e w2 ⟨rfl, hB⟩
            have H2 := Lib.hid (H0.out.go hB)
            have hs2 := H2.out.size
            obtain ⟨W3, hW3, _, hb3, hM3, hs3⟩ := lay1 (n := n) (Below.refl w2.heap.size w2) (Nat.le_refl _)
            have H3 := Lib.hid (H2.out.go hb3)
            have n1 : W3.cell? ⟨w2.heap.size, 1, none⟩ = some (.int .i64 n.pa) := hM3.cell 1
            have n3 : W3.cell? ⟨w2.heap.size, 3, none⟩ = some (.string (mk n.nm)) := hM3.cell 3
            have n4 : W3.cell? ⟨w2.heap.size, 4, none⟩ = some (.int .i64 n.mo) := hM3.cell 4
            have n10 : W3.cell? ⟨w2.heap.size, 10, none⟩ = some (.string (mk n.da)) := hM3.cell 10
            have HM3 := Lib.hid hM3
            replace hW3 := Lib.hid hW3
            clear hB hb3 hs3 hM3
            go_wp2_with (refine wpList_store_row rfl 31 _ _ rfl w2.heap.size (cellsA n) rfl rfl 31 (cellsA noN) (heap_alloc_new w2 _) (by kernel_rfl) rfl (cellsA_one n) ?_; rw [World.setRow_alloc_new, hW3.out])
            have HI := Lib.hid (ISt.mk H3.out.bel H3.out.inn HM3.out)
            have HId := Lib.hid HI.out.drew
            have HOd : Hid (BlkT W3.drew (w.heap.size + 1) 0 (.slice none 0 0)) := H3.out.out
            clear n1 n3 n4 n10
            refine wp_region_held_drew (S := ISt w nx (.slice q L.length cap) w2.heap.size n) (by kernel_rfl) (HId.out) (fun hHeld => ?_)
            refine takeD (i := 0) (oi := _) (d := some 52) (v := .agg #[.int .i64 nx, .slice q L.length cap]) rfl rfl (by kernel_rfl) (by kernel_rfl) (by kernel_rfl) (fun _ _ _ h => h) (yieldsIf_load_row (by rfl) 26 _ rfl w.heap.size rfl #[.int .i64 nx, .slice q L.length cap] (fun W' (hS : ISt w nx (.slice q L.length cap) w2.heap.size n W') => load_tree hS.inn)) (by assumption) ?_
            try simp only [Act.put, List.setIfInBounds_toArray, List.set_cons_zero, List.set_cons_succ]
            refine takeD (i := 1) (oi := _) (d := some 53) (v := .int .i64 id) rfl rfl (by kernel_rfl) (by kernel_rfl) (by kernel_rfl) (fun _ _ _ h => h) (Or.inl ⟨by rfl, fun W' hSw => by go_simp⟩) (by assumption) ?_
            try simp only [Act.put, List.setIfInBounds_toArray, List.set_cons_zero, List.set_cons_succ]
            refine takeD (i := 2) (oi := _) (d := some 54) (v := .pointer (some ⟨w2.heap.size, 10, none⟩)) rfl rfl (by kernel_rfl) (by kernel_rfl) (by kernel_rfl) (fun _ _ _ h => h) (Or.inl ⟨by rfl, fun W' hSw => by go_simp⟩) (by assumption) ?_
            try simp only [Act.put, List.setIfInBounds_toArray, List.set_cons_zero, List.set_cons_succ]
            refine takeD (i := 3) (oi := _) (d := some 55) (v := .string (mk n.da)) rfl rfl (by kernel_rfl) (by kernel_rfl) (by kernel_rfl) (fun _ _ _ h => h) (Or.inl ⟨by rfl, fun W' hSw => by have x0 : W'.cell? ⟨w2.heap.size, 10, none⟩ = some (.string (mk n.da)) := hSw.nod.cell 10; go_simp⟩) (by assumption) ?_
            try simp only [Act.put, List.setIfInBounds_toArray, List.set_cons_zero, List.set_cons_succ]
            refine takeD (i := 4) (oi := _) (d := some 56) (v := .int .i64 ((k : Nat) : Int)) rfl rfl (by kernel_rfl) (by kernel_rfl) (by kernel_rfl) (fun _ _ _ h => h) (Or.inl ⟨by rfl, fun W' hSw => by go_simp⟩) (by assumption) ?_
            try simp only [Act.put, List.setIfInBounds_toArray, List.set_cons_zero, List.set_cons_succ]
            refine takeD (i := 5) (oi := _) (d := some 57) (v := .string (mk s)) rfl rfl (by kernel_rfl) (by kernel_rfl) (by kernel_rfl) (fun _ _ _ h => h) (Or.inl ⟨by rfl, fun W' hSw => by go_simp⟩) (by assumption) ?_
            try simp only [Act.put, List.setIfInBounds_toArray, List.set_cons_zero, List.set_cons_succ]
            refine takeD (i := 7) (oi := _) (d := some 59) (v := .string (mk uid)) rfl rfl (by kernel_rfl) (by kernel_rfl) (by kernel_rfl) (fun _ _ _ h => h) (Or.inl ⟨by rfl, fun W' hSw => by go_simp⟩) (by assumption) ?_
            try simp only [Act.put, List.setIfInBounds_toArray, List.set_cons_zero, List.set_cons_succ]
            refine takeD (i := 8) (oi := _) (d := some 60) (v := .int .i64 now) rfl rfl (by kernel_rfl) (by kernel_rfl) (by kernel_rfl) (fun _ _ _ h => h) (Or.inl ⟨by rfl, fun W' hSw => by go_simp⟩) (by assumption) ?_
            try simp only [Act.put, List.setIfInBounds_toArray, List.set_cons_zero, List.set_cons_succ]
            refine takeD (i := 10) (oi := _) (d := some 62) (v := .string (mk s)) rfl rfl (by kernel_rfl) (by kernel_rfl) (by kernel_rfl) (fun _ _ _ h => h) (Or.inl ⟨by rfl, fun W' hSw => by go_simp⟩) (by assumption) ?_
            try simp only [Act.put, List.setIfInBounds_toArray, List.set_cons_zero, List.set_cons_succ]
            refine takeD (i := 11) (oi := _) (d := some 63) (v := .int .i64 ((mk s).size : Int)) rfl rfl (by kernel_rfl) (by kernel_rfl) (by kernel_rfl) (fun _ _ _ h => h) (Or.inl ⟨by rfl, fun W' hSw => by go_simp⟩) (by assumption) ?_
            try simp only [Act.put, List.setIfInBounds_toArray, List.set_cons_zero, List.set_cons_succ]
            refine wpAnyH_ready (rs := [6]) (by kernel_rfl) (by simp) ?_
            refine AllReadyH.cons (o := _) rfl (fun K hK => ?_) AllReadyH.nil
            go_simp
            refine (hRs.out _).mono ?_
            rintro e W6 ⟨rfl, hB6⟩
            have H6 := Lib.hid (HId.out.go hB6)
            have HO6 := Lib.hid (HOd.out.below hB6 HOd.out.lt)
            clear hB6
            refine hK.out _ _ (H6.out) (fun hHeld => ?_)
            clear hK K
            try simp only [Act.put, List.setIfInBounds_toArray, List.set_cons_zero, List.set_cons_succ]
            refine wpAnyH_ready (rs := [9]) (by kernel_rfl) (by simp) ?_
            refine AllReadyH.cons (o := _) rfl (fun K hK => ?_) AllReadyH.nil
            go_simp
            refine (hSD3.out _ H6.out.bel).mono ?_
            rintro e W7 ⟨v7, rfl, hO7, hB7⟩
            have H7 := Lib.hid (H6.out.go hB7)
            have HO7 := Lib.hid (HO6.out.below hB7 HO6.out.lt)
            obtain ⟨G, cap7, rfl, hG1, hG2, _, _⟩ := hO7.form (by rw [hml.out]; exact h0)
            have hlt6 := HO6.out.lt
            have HN7 := Lib.hid (NOwn.mono hO7 H6.out.bel.size)
            clear hB7 hO7
            refine hK.out _ _ (H7.out) (fun hHeld => ?_)
            clear hK K
            try simp only [Act.put, List.setIfInBounds_toArray, List.set_cons_zero, List.set_cons_succ]
            refine wpAnyH_ready (rs := [12]) (by kernel_rfl) (by simp) ?_
            refine AllReadyH.cons (o := _) rfl (fun K hK => ?_) AllReadyH.nil
            rw [if_pos (by rfl)]
            refine wp_store_row 26 _ _ rfl (w.heap.size + 1) #[.int .i64 nx, .slice (some ⟨G, 0, none⟩) M.length cap7] rfl rfl 26 #[.int .i64 0, .slice none 0 0] HO7.out (by kernel_rfl) rfl (treeA_one _ _ _ _) ?_
            refine hK.out _ _ (H7.out.setRow (by omega) (by omega) _) (fun hHeld => ?_)
            clear hK K
            try simp only [Act.put, List.setIfInBounds_toArray, List.set_cons_zero, List.set_cons_succ]
            refine takeD (i := 13) (oi := _) (d := some 13) (v := .int .i64 ((mk s).size : Int)) rfl rfl (by kernel_rfl) (by kernel_rfl) (by kernel_rfl) (fun _ _ _ h => h) (Or.inl ⟨by rfl, fun W' hSw => by go_simp⟩) (by assumption) ?_
            try simp only [Act.put, List.setIfInBounds_toArray, List.set_cons_zero, List.set_cons_succ]
            refine takeD (i := 14) (oi := _) (d := some 14) (v := .int .i64 0) rfl rfl (by kernel_rfl) (by kernel_rfl) (by kernel_rfl) (fun _ _ _ h => h) (Or.inl ⟨by rfl, fun W' hSw => by go_simp⟩) (by assumption) ?_
            try simp only [Act.put, List.setIfInBounds_toArray, List.set_cons_zero, List.set_cons_succ]
            refine wpAnyH_done (by kernel_rfl) ?_ _
            go_wp2_with fail
            refine bodyPost_ret (results_tree3 (b := w.heap.size + 1) (nx := nx) (v := .slice (some ⟨G, 0, none⟩) M.length cap7) rfl rfl (setRow_heap _ _ _ _ _ _ HO7.out)) rfl ?_
            rw [hres.out]
            exact ⟨.slice (some ⟨G, 0, none⟩) M.length cap7, rfl, (own_setRow (k := w.heap.size + 1) HN7.out (by simp [Value.ownBlock]; omega) _).row, below_setRow (g := w.heap.size + 1) H7.out.bel (by omega) _⟩
end Go.Proofs.Ytalhkoolpnmcdaa
