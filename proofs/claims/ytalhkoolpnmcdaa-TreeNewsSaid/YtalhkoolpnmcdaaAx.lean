/-
  Walks: checkCreate.
-/
import Derived.Test.YtalhkoolpnmcdaaAw
namespace Go.Proofs.Ytalhkoolpnmcdaa
open Go.RowKit

def chkE (L : List ND) (nx : Int) (d : Int) (x : List UInt8) (mode : Int) (e : Int) : Int :=
  if e ≠ 0 then e else if validL x = false then 6 else if modeB mode = false then 1 else if hasC L d x = true then 7 else if 1024 ≤ L.length ∨ 1048575 < nx then 22 else 0
def chkT (L : List ND) (nx : Int) (d : Int) (x : List UInt8) (mode : Int) : Int := chkE L nx d x mode (dirT L d).2

set_option maxRecDepth 100000 in
set_option maxHeartbeats 6400000 in
theorem checkCreate_any (nx : Int) (v : Value) (L : List ND) (d : Int) (x : List UInt8) (mode : Int) (w : World) (h : NRow w v L) (hV : Vld nx L) (hx : x.length ≤ 100000) (hmo : inI mode) :
    Calls Try.prog 69 #[treeV nx v, .int .i64 d, .string (mk x), .int .i64 mode] w fun e w' => e = .returned (.int .i64 (chkT L nx d x mode)) ∧ Below w.heap.size w w' := by
  obtain ⟨W, hW, hB0, hs0, hT0⟩ := start_t w nx v
  have hl : L.length ≤ 1000000 := by have := hV.len; omega
  have hD := Lib.hid (directory_any nx v L d W (h.below hB0) hV)
  have hC := Lib.hid (fun W' (hB : Below w.heap.size w W') => child_any nx v L d x W' (h.below hB) hl)
  have hP0 := fun W => Valid_any (mk x) (by rw [mk_size]; exact hx) W
  rw [mk_data] at hP0
  have hP := Lib.hid hP0
  have hM := Lib.hid (fun W => isMode_any mode hmo W)
  have hres : chkT L nx d x mode = chkE L nx d x mode (dirT L d).2 := rfl
  unfold chkE at hres
  generalize chkT L nx d x mode = res at hres ⊢
  generalize hd : dirT L d = dd at *
  obtain ⟨n, e⟩ := dd
  replace hW := Lib.hid hW
  have HB0 := Lib.hid hB0
  have hs := Lib.hid hs0
  have HT := Lib.hid hT0
  obtain ⟨q, cap, rfl, hc, hm, _⟩ := h
  unfold treeV nodeV at hD
  unfold treeV at hC ⊢
  dsimp only at hD hres
  generalize childT L d x = ch at *
  generalize hasC L d x = bc at *
  generalize validL x = bv at *
  generalize modeB mode = bm at *
  clear hB0 hs0 hT0 hd hV hc hm hP0 hmo hx
  by_cases he : e ≠ 0
  · rw [if_pos he] at hres
    have he2 : (e != 0) = true := by simpa using he
    clear he
    replace hres := Lib.hid hres
    go_enter Try.func69, Try.ntmps69
    go_wp2_with ((first | simp only [hW.out] | skip); refine wpList_load_row rfl 26 _ rfl w.heap.size rfl 26 #[.int .i64 nx, .slice q L.length cap] (0, 0) _ HT.out Try.underlying26 rfl (by kernel_rfl) ?_)
    refine hD.out.mono ?_
    rintro e w2 ⟨rfl, hB⟩
    have HB2 := HB0.out.trans (hB.mono (by rw [hs.out]; omega))
    obtain ⟨W3, hW3, hB3, hb3, hM3, hs3⟩ := lay1 (n := n) HB2 HB2.size
    have HT3 := Lib.hid ((HT.out.below hB (by rw [hs.out]; omega)).below hb3 (by have := hB.size; rw [hs.out] at this; omega))
    have hlt3 : w.heap.size < W3.heap.size := by have := hB.size; rw [hs.out] at this; omega
    replace hC := Lib.hid (hC.out W3 hB3)
    replace hW3 := Lib.hid hW3
    replace hB3 := Lib.hid hB3
    clear hB hM3 HB2 hb3 hs3
    go_wp2_with (first
      | (refine wpList_store_row rfl 31 _ _ rfl w2.heap.size (cellsA n) rfl rfl 31 (cellsA noN) (heap_alloc_new w2 _) (by kernel_rfl) rfl (cellsA_one n) ?_; rw [World.setRow_alloc_new, hW3.out])
      | (refine wpList_load_row rfl 26 _ rfl w.heap.size rfl 26 #[.int .i64 nx, .slice q L.length cap] (0, 0) _ HT3.out Try.underlying26 rfl (by kernel_rfl) ?_)
      | (go_at_call 39; refine (hP.out _).mono ?_; rintro e w' ⟨rfl, rfl⟩)
      | (go_at_call 74; refine (hM.out _).mono ?_; rintro e w' ⟨rfl, rfl⟩))
    go_ret
    rw [hres.out]
    exact ⟨rfl, hB3.out⟩
  · obtain rfl : e = 0 := by simpa using he
    rw [if_neg he] at hres
    clear he
    cases bv
    · rw [if_pos rfl] at hres
      replace hres := Lib.hid hres
      go_enter Try.func69, Try.ntmps69
      go_wp2_with ((first | simp only [hW.out] | skip); refine wpList_load_row rfl 26 _ rfl w.heap.size rfl 26 #[.int .i64 nx, .slice q L.length cap] (0, 0) _ HT.out Try.underlying26 rfl (by kernel_rfl) ?_)
      refine hD.out.mono ?_
      rintro e w2 ⟨rfl, hB⟩
      have HB2 := HB0.out.trans (hB.mono (by rw [hs.out]; omega))
      obtain ⟨W3, hW3, hB3, hb3, hM3, hs3⟩ := lay1 (n := n) HB2 HB2.size
      have HT3 := Lib.hid ((HT.out.below hB (by rw [hs.out]; omega)).below hb3 (by have := hB.size; rw [hs.out] at this; omega))
      have hlt3 : w.heap.size < W3.heap.size := by have := hB.size; rw [hs.out] at this; omega
      replace hC := Lib.hid (hC.out W3 hB3)
      replace hW3 := Lib.hid hW3
      replace hB3 := Lib.hid hB3
      clear hB hM3 HB2 hb3 hs3
      go_wp2_with (first
        | (refine wpList_store_row rfl 31 _ _ rfl w2.heap.size (cellsA n) rfl rfl 31 (cellsA noN) (heap_alloc_new w2 _) (by kernel_rfl) rfl (cellsA_one n) ?_; rw [World.setRow_alloc_new, hW3.out])
        | (refine wpList_load_row rfl 26 _ rfl w.heap.size rfl 26 #[.int .i64 nx, .slice q L.length cap] (0, 0) _ HT3.out Try.underlying26 rfl (by kernel_rfl) ?_)
        | (go_at_call 39; refine (hP.out _).mono ?_; rintro e w' ⟨rfl, rfl⟩)
        | (go_at_call 74; refine (hM.out _).mono ?_; rintro e w' ⟨rfl, rfl⟩))
      go_ret
      rw [hres.out]
      exact ⟨rfl, hB3.out⟩
    · rw [if_neg (by simp)] at hres
      cases bm
      · rw [if_pos rfl] at hres
        replace hres := Lib.hid hres
        go_enter Try.func69, Try.ntmps69
        go_wp2_with ((first | simp only [hW.out] | skip); refine wpList_load_row rfl 26 _ rfl w.heap.size rfl 26 #[.int .i64 nx, .slice q L.length cap] (0, 0) _ HT.out Try.underlying26 rfl (by kernel_rfl) ?_)
        refine hD.out.mono ?_
        rintro e w2 ⟨rfl, hB⟩
        have HB2 := HB0.out.trans (hB.mono (by rw [hs.out]; omega))
        obtain ⟨W3, hW3, hB3, hb3, hM3, hs3⟩ := lay1 (n := n) HB2 HB2.size
        have HT3 := Lib.hid ((HT.out.below hB (by rw [hs.out]; omega)).below hb3 (by have := hB.size; rw [hs.out] at this; omega))
        have hlt3 : w.heap.size < W3.heap.size := by have := hB.size; rw [hs.out] at this; omega
        replace hC := Lib.hid (hC.out W3 hB3)
        replace hW3 := Lib.hid hW3
        replace hB3 := Lib.hid hB3
        clear hB hM3 HB2 hb3 hs3
        go_wp2_with (first
          | (refine wpList_store_row rfl 31 _ _ rfl w2.heap.size (cellsA n) rfl rfl 31 (cellsA noN) (heap_alloc_new w2 _) (by kernel_rfl) rfl (cellsA_one n) ?_; rw [World.setRow_alloc_new, hW3.out])
          | (refine wpList_load_row rfl 26 _ rfl w.heap.size rfl 26 #[.int .i64 nx, .slice q L.length cap] (0, 0) _ HT3.out Try.underlying26 rfl (by kernel_rfl) ?_)
          | (go_at_call 39; refine (hP.out _).mono ?_; rintro e w' ⟨rfl, rfl⟩)
          | (go_at_call 74; refine (hM.out _).mono ?_; rintro e w' ⟨rfl, rfl⟩))
        go_ret
        rw [hres.out]
        exact ⟨rfl, hB3.out⟩
      · rw [if_neg (by simp)] at hres
        cases bc
        · rw [if_neg (by simp)] at hres
          by_cases hl4 : 1024 ≤ L.length
          · rw [if_pos (.inl hl4)] at hres
            have hl5 : decide ((1024 : Int) ≤ (L.length : Int)) = true := by simp; omega
            replace hres := Lib.hid hres
            go_enter Try.func69, Try.ntmps69
            go_wp2_with ((first | simp only [hW.out] | skip); refine wpList_load_row rfl 26 _ rfl w.heap.size rfl 26 #[.int .i64 nx, .slice q L.length cap] (0, 0) _ HT.out Try.underlying26 rfl (by kernel_rfl) ?_)
            refine hD.out.mono ?_
            rintro e w2 ⟨rfl, hB⟩
            have HB2 := HB0.out.trans (hB.mono (by rw [hs.out]; omega))
            obtain ⟨W3, hW3, hB3, hb3, hM3, hs3⟩ := lay1 (n := n) HB2 HB2.size
            have HT3 := Lib.hid ((HT.out.below hB (by rw [hs.out]; omega)).below hb3 (by have := hB.size; rw [hs.out] at this; omega))
            have hlt3 : w.heap.size < W3.heap.size := by have := hB.size; rw [hs.out] at this; omega
            replace hC := Lib.hid (hC.out W3 hB3)
            replace hW3 := Lib.hid hW3
            replace hB3 := Lib.hid hB3
            clear hB hM3 HB2 hb3 hs3
            go_wp2_with (first
              | (refine wpList_store_row rfl 31 _ _ rfl w2.heap.size (cellsA n) rfl rfl 31 (cellsA noN) (heap_alloc_new w2 _) (by kernel_rfl) rfl (cellsA_one n) ?_; rw [World.setRow_alloc_new, hW3.out])
              | (refine wpList_load_row rfl 26 _ rfl w.heap.size rfl 26 #[.int .i64 nx, .slice q L.length cap] (0, 0) _ HT3.out Try.underlying26 rfl (by kernel_rfl) ?_)
              | (go_at_call 39; refine (hP.out _).mono ?_; rintro e w' ⟨rfl, rfl⟩)
              | (go_at_call 74; refine (hM.out _).mono ?_; rintro e w' ⟨rfl, rfl⟩))
            refine hC.out.mono ?_
            rintro e w4 ⟨rfl, hB4⟩
            have hT4 := HT3.out.below hB4 hlt3
            have c0 := hT4.c0
            have c1 := hT4.c1
            have HB4 := Lib.hid (hB3.out.trans (hB4.mono hB3.out.size))
            clear hB4 hT4 hlt3
            go_wp2
            go_ret
            rw [hres.out]
            exact ⟨rfl, HB4.out⟩
          · by_cases hn4 : 1048575 < nx
            · rw [if_pos (.inr hn4)] at hres
              have hl5 : decide ((1024 : Int) ≤ (L.length : Int)) = false := by simp; omega
              have hn5 : decide (1048575 < nx) = true := by simpa using hn4
              replace hres := Lib.hid hres
              go_enter Try.func69, Try.ntmps69
              go_wp2_with ((first | simp only [hW.out] | skip); refine wpList_load_row rfl 26 _ rfl w.heap.size rfl 26 #[.int .i64 nx, .slice q L.length cap] (0, 0) _ HT.out Try.underlying26 rfl (by kernel_rfl) ?_)
              refine hD.out.mono ?_
              rintro e w2 ⟨rfl, hB⟩
              have HB2 := HB0.out.trans (hB.mono (by rw [hs.out]; omega))
              obtain ⟨W3, hW3, hB3, hb3, hM3, hs3⟩ := lay1 (n := n) HB2 HB2.size
              have HT3 := Lib.hid ((HT.out.below hB (by rw [hs.out]; omega)).below hb3 (by have := hB.size; rw [hs.out] at this; omega))
              have hlt3 : w.heap.size < W3.heap.size := by have := hB.size; rw [hs.out] at this; omega
              replace hC := Lib.hid (hC.out W3 hB3)
              replace hW3 := Lib.hid hW3
              replace hB3 := Lib.hid hB3
              clear hB hM3 HB2 hb3 hs3
              go_wp2_with (first
                | (refine wpList_store_row rfl 31 _ _ rfl w2.heap.size (cellsA n) rfl rfl 31 (cellsA noN) (heap_alloc_new w2 _) (by kernel_rfl) rfl (cellsA_one n) ?_; rw [World.setRow_alloc_new, hW3.out])
                | (refine wpList_load_row rfl 26 _ rfl w.heap.size rfl 26 #[.int .i64 nx, .slice q L.length cap] (0, 0) _ HT3.out Try.underlying26 rfl (by kernel_rfl) ?_)
                | (go_at_call 39; refine (hP.out _).mono ?_; rintro e w' ⟨rfl, rfl⟩)
                | (go_at_call 74; refine (hM.out _).mono ?_; rintro e w' ⟨rfl, rfl⟩))
              refine hC.out.mono ?_
              rintro e w4 ⟨rfl, hB4⟩
              have hT4 := HT3.out.below hB4 hlt3
              have c0 := hT4.c0
              have c1 := hT4.c1
              have HB4 := Lib.hid (hB3.out.trans (hB4.mono hB3.out.size))
              clear hB4 hT4 hlt3
              go_wp2
              go_ret
              rw [hres.out]
              exact ⟨rfl, HB4.out⟩
            · rw [if_neg (by omega)] at hres
              have hl5 : decide ((1024 : Int) ≤ (L.length : Int)) = false := by simp; omega
              have hn5 : decide (1048575 < nx) = false := by simpa using hn4
              replace hres := Lib.hid hres
              go_enter Try.func69, Try.ntmps69
              go_wp2_with ((first | simp only [hW.out] | skip); refine wpList_load_row rfl 26 _ rfl w.heap.size rfl 26 #[.int .i64 nx, .slice q L.length cap] (0, 0) _ HT.out Try.underlying26 rfl (by kernel_rfl) ?_)
              refine hD.out.mono ?_
              rintro e w2 ⟨rfl, hB⟩
              have HB2 := HB0.out.trans (hB.mono (by rw [hs.out]; omega))
              obtain ⟨W3, hW3, hB3, hb3, hM3, hs3⟩ := lay1 (n := n) HB2 HB2.size
              have HT3 := Lib.hid ((HT.out.below hB (by rw [hs.out]; omega)).below hb3 (by have := hB.size; rw [hs.out] at this; omega))
              have hlt3 : w.heap.size < W3.heap.size := by have := hB.size; rw [hs.out] at this; omega
              replace hC := Lib.hid (hC.out W3 hB3)
              replace hW3 := Lib.hid hW3
              replace hB3 := Lib.hid hB3
              clear hB hM3 HB2 hb3 hs3
              go_wp2_with (first
                | (refine wpList_store_row rfl 31 _ _ rfl w2.heap.size (cellsA n) rfl rfl 31 (cellsA noN) (heap_alloc_new w2 _) (by kernel_rfl) rfl (cellsA_one n) ?_; rw [World.setRow_alloc_new, hW3.out])
                | (refine wpList_load_row rfl 26 _ rfl w.heap.size rfl 26 #[.int .i64 nx, .slice q L.length cap] (0, 0) _ HT3.out Try.underlying26 rfl (by kernel_rfl) ?_)
                | (go_at_call 39; refine (hP.out _).mono ?_; rintro e w' ⟨rfl, rfl⟩)
                | (go_at_call 74; refine (hM.out _).mono ?_; rintro e w' ⟨rfl, rfl⟩))
              refine hC.out.mono ?_
              rintro e w4 ⟨rfl, hB4⟩
              have hT4 := HT3.out.below hB4 hlt3
              have c0 := hT4.c0
              have c1 := hT4.c1
              have HB4 := Lib.hid (hB3.out.trans (hB4.mono hB3.out.size))
              clear hB4 hT4 hlt3
              go_wp2
              go_ret
              rw [hres.out]
              exact ⟨rfl, HB4.out⟩
        · rw [if_pos rfl] at hres
          replace hres := Lib.hid hres
          go_enter Try.func69, Try.ntmps69
          go_wp2_with ((first | simp only [hW.out] | skip); refine wpList_load_row rfl 26 _ rfl w.heap.size rfl 26 #[.int .i64 nx, .slice q L.length cap] (0, 0) _ HT.out Try.underlying26 rfl (by kernel_rfl) ?_)
          refine hD.out.mono ?_
          rintro e w2 ⟨rfl, hB⟩
          have HB2 := HB0.out.trans (hB.mono (by rw [hs.out]; omega))
          obtain ⟨W3, hW3, hB3, hb3, hM3, hs3⟩ := lay1 (n := n) HB2 HB2.size
          have HT3 := Lib.hid ((HT.out.below hB (by rw [hs.out]; omega)).below hb3 (by have := hB.size; rw [hs.out] at this; omega))
          have hlt3 : w.heap.size < W3.heap.size := by have := hB.size; rw [hs.out] at this; omega
          replace hC := Lib.hid (hC.out W3 hB3)
          replace hW3 := Lib.hid hW3
          replace hB3 := Lib.hid hB3
          clear hB hM3 HB2 hb3 hs3
          go_wp2_with (first
            | (refine wpList_store_row rfl 31 _ _ rfl w2.heap.size (cellsA n) rfl rfl 31 (cellsA noN) (heap_alloc_new w2 _) (by kernel_rfl) rfl (cellsA_one n) ?_; rw [World.setRow_alloc_new, hW3.out])
            | (refine wpList_load_row rfl 26 _ rfl w.heap.size rfl 26 #[.int .i64 nx, .slice q L.length cap] (0, 0) _ HT3.out Try.underlying26 rfl (by kernel_rfl) ?_)
            | (go_at_call 39; refine (hP.out _).mono ?_; rintro e w' ⟨rfl, rfl⟩)
            | (go_at_call 74; refine (hM.out _).mono ?_; rintro e w' ⟨rfl, rfl⟩))
          refine hC.out.mono ?_
          rintro e w4 ⟨rfl, hB4⟩
          have hT4 := HT3.out.below hB4 hlt3
          have c0 := hT4.c0
          have c1 := hT4.c1
          have HB4 := Lib.hid (hB3.out.trans (hB4.mono hB3.out.size))
          clear hB4 hT4 hlt3
          go_wp2
          go_ret
          rw [hres.out]
          exact ⟨rfl, HB4.out⟩
end Go.Proofs.Ytalhkoolpnmcdaa
