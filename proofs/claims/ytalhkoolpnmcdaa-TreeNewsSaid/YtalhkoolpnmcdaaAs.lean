/-
  Walks: setData; New, the program's and the reference's.
-/
import Derived.Test.YtalhkoolpnmcdaaAr
import Derived.Laws.EntriesVeiled
import Derived.Great.BuildSlice
namespace Go.Proofs.Ytalhkoolpnmcdaa
open Go.RowKit

/-- A tree and a string are boxed, a tree is made. -/
theorem start_tst (w : World) (nx : Int) (v : Value) (s : List UInt8) : ∃ W, ((w.alloc (.cells #[.int .i64 nx, v] 26)).alloc (.cells #[.string (mk s)] 9)).alloc (.cells #[.int .i64 0, .slice none 0 0] 26) = W ∧
    Below w.heap.size w W ∧ W.heap.size = w.heap.size + 3 ∧ BlkT W w.heap.size nx v ∧ BlkS W (w.heap.size + 1) s ∧ BlkT W (w.heap.size + 2) 0 (.slice none 0 0) := by
  refine ⟨_, rfl, (((Below.refl _ w).alloc (Nat.le_refl _) _).alloc (by simp) _).alloc (by simp; omega) _, size3 _ _ _ _, ((BlkT.new w nx v).alloc _).alloc _, ?_, ?_⟩
  · have h : BlkS ((w.alloc (.cells #[.int .i64 nx, v] 26)).alloc (.cells #[.string (mk s)] 9)) (w.heap.size + 1) s := by
      have h := heap_alloc_new (w.alloc (.cells #[.int .i64 nx, v] 26)) (.cells #[.string (mk s)] 9)
      rw [show (w.alloc (.cells #[.int .i64 nx, v] 26)).heap.size = w.heap.size + 1 by simp] at h
      exact ⟨Joins.cell_of_block h 0, by simp⟩
    exact h.below ((Below.refl _ _).alloc (Nat.le_refl _) _)
  · have h := heap_alloc_new ((w.alloc (.cells #[.int .i64 nx, v] 26)).alloc (.cells #[.string (mk s)] 9)) (.cells #[.int .i64 0, .slice none 0 0] 26)
    rw [show ((w.alloc (.cells #[.int .i64 nx, v] 26)).alloc (.cells #[.string (mk s)] 9)).heap.size = w.heap.size + 2 by simp] at h
    exact h
/-- Behind changeBy: the change lies in a block. -/
theorem data_mid {w W w2 : World} {nx : Int} {v : Value} {s : List UInt8} {F : ND → ND} {g : Nat} {lb : Array Value} {L : List ND} (hB0 : Below w.heap.size w W) (hs : W.heap.size = w.heap.size + 3) (hT : BlkT W w.heap.size nx v) (hS : BlkS W (w.heap.size + 1) s) (hU : BlkT W (w.heap.size + 2) 0 (.slice none 0 0))
    (hE : Edits g lb F w2) (eg : ∀ args w, (callFunc g args).run Try.prog w = .ok (.enter g args) w) (hB : Below W.heap.size W w2) (hR : NRow w v L) :
    ∃ W3, (w2.alloc (.cells #[.func (.func g) #[] lb] 86)) = W3 ∧ Hid (Below w.heap.size w W3) ∧ Hid (BlkT W3 w.heap.size nx v) ∧ Hid (BlkT W3 (w.heap.size + 2) 0 (.slice none 0 0)) ∧
      Hid (Edits 99 #[.pointer (some ⟨w.heap.size + 1, 0, none⟩), .pointer (some ⟨w2.heap.size, 0, none⟩)] (fun n => F (dataN s n)) W3) ∧ Hid (NRow W3 v L) ∧ w.heap.size + 2 < W3.heap.size := by
  have hsz := hB.size
  have hB1 : Below w.heap.size w w2 := hB0.trans (hB.mono (by omega))
  have hb3 : Below w2.heap.size w2 (w2.alloc (.cells #[.func (.func g) #[] lb] 86)) := (Below.refl _ w2).alloc (Nat.le_refl _) _
  have hB3 := hB1.trans (hb3.mono (by omega))
  have hF : BlkF (w2.alloc (.cells #[.func (.func g) #[] lb] 86)) w2.heap.size g lb := ⟨Joins.cell_of_block (heap_alloc_new w2 _) 0, by simp⟩
  exact ⟨_, rfl, hB3, (hT.below hB (by omega)).below hb3 (by omega), (hU.below hB (by omega)).below hb3 (by omega), setData1_any s g lb F eg _ _ _ ((hS.below hB).below hb3) hF (hE.later hb3), hR.below hB3, by simp; omega⟩

set_option maxRecDepth 100000 in
set_option maxHeartbeats 6400000 in
theorem setData_any (s uid : List UInt8) (now : Int) (nx : Int) (v : Value) (L : List ND) (id : Int) (w : World) (h : NRow w v L) (hr : Rise L) (h0 : 0 < L.length) (hl : L.length ≤ 1000000)
    (hve : ∀ n ∈ L, 0 ≤ n.ve ∧ n.ve ≤ 2147483647) :
    Calls Try.prog 67 #[treeV nx v, .int .i64 id, .string (mk s), .string (mk uid), .int .i64 now] w fun e w' => GivesT nx (edT L id (fun n => touchN uid now (dataN s n))) w e w' := by
  obtain ⟨W, hW, hB0, hs0, hT0, hS0, hU0⟩ := start_tst w nx v s
  have hC := Lib.hid (fun W => changeBy_any uid now W)
  have egs : ∀ args w, (callFunc 99 args).run Try.prog w = .ok (.enter 99 args) w := enters_of Try.func99 (by kernel_rfl) rfl
  have hED0 := fun lb W' (hE : Edits 99 lb (fun n => touchN uid now (dataN s n)) W') (hR : NRow W' v L) => edit_any _ lb _ egs nx v L id W' hR hr h0 hl hve hE
  have hml : (edT L id fun n => touchN uid now (dataN s n)).length = L.length := edT_len _ _ _
  generalize (edT L id fun n => touchN uid now (dataN s n)) = M at hED0 hml ⊢
  have hED := Lib.hid hED0
  replace hml := Lib.hid hml
  clear hED0
  replace hW := Lib.hid hW
  have HB0 := Lib.hid hB0
  have hs := Lib.hid hs0
  have HT := Lib.hid hT0
  have HS := Lib.hid hS0
  have HUt := Lib.hid hU0
  have HR := Lib.hid h
  obtain ⟨q, cap, rfl, hc, hm, _⟩ := h
  unfold treeV at hED ⊢
  clear hB0 hs0 hT0 hS0 hU0 hr hve hc hm egs
  go_enter Try.func67, Try.ntmps67
  go_wp2_with fail
  simp only [hW.out]
  refine (hC.out _).mono ?_
  rintro e w2 ⟨g, lb, rfl, eg, hE, hB⟩
  obtain ⟨W3, hW3, HB3, HT3, HU3, HE3, HR3, hs3⟩ := data_mid HB0.out hs.out HT.out HS.out HUt.out hE eg hB HR.out
  have HD := Lib.hid (hED.out _ W3 HE3.out HR3.out)
  replace hW3 := Lib.hid hW3
  clear hC hED eg hE hB HE3 HR3 HT HUt HS
  go_wp2_with (first
    | (refine wpList_load_row rfl 26 _ rfl w.heap.size rfl 26 #[.int .i64 nx, .slice q L.length cap] (0, 0) _ HT3.out Try.underlying26 rfl (by kernel_rfl) ?_)
    | (simp only [hW3.out]))
  refine HD.out.mono ?_
  rintro e w5 ⟨v5, rfl, hO5, hB5⟩
  have HB5 := Lib.hid (HB3.out.trans (hB5.mono HB3.out.size))
  have HU5 := Lib.hid (HU3.out.below hB5 hs3)
  have hle : w.heap.size + 3 ≤ W3.heap.size := hs3
  obtain ⟨G, cap5, rfl, hG1, hG2, _, _⟩ := NOwn.form hO5 (by rw [hml.out]; exact h0)
  have HO5 := Lib.hid hO5
  unfold treeV
  clear hB5 hO5 HD HT3 HU3
  go_wp2_with (refine wpList_store_row rfl 26 _ _ rfl (w.heap.size + 2) #[.int .i64 nx, .slice (some ⟨G, 0, none⟩) M.length cap5] rfl rfl 26 #[.int .i64 0, .slice none 0 0] HU5.out (by kernel_rfl) rfl (treeA_one _ _ _ _) ?_)
  refine bodyPost_ret (results_tree (b := w.heap.size + 2) (nx := nx) (v := .slice (some ⟨G, 0, none⟩) M.length cap5) rfl rfl (setRow_heap _ _ _ _ _ _ HU5.out)) rfl ?_
  exact ⟨.slice (some ⟨G, 0, none⟩) M.length cap5, rfl, own_setRow (k := w.heap.size + 2) (HO5.out.mono (by omega)) (by simp [Value.ownBlock]; omega) _, below_setRow (g := w.heap.size + 2) HB5.out (by omega) _⟩
end Go.Proofs.Ytalhkoolpnmcdaa
