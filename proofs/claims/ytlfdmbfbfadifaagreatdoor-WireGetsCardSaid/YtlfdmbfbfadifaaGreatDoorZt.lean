/-
  The laws' fixed examples: what they come to.
  The laws' fixed examples: alive.
  Walks: small.
-/
import Derived.Test.YtlfdmbfbfadifaaGreatDoorZr
import Derived.Test.YtlfdmbfbfadifaaGreatDoorZs
import Derived.Test.YtlfdmbfbfadifaaGreatDoorYs
import Derived.Deep.RegionHeld3
import Derived.Deep.MidRow
namespace Go.Proofs.YtlfdmbfbfadifaaGreatDoor
open Go.RowKit

def clB : List UInt8 := [11, 0, 0, 0, 120, 1, 0, 7, 0, 0, 0]
def exK : MM := { noM with kd := 120, tg := 1, fi := 7 }
def clS : List UInt8 := [11, 0, 0, 0, 120, 1, 0, 7, 0, 0]
def clT : List UInt8 := [11, 0, 0, 0, 120, 1, 0, 7, 0, 0, 0, 11, 0, 0, 0, 120, 1, 0, 7, 0, 0, 0, 11, 0, 0]
theorem put_K : putW exK = (clB, 0) := by kernel_rfl
theorem get_K : getW clB 0 = (exK, 11, 0) := by kernel_rfl
theorem get_S : getW clS 0 = (noM, 0, 3) := by kernel_rfl
theorem spl_K : splW clT 0 = ([exK, exK], [11, 0, 0], 0) := by kernel_rfl
theorem spl_M : splW [1, 1, 0, 0] 256 = ([], [], 19) := by kernel_rfl
theorem row_exK (w : World) : RowM w exK := ⟨SRow.nil_ w, QRow.nil_ w⟩
theorem in_exK : inM exK := ⟨⟨by decide, by decide⟩, St.inD_noD, St.bigD_noD, fun _ h => absurd h (Nat.not_lt_zero _), fun _ h => absurd h List.not_mem_nil, Nat.zero_le _, Nat.zero_le _, Nat.zero_le _, Nat.zero_le _, Nat.zero_le _, Nat.zero_le _⟩
end Go.Proofs.YtlfdmbfbfadifaaGreatDoor

namespace Go.Proofs.YtlfdmbfbfadifaaGreatDoor
open Go.RowKit

theorem ex_one (W : World) (m : MM) : ∃ W', W.alloc (.cells (cellsB m) 30) = W' ∧ Below W.heap.size W W' ∧ BlkM W' W.heap.size m ∧ W.heap.size < W'.heap.size :=
  ⟨_, rfl, (Below.refl _ W).alloc (Nat.le_refl _) _, BlkM.new W m, by simp⟩
theorem strip_inv {m x : MM} (h : strip x = m) : x = withV m x.nv x.qv := by subst h; cases x; rfl
theorem strip_two {L : List MM} {m : MM} (h : L.map strip = [m, m]) : ∃ x n q, L = [x, withV m n q] := by
  rcases L with _ | ⟨x, _ | ⟨y, _ | ⟨z, r⟩⟩⟩
  · cases h
  · cases h
  · simp only [List.map_cons, List.map_nil, List.cons.injEq, and_true] at h
    exact ⟨x, y.nv, y.qv, by rw [← strip_inv h.2]⟩
  · simp at h
theorem two_row {W : World} {v : Value} {x m : MM} (h : MSRow W v [x, m]) : ∃ b o cap, v = .slice (some ⟨b, o, none⟩) 2 cap ∧ 2 ≤ cap ∧ ∀ W2, Below W.heap.size W W2 → W2.rangeAt b (o + 39) (cellsM m) ∧ RowM W2 m := by
  obtain ⟨⟨p, cap, rfl, hc, -, hk⟩, hr⟩ := h
  obtain ⟨b, o, rfl, hb, hcl⟩ := hk (by simp)
  refine ⟨b, o, cap, rfl, hc, fun W2 hB => ⟨fun j u hu => ?_, (hr m (by simp)).below hB⟩⟩
  have := hcl 1 (by simp) j u hu
  rw [show o + 1 * 39 + j = o + 39 + j by omega] at this
  exact (hB.cell (p := ⟨b, o + 39 + j, none⟩) hb).trans this
/-- What holds all along. -/
def StK (w : World) (b4 : Nat) (m4 : MM) (W : World) : Prop := Below w.heap.size w W ∧ BlkM W w.heap.size exK ∧ BlkM W b4 m4 ∧ RowM W m4
theorem StK.go {w W W' : World} {b4 : Nat} {m4 : MM} (h : StK w b4 m4 W) (hB : Below W.heap.size W W') : StK w b4 m4 W' := ⟨h.1.trans (hB.mono h.1.size), h.2.1.below hB h.2.1.lt, h.2.2.1.below hB h.2.2.1.lt, h.2.2.2.below hB⟩
theorem StK.drew {w W : World} {b4 : Nat} {m4 : MM} (h : StK w b4 m4 W) : StK w b4 m4 W.drew := ⟨below_drew h.1, h.2.1, h.2.2.1, h.2.2.2⟩
/-- And since the list was read. -/
def StA (w : World) (b4 : Nat) (m4 : MM) (W7 W : World) : Prop := StK w b4 m4 W ∧ Below W7.heap.size W7 W
theorem StA.go {w W7 W W' : World} {b4 : Nat} {m4 : MM} (h : StA w b4 m4 W7 W) (hB : Below W.heap.size W W') : StA w b4 m4 W7 W' := ⟨h.1.go hB, h.2.trans (hB.mono h.2.size)⟩
theorem StA.drew {w W7 W : World} {b4 : Nat} {m4 : MM} (h : StA w b4 m4 W7 W) : StA w b4 m4 W7 W.drew := ⟨h.1.drew, below_drew h.2⟩
theorem yieldsIf_load_row {P : Program} {ops : Array Oper} {S : World → Prop} {op : Oper} {a : Act} (hw : Region.wanted op (yielded ops a.tmps) = true) (ty : TypeId) (x : Operand) (ho : op.op = .load ty x)
    (b : Nat) (hx : a.eval x = .pointer (some ⟨b, 0, none⟩)) (cs : Array Value) (hl : ∀ W, S W → (Instr.loadAt ty (.pointer (some ⟨b, 0, none⟩))).run P W = .ok (.agg cs) W) : YieldsIf P ops S op (.agg cs) a :=
  .inl ⟨hw, fun w hw' => by
    unfold execOp
    simp only [ho, hx, hl w hw', Sem.run_bind, Sem.run_pure, Result.andThen_ok]⟩
theorem takeD {P : Program} {ops : Array Oper} {Q : Exit → Act → World → Prop} {md : Region.Mode} {S : World → Prop} {i : Nat} {oi : Oper} {v : Value} {d : Option Tmp} {fuel : Nat} {listed : Array Bool} {a : Act} {w : World} (hi : ops[i]? = some oi) (hd : oi.dst = d)
    (hs : Region.noSelect ops = true) (hf : Region.free md ops listed i = true) (hr : (Region.ready md ops listed).contains i = true)
    (hQ : ∀ c a w, Q (.panic c) (a.put d v) w → Q (.panic c) a w) (hy : YieldsIf P ops S oi v a) (hS : S w)
    (h : wpAnyH P md ops Q S fuel (listed.setIfInBounds i true) (a.put d v) w) : wpAnyH P md ops Q S (fuel + 1) listed a w := by
  subst hd
  exact wpAnyH_take hi hs hf hr hQ hy hS h
theorem load_msg {W : World} {b : Nat} {m : MM} (h : BlkM W b m) : (Instr.loadAt 30 (.pointer (some ⟨b, 0, none⟩))).run Tryz.prog W = .ok (.agg (cellsB m)) W := by
  have := run_loadVar_row (P := Tryz.prog) W b 30 30 (cellsB m) (0, 0) _ h Tryz.underlying30 rfl (by kernel_rfl)
  simp only [Instr.loadAt, Instr.sureAddr, Sem.run_bind, Sem.run_pure, Result.andThen_ok, this]

set_option maxRecDepth 100000 in
set_option maxHeartbeats 12800000 in
theorem alive_any (w : World) (g : G w) :
    Calls Tryz.prog 7 #[] w fun e w' => e = .returned (.bool true) ∧ Below w.heap.size w w' := by
  obtain ⟨W1, hW1, hB1, hK1, -⟩ := ex_one w exK
  have HG := Lib.hid g
  have hP : Hid (∀ W, G W → Calls Tryz.prog 8 #[.agg (cellsB exK)] W fun e w' => e = .returned (.tuple #[.string (mk clB), .int .i64 0]) ∧ Below W.heap.size W w') := Lib.hid fun W g => by
    have := Put_msg exK in_exK W (row_exK W) g
    rw [put_K] at this
    exact this
  have hS : Hid (∀ W, G W → Calls Tryz.prog 10 #[.agg (cellsB exK)] W fun e w' => e = .returned (.int .i64 11) ∧ Below W.heap.size W w') := Lib.hid fun W g => by
    have := Size_msg exK in_exK W (row_exK W) g
    rw [put_K] at this
    exact this
  have hG1 : Hid (∀ W, G W → Calls Tryz.prog 12 #[.string ⟨#[11, 0, 0, 0, 120, 1, 0, 7, 0, 0, 0]⟩, .int .i64 0] W fun e W' => ∃ v1 v2, e = .returned (.tuple #[.agg (cellsB (withV exK v1 v2)), .int .i64 11, .int .i64 0]) ∧ RowM W' (withV exK v1 v2) ∧ Below W.heap.size W W') := Lib.hid fun W g => by
    have := Get_msg clB 0 (by decide) W g
    rw [get_K] at this
    exact this.mono fun e W' ⟨v1, v2, h1, h2, h3⟩ => ⟨v1, v2, h1, h2.row, h3⟩
  have hG2 : Hid (∀ W, G W → Calls Tryz.prog 12 #[.string (mk clS), .int .i64 0] W fun e W' => ∃ m, e = .returned (.tuple #[.agg (cellsB m), .int .i64 0, .int .i64 3]) ∧ RowM W' m ∧ Below W.heap.size W W') := Lib.hid fun W g => by
    have := Get_msg clS 0 (by decide) W g
    rw [get_S] at this
    exact this.mono fun e W' ⟨v1, v2, h1, h2, h3⟩ => ⟨_, h1, h2.row, h3⟩
  have hL1 : Hid (∀ W, G W → Calls Tryz.prog 15 #[.string (mk clT), .int .i64 0] W fun e W' => ∃ b o cap n q, e = .returned (.tuple #[.slice (some ⟨b, o, none⟩) 2 cap, .string (mk [11, 0, 0]), .int .i64 0]) ∧ (2 ≤ cap ∧ ∀ W2, Below W'.heap.size W' W2 → W2.rangeAt b (o + 39) (cellsM (withV exK n q)) ∧ RowM W2 (withV exK n q)) ∧ Below W.heap.size W W') := Lib.hid fun W g => by
    have := Split_any clT 0 (by decide) W g
    unfold SplPost at this
    rw [spl_K] at this
    refine this.mono fun e W' ⟨v, L, h1, h2, h3, h4⟩ => ?_
    obtain ⟨x, n, q, rfl⟩ := strip_two h3
    obtain ⟨b, o, cap, rfl, h5, h6⟩ := two_row h2
    exact ⟨b, o, cap, n, q, h1, ⟨h5, h6⟩, h4⟩
  have hL2 : Hid (∀ W, G W → Calls Tryz.prog 15 #[.string ⟨#[1, 1, 0, 0]⟩, .int .i64 256] W fun e W' => ∃ v, e = .returned (.tuple #[v, .string (mk []), .int .i64 19]) ∧ Below W.heap.size W W') := Lib.hid fun W g => by
    have := Split_any [1, 1, 0, 0] 256 (by decide) W g
    unfold SplPost at this
    rw [spl_M] at this
    exact this.mono fun e W' ⟨v, L, h1, h2, h3, h4⟩ => ⟨v, h1, h4⟩
  have hE : Hid (∀ W n q, RowM W (withV exK n q) → Calls Tryz.prog 14 #[.agg (cellsB (withV exK n q)), .agg (cellsB exK)] W fun e w' => e = .returned (.bool true) ∧ Below W.heap.size W w') := Lib.hid fun W n q h => RSame_eq exK n q nilS nilS W h (row_exK W)
  have hone := Lib.hid (fun (m : MM) h1 h2 => cellsB_one m h1 h2)
  have e10 : (⟨#[11, 0, 0, 0, 120, 1, 0, 7, 0, 0, 0]⟩ : ByteArray).extract 0 10 = mk clS := by decide +kernel
  have e3 : (⟨#[11, 0, 0, 0, 120, 1, 0, 7, 0, 0, 0]⟩ : ByteArray).extract 0 3 = mk [11, 0, 0] := by decide +kernel
  have eT : (⟨#[11, 0, 0, 0, 120, 1, 0, 7, 0, 0, 0, 11, 0, 0, 0, 120, 1, 0, 7, 0, 0, 0]⟩ : ByteArray) ++ mk [11, 0, 0] = mk clT := by decide +kernel
  have hs3 : (mk [11, 0, 0]).size ≤ 3 := by decide +kernel
  have HW1 := Lib.hid hW1
  have HB1 := Lib.hid hB1
  have HK1 := Lib.hid hK1
  clear hW1 hB1 hK1 g
  generalize hc : mk clB = sB at *
  replace hc := Lib.hid hc
  generalize mk clS = sS at *
  generalize mk clT = sT at *
  go_enter Tryz.func7, Tryz.ntmps7
  go_wp2_with (first
    | (refine wpList_store_row rfl 30 _ _ rfl w.heap.size (cellsB exK) rfl rfl 30 (cellsB noM) (heap_alloc_new w _) (by kernel_rfl) rfl (hone.out exK rfl rfl) ?_; rw [World.setRow_alloc_new, HW1.out])
    | (refine wpList_load_row rfl 30 _ rfl w.heap.size rfl 30 (cellsB exK) (0, 0) _ HK1.out Tryz.underlying30 rfl (by kernel_rfl) ?_))
  refine (hP.out _ (HG.out.below HB1.out)).mono ?_
  rintro e W2 ⟨rfl, hB2⟩
  have HB2 := Lib.hid (HB1.out.trans (hB2.mono HB1.out.size))
  have HK2 := Lib.hid (HK1.out.below hB2 HK1.out.lt)
  clear hB2 hP
  go_wp2_with fail
  refine (hG1.out _ (HG.out.below HB2.out)).mono ?_
  rintro e W3 ⟨v1, v2, rfl, hR3, hB3⟩
  have hB3' := HB2.out.trans (hB3.mono HB2.out.size)
  have hK3 := HK2.out.below hB3 HK2.out.lt
  have hone4 := Lib.hid (hone.out (withV exK v1 v2) hR3.one.1 hR3.one.2)
  obtain ⟨W4, hW4, hB4, hF4, -⟩ := ex_one W3 (withV exK v1 v2)
  have HS4 : Hid (StK w W3.heap.size (withV exK v1 v2) W4) := ⟨hB3'.trans (hB4.mono hB3'.size), hK3.below hB4 hK3.lt, hF4, hR3.below hB4⟩
  replace hW4 := Lib.hid hW4
  clear hB3 hB3' hK3 hR3 hB4 hF4 hG1
  go_wp2_with (refine wpList_store_row rfl 30 _ _ rfl W3.heap.size (cellsB (withV exK v1 v2)) rfl rfl 30 (cellsB noM) (heap_alloc_new W3 _) (by kernel_rfl) rfl hone4.out ?_; rw [World.setRow_alloc_new, hW4.out])
  refine (hG2.out _ (HG.out.below HS4.out.1)).mono ?_
  rintro e W5 ⟨m5, rfl, hR5, hB5⟩
  have hS5 := HS4.out.go hB5
  have hone5 := Lib.hid (hone.out m5 hR5.one.1 hR5.one.2)
  obtain ⟨W6, hW6, hB6, -, -⟩ := ex_one W5 m5
  have HS6 := Lib.hid (hS5.go hB6)
  replace hW6 := Lib.hid hW6
  clear hB5 hS5 hR5 hB6 hG2
  go_wp2_with (refine wpList_store_row rfl 30 _ _ rfl W5.heap.size (cellsB m5) rfl rfl 30 (cellsB noM) (heap_alloc_new W5 _) (by kernel_rfl) rfl hone5.out ?_; rw [World.setRow_alloc_new, hW6.out])
  refine (hL1.out _ (HG.out.below HS6.out.1)).mono ?_
  rintro e W7 ⟨b, o, cap, n, q, rfl, ⟨hcap, hKp'⟩, hB7⟩
  have HS7 := Lib.hid (HS6.out.go hB7)
  have hKp := Lib.hid hKp'
  clear hKp' hB7 hL1
  go_wp2_with fail
  refine (hL2.out _ (HG.out.below HS7.out.1)).mono ?_
  rintro e W8 ⟨v', rfl, hB8⟩
  have HS8 : Hid (StA w W3.heap.size (withV exK v1 v2) W7 W8) := ⟨HS7.out.go hB8, hB8⟩
  have hld1 := Lib.hid (fun W (h : StA w W3.heap.size (withV exK v1 v2) W7 W) => load_msg h.1.2.1)
  have hld4 := Lib.hid (fun W (h : StA w W3.heap.size (withV exK v1 v2) W7 W) => load_msg h.1.2.2.1)
  have ht1 : (sB.toList == [11, 0, 0, 0, 120, 1, 0, 7, 0, 0, 0]) = true := by rw [← hc.out, mk_toList]; rfl
  clear hB8 hL2 e10 eT
  generalize mk [11, 0, 0] = s3 at *
  have ht3 : (s3.toList == s3.toList) = true := by simp
  go_wp2
  refine wp_region_held_drew (S := StA w W3.heap.size (withV exK v1 v2) W7) (by kernel_rfl) (HS8.out.drew) (fun hHeld => ?_)
  refine takeD (i := 0) (oi := _) (d := some 45) (v := .string sB) rfl rfl (by kernel_rfl) (by kernel_rfl) (by kernel_rfl) (fun _ _ _ h => h) (Or.inl ⟨by rfl, fun W hSw => by go_simp⟩) (by assumption) ?_
  try simp only [Act.put, List.setIfInBounds_toArray, List.set_cons_zero, List.set_cons_succ]
  refine takeD (i := 1) (oi := _) (d := some 46) (v := .bool true) rfl rfl (by kernel_rfl) (by kernel_rfl) (by kernel_rfl) (fun _ _ _ h => h) (Or.inl ⟨by rfl, fun W hSw => by go_simp⟩) (by assumption) ?_
  try simp only [Act.put, List.setIfInBounds_toArray, List.set_cons_zero, List.set_cons_succ]
  refine takeD (i := 2) (oi := _) (d := some 47) (v := .bool true) rfl rfl (by kernel_rfl) (by kernel_rfl) (by kernel_rfl) (fun _ _ _ h => h) (Or.inl ⟨by rfl, fun W hSw => by go_simp⟩) (by assumption) ?_
  try simp only [Act.put, List.setIfInBounds_toArray, List.set_cons_zero, List.set_cons_succ]
  refine takeD (i := 3) (oi := _) (d := some 48) (v := .int .i64 0) rfl rfl (by kernel_rfl) (by kernel_rfl) (by kernel_rfl) (fun _ _ _ h => h) (Or.inl ⟨by rfl, fun W hSw => by go_simp⟩) (by assumption) ?_
  try simp only [Act.put, List.setIfInBounds_toArray, List.set_cons_zero, List.set_cons_succ]
  refine takeD (i := 4) (oi := _) (d := some 49) (v := .bool true) rfl rfl (by kernel_rfl) (by kernel_rfl) (by kernel_rfl) (fun _ _ _ h => h) (Or.inl ⟨by rfl, fun W hSw => by go_simp⟩) (by assumption) ?_
  try simp only [Act.put, List.setIfInBounds_toArray, List.set_cons_zero, List.set_cons_succ]
  refine takeD (i := 5) (oi := _) (d := some 50) (v := .bool true) rfl rfl (by kernel_rfl) (by kernel_rfl) (by kernel_rfl) (fun _ _ _ h => h) (Or.inl ⟨by rfl, fun W hSw => by go_simp⟩) (by assumption) ?_
  try simp only [Act.put, List.setIfInBounds_toArray, List.set_cons_zero, List.set_cons_succ]
  refine takeD (i := 6) (oi := _) (d := some 51) (v := .bool true) rfl rfl (by kernel_rfl) (by kernel_rfl) (by kernel_rfl) (fun _ _ _ h => h) (Or.inl ⟨by rfl, fun W hSw => by go_simp⟩) (by assumption) ?_
  try simp only [Act.put, List.setIfInBounds_toArray, List.set_cons_zero, List.set_cons_succ]
  refine takeD (i := 7) (oi := _) (d := some 52) (v := .agg (cellsB exK)) rfl rfl (by kernel_rfl) (by kernel_rfl) (by kernel_rfl) (fun _ _ _ h => h) (yieldsIf_load_row (by rfl) 30 _ rfl w.heap.size rfl (cellsB exK) hld1.out) (by assumption) ?_
  try simp only [Act.put, List.setIfInBounds_toArray, List.set_cons_zero, List.set_cons_succ]
  refine wpAnyH_ready (rs := [8]) (by kernel_rfl) (by simp) ?_
  refine AllReadyH.cons (o := _) rfl (fun K hK => ?_) AllReadyH.nil
  go_simp
  refine (hS.out _ (HG.out.below hHeld.1.1)).mono ?_
  rintro e W9 ⟨rfl, hB9⟩
  refine hK.out _ _ (hHeld.go hB9) (fun hHeld => ?_)
  clear hK K
  try simp only [Act.put, List.setIfInBounds_toArray, List.set_cons_zero, List.set_cons_succ]
  refine takeD (i := 9) (oi := _) (d := some 54) (v := .bool true) rfl rfl (by kernel_rfl) (by kernel_rfl) (by kernel_rfl) (fun _ _ _ h => h) (Or.inl ⟨by rfl, fun W hSw => by go_simp⟩) (by assumption) ?_
  try simp only [Act.put, List.setIfInBounds_toArray, List.set_cons_zero, List.set_cons_succ]
  refine takeD (i := 10) (oi := _) (d := some 55) (v := .bool true) rfl rfl (by kernel_rfl) (by kernel_rfl) (by kernel_rfl) (fun _ _ _ h => h) (Or.inl ⟨by rfl, fun W hSw => by go_simp⟩) (by assumption) ?_
  try simp only [Act.put, List.setIfInBounds_toArray, List.set_cons_zero, List.set_cons_succ]
  refine takeD (i := 11) (oi := _) (d := some 56) (v := .bool true) rfl rfl (by kernel_rfl) (by kernel_rfl) (by kernel_rfl) (fun _ _ _ h => h) (Or.inl ⟨by rfl, fun W hSw => by go_simp⟩) (by assumption) ?_
  try simp only [Act.put, List.setIfInBounds_toArray, List.set_cons_zero, List.set_cons_succ]
  refine takeD (i := 12) (oi := _) (d := some 57) (v := .agg (cellsB (withV exK v1 v2))) rfl rfl (by kernel_rfl) (by kernel_rfl) (by kernel_rfl) (fun _ _ _ h => h) (yieldsIf_load_row (by rfl) 30 _ rfl W3.heap.size rfl (cellsB (withV exK v1 v2)) hld4.out) (by assumption) ?_
  try simp only [Act.put, List.setIfInBounds_toArray, List.set_cons_zero, List.set_cons_succ]
  refine takeD (i := 13) (oi := _) (d := some 58) (v := .agg (cellsB exK)) rfl rfl (by kernel_rfl) (by kernel_rfl) (by kernel_rfl) (fun _ _ _ h => h) (yieldsIf_load_row (by rfl) 30 _ rfl w.heap.size rfl (cellsB exK) hld1.out) (by assumption) ?_
  try simp only [Act.put, List.setIfInBounds_toArray, List.set_cons_zero, List.set_cons_succ]
  refine wpAnyH_ready (rs := [14]) (by kernel_rfl) (by simp) ?_
  refine AllReadyH.cons (o := _) rfl (fun K hK => ?_) AllReadyH.nil
  go_simp
  refine (hE.out _ v1 v2 hHeld.1.2.2.2).mono ?_
  rintro e W10 ⟨rfl, hB10⟩
  refine hK.out _ _ (hHeld.go hB10) (fun hHeld => ?_)
  clear hK K
  try simp only [Act.put, List.setIfInBounds_toArray, List.set_cons_zero, List.set_cons_succ]
  refine takeD (i := 15) (oi := _) (d := some 60) (v := .bool true) rfl rfl (by kernel_rfl) (by kernel_rfl) (by kernel_rfl) (fun _ _ _ h => h) (Or.inl ⟨by rfl, fun W hSw => by go_simp⟩) (by assumption) ?_
  try simp only [Act.put, List.setIfInBounds_toArray, List.set_cons_zero, List.set_cons_succ]
  refine takeD (i := 16) (oi := _) (d := some 61) (v := .bool true) rfl rfl (by kernel_rfl) (by kernel_rfl) (by kernel_rfl) (fun _ _ _ h => h) (Or.inl ⟨by rfl, fun W hSw => by go_simp⟩) (by assumption) ?_
  try simp only [Act.put, List.setIfInBounds_toArray, List.set_cons_zero, List.set_cons_succ]
  refine takeD (i := 17) (oi := _) (d := some 62) (v := .int .i64 11) rfl rfl (by kernel_rfl) (by kernel_rfl) (by kernel_rfl) (fun _ _ _ h => h) (Or.inl ⟨by rfl, fun W hSw => by go_simp⟩) (by assumption) ?_
  try simp only [Act.put, List.setIfInBounds_toArray, List.set_cons_zero, List.set_cons_succ]
  refine takeD (i := 18) (oi := _) (d := some 63) (v := .bool true) rfl rfl (by kernel_rfl) (by kernel_rfl) (by kernel_rfl) (fun _ _ _ h => h) (Or.inl ⟨by rfl, fun W hSw => by go_simp⟩) (by assumption) ?_
  try simp only [Act.put, List.setIfInBounds_toArray, List.set_cons_zero, List.set_cons_succ]
  refine takeD (i := 19) (oi := _) (d := some 64) (v := .bool true) rfl rfl (by kernel_rfl) (by kernel_rfl) (by kernel_rfl) (fun _ _ _ h => h) (Or.inl ⟨by rfl, fun W hSw => by go_simp⟩) (by assumption) ?_
  try simp only [Act.put, List.setIfInBounds_toArray, List.set_cons_zero, List.set_cons_succ]
  refine takeD (i := 20) (oi := _) (d := some 65) (v := .bool true) rfl rfl (by kernel_rfl) (by kernel_rfl) (by kernel_rfl) (fun _ _ _ h => h) (Or.inl ⟨by rfl, fun W hSw => by go_simp⟩) (by assumption) ?_
  try simp only [Act.put, List.setIfInBounds_toArray, List.set_cons_zero, List.set_cons_succ]
  refine takeD (i := 21) (oi := _) (d := some 66) (v := .int .i64 0) rfl rfl (by kernel_rfl) (by kernel_rfl) (by kernel_rfl) (fun _ _ _ h => h) (Or.inl ⟨by rfl, fun W hSw => by go_simp⟩) (by assumption) ?_
  try simp only [Act.put, List.setIfInBounds_toArray, List.set_cons_zero, List.set_cons_succ]
  refine takeD (i := 22) (oi := _) (d := some 67) (v := .bool true) rfl rfl (by kernel_rfl) (by kernel_rfl) (by kernel_rfl) (fun _ _ _ h => h) (Or.inl ⟨by rfl, fun W hSw => by go_simp⟩) (by assumption) ?_
  try simp only [Act.put, List.setIfInBounds_toArray, List.set_cons_zero, List.set_cons_succ]
  refine takeD (i := 23) (oi := _) (d := some 68) (v := .bool true) rfl rfl (by kernel_rfl) (by kernel_rfl) (by kernel_rfl) (fun _ _ _ h => h) (Or.inl ⟨by rfl, fun W hSw => by go_simp⟩) (by assumption) ?_
  try simp only [Act.put, List.setIfInBounds_toArray, List.set_cons_zero, List.set_cons_succ]
  refine takeD (i := 24) (oi := _) (d := some 69) (v := .bool true) rfl rfl (by kernel_rfl) (by kernel_rfl) (by kernel_rfl) (fun _ _ _ h => h) (Or.inl ⟨by rfl, fun W hSw => by go_simp⟩) (by assumption) ?_
  try simp only [Act.put, List.setIfInBounds_toArray, List.set_cons_zero, List.set_cons_succ]
  refine takeD (i := 25) (oi := _) (d := some 70) (v := .int .i64 3) rfl rfl (by kernel_rfl) (by kernel_rfl) (by kernel_rfl) (fun _ _ _ h => h) (Or.inl ⟨by rfl, fun W hSw => by go_simp⟩) (by assumption) ?_
  try simp only [Act.put, List.setIfInBounds_toArray, List.set_cons_zero, List.set_cons_succ]
  refine takeD (i := 26) (oi := _) (d := some 71) (v := .bool true) rfl rfl (by kernel_rfl) (by kernel_rfl) (by kernel_rfl) (fun _ _ _ h => h) (Or.inl ⟨by rfl, fun W hSw => by go_simp⟩) (by assumption) ?_
  try simp only [Act.put, List.setIfInBounds_toArray, List.set_cons_zero, List.set_cons_succ]
  refine takeD (i := 27) (oi := _) (d := some 72) (v := .bool true) rfl rfl (by kernel_rfl) (by kernel_rfl) (by kernel_rfl) (fun _ _ _ h => h) (Or.inl ⟨by rfl, fun W hSw => by go_simp⟩) (by assumption) ?_
  try simp only [Act.put, List.setIfInBounds_toArray, List.set_cons_zero, List.set_cons_succ]
  refine takeD (i := 28) (oi := _) (d := some 73) (v := .bool true) rfl rfl (by kernel_rfl) (by kernel_rfl) (by kernel_rfl) (fun _ _ _ h => h) (Or.inl ⟨by rfl, fun W hSw => by go_simp⟩) (by assumption) ?_
  try simp only [Act.put, List.setIfInBounds_toArray, List.set_cons_zero, List.set_cons_succ]
  refine takeD (i := 29) (oi := _) (d := some 74) (v := .slice (some ⟨b, o, none⟩) 2 cap) rfl rfl (by kernel_rfl) (by kernel_rfl) (by kernel_rfl) (fun _ _ _ h => h) (Or.inl ⟨by rfl, fun W hSw => by go_simp⟩) (by assumption) ?_
  try simp only [Act.put, List.setIfInBounds_toArray, List.set_cons_zero, List.set_cons_succ]
  refine takeD (i := 30) (oi := _) (d := some 75) (v := .int .i64 2) rfl rfl (by kernel_rfl) (by kernel_rfl) (by kernel_rfl) (fun _ _ _ h => h) (Or.inl ⟨by rfl, fun W hSw => by go_simp⟩) (by assumption) ?_
  try simp only [Act.put, List.setIfInBounds_toArray, List.set_cons_zero, List.set_cons_succ]
  refine takeD (i := 31) (oi := _) (d := some 76) (v := .bool true) rfl rfl (by kernel_rfl) (by kernel_rfl) (by kernel_rfl) (fun _ _ _ h => h) (Or.inl ⟨by rfl, fun W hSw => by go_simp⟩) (by assumption) ?_
  try simp only [Act.put, List.setIfInBounds_toArray, List.set_cons_zero, List.set_cons_succ]
  refine takeD (i := 32) (oi := _) (d := some 77) (v := .bool true) rfl rfl (by kernel_rfl) (by kernel_rfl) (by kernel_rfl) (fun _ _ _ h => h) (Or.inl ⟨by rfl, fun W hSw => by go_simp⟩) (by assumption) ?_
  try simp only [Act.put, List.setIfInBounds_toArray, List.set_cons_zero, List.set_cons_succ]
  refine takeD (i := 33) (oi := _) (d := some 78) (v := .bool true) rfl rfl (by kernel_rfl) (by kernel_rfl) (by kernel_rfl) (fun _ _ _ h => h) (Or.inl ⟨by rfl, fun W hSw => by go_simp⟩) (by assumption) ?_
  try simp only [Act.put, List.setIfInBounds_toArray, List.set_cons_zero, List.set_cons_succ]
  refine takeD (i := 34) (oi := _) (d := some 79) (v := .slice (some ⟨b, o, none⟩) 2 cap) rfl rfl (by kernel_rfl) (by kernel_rfl) (by kernel_rfl) (fun _ _ _ h => h) (Or.inl ⟨by rfl, fun W hSw => by go_simp⟩) (by assumption) ?_
  try simp only [Act.put, List.setIfInBounds_toArray, List.set_cons_zero, List.set_cons_succ]
  refine takeD (i := 35) (oi := _) (d := some 80) (v := .pointer (some ⟨b, o + 39, none⟩)) rfl rfl (by kernel_rfl) (by kernel_rfl) (by kernel_rfl) (fun _ _ _ h => h) (Or.inl ⟨by rfl, fun W hSw => by go_simp⟩) (by assumption) ?_
  try simp only [Act.put, List.setIfInBounds_toArray, List.set_cons_zero, List.set_cons_succ]
  refine takeD (i := 36) (oi := _) (d := some 81) (v := .agg (cellsB (withV exK n q))) rfl rfl (by kernel_rfl) (by kernel_rfl) (by kernel_rfl) (fun _ _ _ h => h) (yieldsIf_load_mid (by rfl) 30 _ rfl b (o + 39) rfl (cellsM (withV exK n q)) _ (fun W h => (hKp.out W h.2).1) Tryz.underlying30 rfl (by kernel_rfl)) (by assumption) ?_
  try simp only [Act.put, List.setIfInBounds_toArray, List.set_cons_zero, List.set_cons_succ]
  refine takeD (i := 37) (oi := _) (d := some 82) (v := .agg (cellsB exK)) rfl rfl (by kernel_rfl) (by kernel_rfl) (by kernel_rfl) (fun _ _ _ h => h) (yieldsIf_load_row (by rfl) 30 _ rfl w.heap.size rfl (cellsB exK) hld1.out) (by assumption) ?_
  try simp only [Act.put, List.setIfInBounds_toArray, List.set_cons_zero, List.set_cons_succ]
  refine wpAnyH_ready (rs := [38]) (by kernel_rfl) (by simp) ?_
  refine AllReadyH.cons (o := _) rfl (fun K hK => ?_) AllReadyH.nil
  go_simp
  refine (hE.out _ n q (hKp.out _ hHeld.2).2).mono ?_
  rintro e W11 ⟨rfl, hB11⟩
  refine hK.out _ _ (hHeld.go hB11) (fun hHeld => ?_)
  clear hK K
  try simp only [Act.put, List.setIfInBounds_toArray, List.set_cons_zero, List.set_cons_succ]
  refine takeD (i := 39) (oi := _) (d := some 84) (v := .bool true) rfl rfl (by kernel_rfl) (by kernel_rfl) (by kernel_rfl) (fun _ _ _ h => h) (Or.inl ⟨by rfl, fun W hSw => by go_simp⟩) (by assumption) ?_
  try simp only [Act.put, List.setIfInBounds_toArray, List.set_cons_zero, List.set_cons_succ]
  refine takeD (i := 40) (oi := _) (d := some 85) (v := .bool true) rfl rfl (by kernel_rfl) (by kernel_rfl) (by kernel_rfl) (fun _ _ _ h => h) (Or.inl ⟨by rfl, fun W hSw => by go_simp⟩) (by assumption) ?_
  try simp only [Act.put, List.setIfInBounds_toArray, List.set_cons_zero, List.set_cons_succ]
  refine takeD (i := 41) (oi := _) (d := some 86) (v := .string s3) rfl rfl (by kernel_rfl) (by kernel_rfl) (by kernel_rfl) (fun _ _ _ h => h) (Or.inl ⟨by rfl, fun W hSw => by go_simp⟩) (by assumption) ?_
  try simp only [Act.put, List.setIfInBounds_toArray, List.set_cons_zero, List.set_cons_succ]
  refine takeD (i := 42) (oi := _) (d := some 87) (v := .string s3) rfl rfl (by kernel_rfl) (by kernel_rfl) (by kernel_rfl) (fun _ _ _ h => h) (Or.inl ⟨by rfl, fun W hSw => by go_simp⟩) (by assumption) ?_
  try simp only [Act.put, List.setIfInBounds_toArray, List.set_cons_zero, List.set_cons_succ]
  refine takeD (i := 43) (oi := _) (d := some 88) (v := .bool true) rfl rfl (by kernel_rfl) (by kernel_rfl) (by kernel_rfl) (fun _ _ _ h => h) (Or.inl ⟨by rfl, fun W hSw => by go_simp⟩) (by assumption) ?_
  try simp only [Act.put, List.setIfInBounds_toArray, List.set_cons_zero, List.set_cons_succ]
  refine takeD (i := 44) (oi := _) (d := some 89) (v := .bool true) rfl rfl (by kernel_rfl) (by kernel_rfl) (by kernel_rfl) (fun _ _ _ h => h) (Or.inl ⟨by rfl, fun W hSw => by go_simp⟩) (by assumption) ?_
  try simp only [Act.put, List.setIfInBounds_toArray, List.set_cons_zero, List.set_cons_succ]
  refine takeD (i := 45) (oi := _) (d := some 90) (v := .bool true) rfl rfl (by kernel_rfl) (by kernel_rfl) (by kernel_rfl) (fun _ _ _ h => h) (Or.inl ⟨by rfl, fun W hSw => by go_simp⟩) (by assumption) ?_
  try simp only [Act.put, List.setIfInBounds_toArray, List.set_cons_zero, List.set_cons_succ]
  refine takeD (i := 46) (oi := _) (d := some 91) (v := .int .i64 0) rfl rfl (by kernel_rfl) (by kernel_rfl) (by kernel_rfl) (fun _ _ _ h => h) (Or.inl ⟨by rfl, fun W hSw => by go_simp⟩) (by assumption) ?_
  try simp only [Act.put, List.setIfInBounds_toArray, List.set_cons_zero, List.set_cons_succ]
  refine takeD (i := 47) (oi := _) (d := some 92) (v := .bool true) rfl rfl (by kernel_rfl) (by kernel_rfl) (by kernel_rfl) (fun _ _ _ h => h) (Or.inl ⟨by rfl, fun W hSw => by go_simp⟩) (by assumption) ?_
  try simp only [Act.put, List.setIfInBounds_toArray, List.set_cons_zero, List.set_cons_succ]
  refine takeD (i := 48) (oi := _) (d := some 93) (v := .bool true) rfl rfl (by kernel_rfl) (by kernel_rfl) (by kernel_rfl) (fun _ _ _ h => h) (Or.inl ⟨by rfl, fun W hSw => by go_simp⟩) (by assumption) ?_
  try simp only [Act.put, List.setIfInBounds_toArray, List.set_cons_zero, List.set_cons_succ]
  refine takeD (i := 49) (oi := _) (d := some 94) (v := .bool true) rfl rfl (by kernel_rfl) (by kernel_rfl) (by kernel_rfl) (fun _ _ _ h => h) (Or.inl ⟨by rfl, fun W hSw => by go_simp⟩) (by assumption) ?_
  try simp only [Act.put, List.setIfInBounds_toArray, List.set_cons_zero, List.set_cons_succ]
  refine takeD (i := 50) (oi := _) (d := some 95) (v := .int .i64 19) rfl rfl (by kernel_rfl) (by kernel_rfl) (by kernel_rfl) (fun _ _ _ h => h) (Or.inl ⟨by rfl, fun W hSw => by go_simp⟩) (by assumption) ?_
  try simp only [Act.put, List.setIfInBounds_toArray, List.set_cons_zero, List.set_cons_succ]
  refine takeD (i := 51) (oi := _) (d := some 96) (v := .bool true) rfl rfl (by kernel_rfl) (by kernel_rfl) (by kernel_rfl) (fun _ _ _ h => h) (Or.inl ⟨by rfl, fun W hSw => by go_simp⟩) (by assumption) ?_
  try simp only [Act.put, List.setIfInBounds_toArray, List.set_cons_zero, List.set_cons_succ]
  refine takeD (i := 52) (oi := _) (d := some 97) (v := .bool true) rfl rfl (by kernel_rfl) (by kernel_rfl) (by kernel_rfl) (fun _ _ _ h => h) (Or.inl ⟨by rfl, fun W hSw => by go_simp⟩) (by assumption) ?_
  try simp only [Act.put, List.setIfInBounds_toArray, List.set_cons_zero, List.set_cons_succ]
  refine takeD (i := 53) (oi := _) (d := some 0) (v := .bool true) rfl rfl (by kernel_rfl) (by kernel_rfl) (by kernel_rfl) (fun _ _ _ h => h) (Or.inl ⟨by rfl, fun W hSw => by go_simp⟩) (by assumption) ?_
  try simp only [Act.put, List.setIfInBounds_toArray, List.set_cons_zero]
  refine wpAnyH_done (by kernel_rfl) ?_ _
  go_wp2
  go_ret
  exact ⟨rfl, hHeld.1.1⟩
end Go.Proofs.YtlfdmbfbfadifaaGreatDoor

namespace Go.Proofs.YtlfdmbfbfadifaaGreatDoor
open Go.RowKit

/-- A Bool, whichever. -/
def SomeB (e : Ending) : Prop := ∃ b : Bool, e = .returned (.bool b)
set_option maxRecDepth 100000 in
set_option maxHeartbeats 6400000 in
theorem small_any (m : MM) (w : World) (hr : RowM w m) :
    Calls Tryz.prog 6 #[msgV m] w fun e w' => SomeB e ∧ Below w.heap.size w w' := by
  have hB0 : Below w.heap.size w (w.alloc (.cells (cellsB m) 30)) := (Below.refl _ w).alloc (Nat.le_refl _) _
  have HB0 := Lib.hid hB0
  have HK0 := Lib.hid (BlkM.new w m)
  have HR := Lib.hid (hr.1.below hB0)
  obtain ⟨p, cap, hv, hc, hm, -⟩ := hr.1
  obtain ⟨q, cap2, hv2, hc2, hm2, -⟩ := hr.2
  have c10 : ∀ W, BlkM W w.heap.size m → W.cell? ⟨w.heap.size, 10, none⟩ = some (.slice p m.nl.length cap) ∧ W.cell? ⟨w.heap.size, 11, none⟩ = some (.slice q m.ql.length cap2) := fun W h => ⟨(h.cell 10).trans (congrArg some hv), (h.cell 11).trans (congrArg some hv2)⟩
  rw [hv] at HR
  have HC := Lib.hid c10
  clear hr hv hv2 c10 hB0
  unfold maxLen at hm hm2
  obtain ⟨W0, hW0⟩ : ∃ W, w.alloc (.cells (cellsB m) 30) = W := ⟨_, rfl⟩
  have hsz : Hid (W0.heap.size = w.heap.size + 1) := Lib.hid (by rw [← hW0]; simp)
  rw [hW0] at HB0 HK0 HR
  have x7 : W0.cell? ⟨w.heap.size, 7, none⟩ = some (.string (mk m.ve)) := HK0.out.cell 7
  have x8 : W0.cell? ⟨w.heap.size, 8, none⟩ = some (.string (mk m.us)) := HK0.out.cell 8
  have x9 : W0.cell? ⟨w.heap.size, 9, none⟩ = some (.string (mk m.ac)) := HK0.out.cell 9
  have x18 : W0.cell? ⟨w.heap.size, 18, none⟩ = some (.string (mk m.na)) := HK0.out.cell 18
  have x21 : W0.cell? ⟨w.heap.size, 21, none⟩ = some (.string (mk m.da)) := HK0.out.cell 21
  have x31 : W0.cell? ⟨w.heap.size, 31, none⟩ = some (.string (mk m.st.nm)) := HK0.out.cell 31
  have x32 : W0.cell? ⟨w.heap.size, 32, none⟩ = some (.string (mk m.st.ui)) := HK0.out.cell 32
  have x33 : W0.cell? ⟨w.heap.size, 33, none⟩ = some (.string (mk m.st.gi)) := HK0.out.cell 33
  have x34 : W0.cell? ⟨w.heap.size, 34, none⟩ = some (.string (mk m.st.mu)) := HK0.out.cell 34
  have x38 : W0.cell? ⟨w.heap.size, 38, none⟩ = some (.string (mk m.se)) := HK0.out.cell 38
  obtain ⟨x10, x11⟩ := HC.out _ HK0.out
  unfold msgV
  generalize mk m.ve = s0 at *
  generalize mk m.us = s1 at *
  generalize mk m.ac = s2 at *
  generalize mk m.na = s3 at *
  generalize mk m.da = s4 at *
  generalize mk m.st.nm = s5 at *
  generalize mk m.st.ui = s6 at *
  generalize mk m.st.gi = s7 at *
  generalize mk m.st.mu = s8 at *
  generalize mk m.se = s9 at *
  replace hW0 := Lib.hid hW0
  go_enter Tryz.func6, Tryz.ntmps6
  go_wp2_with (simp only [hW0.out])
  go_loopw [3, 51] (fun vn vk wr => ∃ (nn : Int) (k : Nat), vn = .int .i64 nn ∧ vk = .int .i64 (k : Int) ∧ k ≤ m.nl.length ∧ Hid (BlkM wr w.heap.size m) ∧ Hid (Below W0.heap.size W0 wr)) (fun _ vk _ => m.nl.length - (intOf vk).toNat)
  case atStart => exact ⟨_, 0, rfl, rfl, by omega, HK0.out, Below.refl _ _⟩
  case round =>
    clear x7 x8 x9 x18 x21 x31 x32 x33 x34 x38 x10 x11
    obtain ⟨nn, k, rfl, rfl, hk, hK, hB⟩ := hrel
    obtain ⟨x10, x11⟩ := HC.out _ hK.out
    by_cases hlt : k < m.nl.length
    · obtain ⟨b0, o, cap', hv', hb0, hcl, x0⟩ := HR.out.at_ hB.out hlt
      obtain ⟨rfl, rfl⟩ : p = some ⟨b0, o, none⟩ ∧ cap = cap' := by injection hv' with a1 a2 a3; exact ⟨a1, a3⟩
      clear hv' hb0
      have k0 : (0 : Int) ≤ (k : Int) := by omega
      have k1 : (k : Int) < (m.nl.length : Int) := by omega
      generalize mk m.nl[k] = s at *
      go_wp2
      exact ⟨⟨_, k + 1, rfl, by go_num, by omega, hK, hB⟩, by simp [intOf]; omega⟩
    · obtain rfl : k = m.nl.length := by omega
      have HBw := Lib.hid (HB0.out.trans (hB.out.mono HB0.out.size))
      cases h1 : decide (nn ≤ 20000)
      · go_wp2
        go_ret
        exact ⟨⟨_, rfl⟩, HBw.out⟩
      cases h2 : decide ((m.nl.length : Int) ≤ 100)
      · go_wp2
        go_ret
        exact ⟨⟨_, rfl⟩, HBw.out⟩
      go_wp2
      go_ret
      exact ⟨⟨_, rfl⟩, HBw.out⟩
end Go.Proofs.YtlfdmbfbfadifaaGreatDoor
