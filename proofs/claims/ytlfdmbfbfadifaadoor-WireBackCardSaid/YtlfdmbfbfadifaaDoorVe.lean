/-
  Walks: WireBack.
-/
import Derived.Test.YtlfdmbfbfadifaaDoorZt
import Derived.Test.YtlfdmbfbfadifaaDoorVb
import Derived.BigFrame
namespace Go.Proofs.YtlfdmbfbfadifaaDoor
open Go.RowKit

/-- A whole struct out of its block, where the operation has a guard that says yes. -/
theorem wpList_gload_row {P : Program} {ops : Array Oper} {rest : List Oper} {o : Oper} {a : Act} {w : World} {Q : Exit → Act → World → Prop} (hw : Region.wanted o (yielded ops a.tmps) = true) (ty : TypeId) (x : Operand) (ho : o.op = .load ty x)
    (g : Nat) (hx : a.eval x = .pointer (some ⟨g, 0, none⟩)) (t : TypeId) (cs : Array Value) (fr : Nat × Nat) (d : TypeDesc) (hg : w.heap[g]? = some (.cells cs t fr))
    (hu : P.underlying ty = some d) (hd : (match d with | .struct _ | .array _ _ => true | _ => false) = true) (hi : (P.info? ty).map (·.size) = some cs.size)
    (h : wpList P ops Q rest (a.put o.dst (.agg cs)) w) : wpList P ops Q (o :: rest) a w :=
  BigFrame.wpList_want hw fun _ hK => wp_load_row ty x ho g hx t cs fr d hg hu hd hi (hK _ _ h)
theorem putW_fail {m : MM} (h : (putW m).2 ≠ 0) : putW m = ([], (putW m).2) := by
  revert h
  unfold putW
  split
  · intro _; rfl
  · split
    · intro _; rfl
    · intro h; exact absurd rfl h
/-- The two arguments in their blocks. -/
def StB (w : World) (m : MM) (s1 s2 : ByteArray) (W : World) : Prop := Below w.heap.size w W ∧ BlkM W w.heap.size m ∧ w.heap.size + 1 < W.heap.size ∧ W.cell? ⟨w.heap.size + 1, 0, none⟩ = some (.string s1) ∧ W.cell? ⟨w.heap.size + 1, 1, none⟩ = some (.string s2)
theorem StB.go {w W W' : World} {m : MM} {s1 s2 : ByteArray} (h : StB w m s1 s2 W) (hB : Below W.heap.size W W') : StB w m s1 s2 W' :=
  ⟨h.1.trans (hB.mono h.1.size), h.2.1.below hB h.2.1.lt, Nat.lt_of_lt_of_le h.2.2.1 hB.size, (hB.cell (p := ⟨w.heap.size + 1, 0, none⟩) h.2.2.1).trans h.2.2.2.1, (hB.cell (p := ⟨w.heap.size + 1, 1, none⟩) h.2.2.1).trans h.2.2.2.2⟩
theorem StB.new (w : World) (m : MM) (s1 s2 : ByteArray) : StB w m s1 s2 ((w.alloc (.cells (cellsB m) 35)).alloc (.cells #[.string s1, .string s2] 43)) := by
  have h1 : Below w.heap.size w (w.alloc (.cells (cellsB m) 35)) := (Below.refl _ w).alloc (Nat.le_refl _) _
  have e : (w.alloc (.cells (cellsB m) 35)).heap.size = w.heap.size + 1 := by simp
  refine ⟨h1.alloc h1.size _, (BlkM.new w m).alloc _, by simp, ?_, ?_⟩
  · rw [← e, World.cell?_alloc_new]; rfl
  · rw [← e, World.cell?_alloc_new]; rfl
theorem bare_with (m : MM) : withV (bare m) m.nv m.qv = m := by cases m; rfl

set_option maxRecDepth 100000 in
set_option maxHeartbeats 12800000 in
theorem wireBack_walk (a : MM) (hma : inM a) (s1 s2 : ByteArray) (h1 : s1.size ≤ maxLen) (h2 : s2.size ≤ maxLen) (w : World) (ha : RowM w a) (g : G w) :
    Calls Tryd.prog 10 #[msgV a, .agg #[.string s1, .string s2]] w fun e w' => e = .returned (.bool true) ∧ Below w.heap.size w w' := by
  have hz := zero_msgW
  have hS0 := Lib.hid (StB.new w a s1 s2)
  have hSm := Lib.hid (fun W (h : StB w a s1 s2 W) => small_any a W (ha.below h.1))
  have hP := fun W (h : StB w a s1 s2 W) => Put_msg a hma W (ha.below h.1) (g.below h.1)
  have hA := Lib.hid (fun W (h : StB w a s1 s2 W) => alive_any W (g.below h.1))
  have hE : Hid (∀ v1 v2 W, RowM W (withV (bare a) v1 v2) → StB w a s1 s2 W → Calls Tryd.prog 28 #[msgV (withV (bare a) v1 v2), msgV a] W fun e w' => e = .returned (.bool true) ∧ Below W.heap.size W w') := Lib.hid fun v1 v2 W hr h => by
    have := RSame_eq (bare a) v1 v2 a.nv a.qv W hr (by rw [bare_with]; exact ha.below h.1)
    rwa [bare_with] at this
  have hG := fun (l : List UInt8) (i : Int) (hl : l.length ≤ 1000000) W (h : StB w a s1 s2 W) => Get_msg l i hl W (g.below h.1)
  unfold maxLen at h1 h2
  obtain ⟨W0, hW0⟩ : ∃ W, (w.alloc (.cells (cellsB a) 35)).alloc (.cells #[.string s1, .string s2] 43) = W := ⟨_, rfl⟩
  rw [hW0] at hS0
  replace hW0 := Lib.hid hW0
  clear ha g hma
  by_cases b1 : 1000 < s1.size
  · clear hP hE hG hz
    unfold msgV at *
    obtain ⟨-, -, -, c0, c1⟩ := hS0.out
    go_enter Tryd.func10, Tryd.ntmps10
    go_wp2_with (first | (simp only [hW0.out]) | (refine wpList_load_row rfl 35 _ rfl w.heap.size rfl 35 (cellsB a) (0, 0) _ hS0.out.2.1 Tryd.underlying35 rfl (by kernel_rfl) ?_))
    refine (hSm.out _ hS0.out).mono ?_
    rintro e W1 ⟨⟨sm, rfl⟩, hB1⟩
    have hS1 := Lib.hid (hS0.out.go hB1)
    clear hB1 c0 c1
    obtain ⟨-, -, -, c0, c1⟩ := hS1.out
    cases sm
    all_goals
      go_wp2_with fail
      refine (hA.out _ hS1.out).mono ?_
      rintro e W2 ⟨rfl, hB2⟩
      have hS2 := Lib.hid (hS1.out.go hB2)
      clear hB2
      go_wp2
      go_ret
      exact ⟨rfl, hS2.out.1⟩
  have d1 : decide ((1000 : Int) < (s1.size : Int)) = false := decide_eq_false (by omega)
  by_cases b2 : 1000 < s2.size
  · clear hP hE hG hz
    unfold msgV at *
    obtain ⟨-, -, -, c0, c1⟩ := hS0.out
    go_enter Tryd.func10, Tryd.ntmps10
    go_wp2_with (first | (simp only [hW0.out]) | (refine wpList_load_row rfl 35 _ rfl w.heap.size rfl 35 (cellsB a) (0, 0) _ hS0.out.2.1 Tryd.underlying35 rfl (by kernel_rfl) ?_))
    refine (hSm.out _ hS0.out).mono ?_
    rintro e W1 ⟨⟨sm, rfl⟩, hB1⟩
    have hS1 := Lib.hid (hS0.out.go hB1)
    clear hB1 c0 c1
    obtain ⟨-, -, -, c0, c1⟩ := hS1.out
    cases sm
    all_goals
      go_wp2_with fail
      refine (hA.out _ hS1.out).mono ?_
      rintro e W2 ⟨rfl, hB2⟩
      have hS2 := Lib.hid (hS1.out.go hB2)
      clear hB2
      go_wp2
      go_ret
      exact ⟨rfl, hS2.out.1⟩
  have d2 : decide ((1000 : Int) < (s2.size : Int)) = false := decide_eq_false (by omega)
  by_cases he : (putW a).2 = 0
  case neg =>
    have hf := putW_fail he
    have hne : ((putW a).2 != 0) = true := by simpa using he
    generalize (putW a).2 = er at *
    rw [hf] at hP
    dsimp only at hP
    rw [show mk [] = (⟨#[]⟩ : ByteArray) from rfl] at hP
    replace hP := Lib.hid hP
    clear hf he hE hG hz
    unfold msgV at *
    obtain ⟨-, -, -, c0, c1⟩ := hS0.out
    go_enter Tryd.func10, Tryd.ntmps10
    go_wp2_with (first | (simp only [hW0.out]) | (refine wpList_load_row rfl 35 _ rfl w.heap.size rfl 35 (cellsB a) (0, 0) _ hS0.out.2.1 Tryd.underlying35 rfl (by kernel_rfl) ?_))
    refine (hSm.out _ hS0.out).mono ?_
    rintro e W1 ⟨⟨sm, rfl⟩, hB1⟩
    have hS1 := Lib.hid (hS0.out.go hB1)
    clear hB1 c0 c1
    obtain ⟨-, -, -, c0, c1⟩ := hS1.out
    cases sm
    · go_wp2_with fail
      refine (hA.out _ hS1.out).mono ?_
      rintro e W2 ⟨rfl, hB2⟩
      have hS2 := Lib.hid (hS1.out.go hB2)
      clear hB2
      go_wp2
      go_ret
      exact ⟨rfl, hS2.out.1⟩
    · go_wp2_with (refine wpList_load_row rfl 35 _ rfl w.heap.size rfl 35 (cellsB a) (0, 0) _ hS1.out.2.1 Tryd.underlying35 rfl (by kernel_rfl) ?_)
      refine (hP.out _ hS1.out).mono ?_
      rintro e W2 ⟨rfl, hB2⟩
      have hS2 := Lib.hid (hS1.out.go hB2)
      clear hB2
      go_wp2_with fail
      refine (hA.out _ hS2.out).mono ?_
      rintro e W3 ⟨rfl, hB3⟩
      have hS3 := Lib.hid (hS2.out.go hB3)
      clear hB3
      go_wp2
      go_ret
      exact ⟨rfl, hS3.out.1⟩
  case pos =>
    rcases hp : putW a with ⟨x, er⟩
    rw [hp] at hP he
    dsimp only at hP he
    subst he
    obtain ⟨p, rfl⟩ : ∃ p, s1 = mk p := ⟨_, (mk_of s1).symm⟩
    obtain ⟨q, rfl⟩ : ∃ q, s2 = mk q := ⟨_, (mk_of s2).symm⟩
    obtain ⟨hx, hg⟩ := get_of_put hp p q
    have z1 := mk_size p
    have z2 := mk_size q
    have z3 := mk_size x
    have hGt := fun W (h : StB w a (mk p) (mk q) W) => hG (p ++ (x ++ q)) (p.length : Int) (by simp; omega) W h
    rw [hg] at hGt
    dsimp only at hGt
    rw [show mk (p ++ (x ++ q)) = mk p ++ mk x ++ mk q by rw [mk_app, mk_app, List.append_assoc], ← z1, ← z3] at hGt
    have b3 : (mk x).size ≤ 8192 := by omega
    have b4 : (mk p).size ≤ 1000 := by omega
    have b5 : (mk q).size ≤ 1000 := by omega
    have hEE := hE
    replace hP := Lib.hid hP
    replace hGt := Lib.hid hGt
    clear hG hg hp z1 z2 z3 hE hx b1 b2 h1 h2
    generalize mk p = P at *
    generalize mk q = Q at *
    generalize mk x = X at *
    generalize bare a = am at *
    have e1 : (((P.size : Int) + (X.size : Int)) == ((P.size : Int) + (X.size : Int))) = true := by simp
    unfold msgV at hP ⊢
    obtain ⟨-, -, -, c0, c1⟩ := hS0.out
    go_enter Tryd.func10, Tryd.ntmps10
    go_wp2_with (first | (simp only [hW0.out]) | (refine wpList_load_row rfl 35 _ rfl w.heap.size rfl 35 (cellsB a) (0, 0) _ hS0.out.2.1 Tryd.underlying35 rfl (by kernel_rfl) ?_))
    refine (hSm.out _ hS0.out).mono ?_
    rintro e W1 ⟨⟨sm, rfl⟩, hB1⟩
    have hS1 := Lib.hid (hS0.out.go hB1)
    clear hB1 c0 c1
    obtain ⟨-, -, -, c0, c1⟩ := hS1.out
    cases sm
    · go_wp2_with fail
      refine (hA.out _ hS1.out).mono ?_
      rintro e W2 ⟨rfl, hB2⟩
      have hS2 := Lib.hid (hS1.out.go hB2)
      clear hB2
      go_wp2
      go_ret
      exact ⟨rfl, hS2.out.1⟩
    · go_wp2_with (refine wpList_load_row rfl 35 _ rfl w.heap.size rfl 35 (cellsB a) (0, 0) _ hS1.out.2.1 Tryd.underlying35 rfl (by kernel_rfl) ?_)
      refine (hP.out _ hS1.out).mono ?_
      rintro e W2 ⟨rfl, hB2⟩
      have hS2 := Lib.hid (hS1.out.go hB2)
      clear hB2 c0 c1
      obtain ⟨-, -, -, c0, c1⟩ := hS2.out
      go_wp2_with fail
      refine (hGt.out _ hS2.out).mono ?_
      rintro e W3 ⟨v1, v2, rfl, hRow, hB3⟩
      have hS3 := hS2.out.go hB3
      have H1 := Lib.hid (cellsB_one _ hRow.row.one.1 hRow.row.one.2)
      have hEv := fun W hr h => hEE.out v1 v2 W hr h
      have hmv : Hid (msgV (withV am v1 v2) = .agg (cellsB (withV am v1 v2))) := Lib.hid rfl
      rw [hmv.out]
      obtain ⟨mm, hmm⟩ : ∃ mm, withV am v1 v2 = mm := ⟨_, rfl⟩
      rw [hmm] at H1 hEv hRow ⊢
      have hB4 : Below W3.heap.size W3 (W3.alloc (.cells (cellsB mm) 35)) := (Below.refl _ W3).alloc (Nat.le_refl _) _
      have hS4 := Lib.hid (hS3.go hB4)
      have HK4 := Lib.hid (BlkM.new W3 mm)
      have HR4 := Lib.hid ((hRow.row).below hB4)
      have HE := Lib.hid (hEv _ HR4.out hS4.out)
      unfold msgV at HE
      clear hRow hB3 hB4 hmm hmv hEv c0 c1 hS3
      obtain ⟨-, -, -, c0, c1⟩ := hS4.out
      go_wp2_with (first
        | (simp only [hz.out])
        | (refine wpList_store_row rfl 35 _ _ rfl W3.heap.size (cellsB mm) rfl rfl 35 (cellsB noM) (heap_alloc_new W3 _) (by kernel_rfl) rfl H1.out ?_; rw [World.setRow_alloc_new])
        | (refine wpList_gload_row rfl 35 _ rfl W3.heap.size rfl 35 (cellsB mm) (0, 0) _ HK4.out Tryd.underlying35 rfl (by kernel_rfl) ?_)
        | (refine wpList_gload_row rfl 35 _ rfl w.heap.size rfl 35 (cellsB a) (0, 0) _ hS4.out.2.1 Tryd.underlying35 rfl (by kernel_rfl) ?_))
      refine HE.out.mono ?_
      rintro e W5 ⟨rfl, hB5⟩
      have hS5 := Lib.hid (hS4.out.go hB5)
      clear hB5 c0 c1
      go_wp2_with fail
      refine (hA.out _ hS5.out).mono ?_
      rintro e W6 ⟨rfl, hB6⟩
      have hS6 := Lib.hid (hS5.out.go hB6)
      clear hB6
      go_wp2
      go_ret
      exact ⟨rfl, hS6.out.1⟩
end Go.Proofs.YtlfdmbfbfadifaaDoor
