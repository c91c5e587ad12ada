/-
  Walks: a node's fields: hasLimits, isRoot, isChild; the reference's fields.
-/
import Derived.Test.YtalhkoolpnmcdaaAe
import Derived.BigFrame
namespace Go.Proofs.Ytalhkoolpnmcdaa
open Go.RowKit

/-- The ints of a node are ints. -/
def inN (n : ND) : Prop := inI n.id ∧ inI n.pa ∧ inI n.ve ∧ inI n.mo ∧ inI n.ti ∧ inI n.mt
/-- The texts of a node are texts. -/
def bigN (n : ND) : Prop := n.nm.length ≤ maxLen ∧ n.ui.length ≤ maxLen ∧ n.gi.length ≤ maxLen ∧ n.mu.length ≤ maxLen ∧ n.da.length ≤ maxLen

/-- A whole struct out of its block, where the operation has a guard that says yes. -/
theorem wpList_gload_row {P : Program} {ops : Array Oper} {rest : List Oper} {o : Oper} {a : Act} {w : World} {Q : Exit → Act → World → Prop} (hw : Region.wanted o (yielded ops a.tmps) = true) (ty : TypeId) (x : Operand) (ho : o.op = .load ty x)
    (g : Nat) (hx : a.eval x = .pointer (some ⟨g, 0, none⟩)) (t : TypeId) (cs : Array Value) (fr : Nat × Nat) (d : TypeDesc) (hg : w.heap[g]? = some (.cells cs t fr))
    (hu : P.underlying ty = some d) (hd : (match d with | .struct _ | .array _ _ => true | _ => false) = true) (hi : (P.info? ty).map (·.size) = some cs.size)
    (h : wpList P ops Q rest (a.put o.dst (.agg cs)) w) : wpList P ops Q (o :: rest) a w :=
  BigFrame.wpList_want hw fun _ hK => wp_load_row ty x ho g hx t cs fr d hg hu hd hi (hK _ _ h)
theorem fields_eq (n : ND) : ∀ b0 b3 b4 b5 b6 b7, modeB n.mo = b0 → timeB n.ti = b3 → timeB n.mt = b4 → decide (n.ui.length ≤ 64) = b5 → decide (n.gi.length ≤ 64) = b6 → decide (n.mu.length ≤ 64) = b7 →
    fieldsB n = (b0 && (decide (0 ≤ n.ve) && (decide (n.ve ≤ 2147483647) && (b3 && (b4 && (b5 && (b6 && (b7 && decide ((mk n.da).size ≤ (if dbit n.mo = true then 0 else 65536)))))))))) := by
  rintro _ _ _ _ _ _ rfl rfl rfl rfl rfl rfl
  rw [Bool.eq_iff_iff, fieldsB_iff]
  simp only [Bool.and_eq_true, decide_eq_true_eq, timeB]
  rw [mk_size]
  by_cases hm : modeB n.mo = true
  · have hd := dbit_dir hm
    rw [hd]
    cases hdd : dirB n.mo
    · simp
      omega
    · simp
      intro h0 h1 h2
      constructor
      · rintro ⟨h3, h4, h5, h6, h7, h8, h9, h10, h11⟩
        exact ⟨⟨h3, h4⟩, ⟨h5, h6⟩, h7, h8, h9, h11⟩
      · rintro ⟨⟨h3, h4⟩, ⟨h5, h6⟩, h7, h8, h9, e⟩
        exact ⟨h3, h4, h5, h6, h7, h8, h9, by rw [e]; simp, e⟩
  · simp [hm]

set_option maxRecDepth 100000 in
set_option maxHeartbeats 6400000 in
theorem hasLimits_any (n : ND) (hn : inN n) (hb : bigN n) (w : World) :
    Calls Try.prog 40 #[nodeV n] w fun e w' => e = .returned (.bool (fieldsB n)) ∧ Below w.heap.size w w' := by
  unfold nodeV
  have HB0 := Lib.hid (fun ca => (Below.refl _ w).alloc (Nat.le_refl _) (.cells ca 31))
  have c0 := Lib.hid (fun W => isMode_any n.mo hn.2.2.2.1 W)
  have cd := Lib.hid (fun W => isDir_any n.mo W)
  have c3 := Lib.hid (fun W => isTime_any n.ti W)
  have c4 := Lib.hid (fun W => isTime_any n.mt W)
  have c5 := Lib.hid (fun W => isShort_any n.ui W)
  have c6 := Lib.hid (fun W => isShort_any n.gi W)
  have c7 := Lib.hid (fun W => isShort_any n.mu W)
  have HR := Lib.hid (fields_eq n _ _ _ _ _ _ rfl rfl rfl rfl rfl rfl)
  generalize fieldsB n = res at HR ⊢
  have x0 : (cellsA n)[2]? = some (.int .i64 n.ve) := rfl
  have x1 : (cellsA n)[4]? = some (.int .i64 n.mo) := rfl
  have x2 : (cellsA n)[5]? = some (.string (mk n.ui)) := rfl
  have x3 : (cellsA n)[6]? = some (.string (mk n.gi)) := rfl
  have x4 : (cellsA n)[7]? = some (.string (mk n.mu)) := rfl
  have x5 : (cellsA n)[8]? = some (.int .i64 n.ti) := rfl
  have x6 : (cellsA n)[9]? = some (.int .i64 n.mt) := rfl
  have x7 : (cellsA n)[10]? = some (.string (mk n.da)) := rfl
  have y7 := hb.2.2.2.2
  rw [← mk_size] at y7
  unfold maxLen at y7
  clear hn hb
  generalize cellsA n = ca at *
  generalize timeB n.ti = b3 at *
  generalize timeB n.mt = b4 at *
  generalize decide (n.ui.length ≤ 64) = b5 at *
  generalize decide (n.gi.length ≤ 64) = b6 at *
  generalize decide (n.mu.length ≤ 64) = b7 at *
  generalize modeB n.mo = b0 at *
  generalize dbit n.mo = bd at *
  generalize n.mo = mo at *
  generalize n.ve = ve at *
  generalize n.ti = ti at *
  generalize n.mt = mt at *
  generalize n.ui = ui at *
  generalize n.gi = gi at *
  generalize n.mu = mu at *
  generalize n.da = da at *
  cases bd
  all_goals
    go_enter Try.func40, Try.ntmps40
    go_wp2_with (first
      | (go_at_call 74; with_reducible refine (c0.out _).mono ?_; rintro e w' ⟨rfl, rfl⟩)
      | (go_at_call 41; with_reducible refine (cd.out _).mono ?_; rintro e w' ⟨rfl, rfl⟩)
      | (go_at_call 75; first | (with_reducible refine (c3.out _).mono ?_; rintro e w' ⟨rfl, rfl⟩) | (with_reducible refine (c4.out _).mono ?_; rintro e w' ⟨rfl, rfl⟩))
      | (go_at_call 72; first | (with_reducible refine (c5.out _).mono ?_; rintro e w' ⟨rfl, rfl⟩) | (with_reducible refine (c6.out _).mono ?_; rintro e w' ⟨rfl, rfl⟩) | (with_reducible refine (c7.out _).mono ?_; rintro e w' ⟨rfl, rfl⟩)))
  all_goals (go_ret; clear c0 cd c3 c4 c5 c6 c7 x0 x1 x2 x3 x4 x5 x6 x7; rw [HR.out]; refine ⟨retb ?_, HB0.out _⟩; clear HR HB0; simp_all <;> (first | omega | (intros; omega)))

theorem rootB_eq (n : ND) : ∀ bd bf, dbit n.mo = bd → fieldsB n = bf → (decide (n.id = 1 ∧ n.pa = 1 ∧ n.nm = [47]) && (dirB n.mo && fieldsB n)) = ((n.id == 1) && ((n.pa == 1) && (((mk n.nm).toList == [47]) && (bd && bf)))) := by
  rintro _ _ rfl rfl
  rw [mk_toList]
  by_cases h : fieldsB n = true
  · rw [h, dbit_dir (fieldsB_iff.1 h).1, Bool.eq_iff_iff]
    simp [and_assoc]
  · have h' : fieldsB n = false := by simpa using h
    rw [h']; simp
def rootB (n : ND) : Bool := decide (n.id = 1 ∧ n.pa = 1 ∧ n.nm = [47]) && (dirB n.mo && fieldsB n)
set_option maxRecDepth 100000 in
set_option maxHeartbeats 6400000 in
theorem isRoot_any (n : ND) (hn : inN n) (hb : bigN n) (w : World) :
    Calls Try.prog 38 #[nodeV n] w fun e w' => e = .returned (.bool (rootB n)) ∧ Below w.heap.size w w' := by
  have HB0 := Lib.hid (fun ca => (Below.refl _ w).alloc (Nat.le_refl _) (.cells ca 31))
  have cd := Lib.hid (fun W => isDir_any n.mo W)
  have c0 := Lib.hid (fun W => hasLimits_any n hn hb W)
  have HR := rootB_eq n _ _ rfl rfl
  rw [show (decide (n.id = 1 ∧ n.pa = 1 ∧ n.nm = [47]) && (dirB n.mo && fieldsB n)) = rootB n from rfl] at HR
  replace HR := Lib.hid HR
  unfold nodeV at c0 ⊢
  generalize rootB n = res at HR ⊢
  have x0 : (cellsA n)[0]? = some (.int .i64 n.id) := rfl
  have x1 : (cellsA n)[1]? = some (.int .i64 n.pa) := rfl
  have x3 : (cellsA n)[3]? = some (.string (mk n.nm)) := rfl
  have x4 : (cellsA n)[4]? = some (.int .i64 n.mo) := rfl
  have hsz := Lib.hid (cellsA_size n)
  clear hn hb
  generalize cellsA n = ca at *
  generalize fieldsB n = bf at *
  generalize dbit n.mo = bd at *
  generalize n.mo = mo at *
  generalize n.id = id at *
  generalize n.pa = pa at *
  generalize n.nm = nm at *
  have HK := Lib.hid (heap_alloc_new w (.cells ca 31 (0, 0)))
  cases h1 : (id == 1) <;> cases h2 : (pa == 1) <;> cases h3 : ((mk nm).toList == [47]) <;> cases bd
  all_goals
    go_enter Try.func38, Try.ntmps38
    go_wp2_with (first
      | (go_at_call 40; with_reducible refine (c0.out _).mono ?_; rintro e w' ⟨rfl, hB1⟩; have HB1 := Lib.hid ((HB0.out ca).trans (hB1.mono (by simp))); clear hB1)
      | (go_at_call 41; with_reducible refine (cd.out _).mono ?_; rintro e w' ⟨rfl, rfl⟩)
      | (refine wpList_gload_row (by rfl) 31 _ rfl w.heap.size rfl 31 ca (0, 0) _ HK.out Try.underlying31 rfl (by rw [hsz.out]; kernel_rfl) ?_))
    go_ret
    rw [HR.out, h1, h2, h3]
    first
      | exact ⟨rfl, HB0.out ca⟩
      | exact ⟨retb (by simp), HB1.out⟩
end Go.Proofs.Ytalhkoolpnmcdaa
