/-
  The consequences, as facts about lists of bytes: a cleaned path settles, Dir and Base rejoin, what is joined nests. No walk in this text.
-/
import Derived.Test.YtoihflkhpbpljaaDoorPk
namespace Go.Proofs.YtoihflkhpbpljaaDoor

/-- A list of elements: its own elements, each a part that is no name of a directory. -/
structure Good (r : Bool) (es : List (List UInt8)) : Prop where
  fix : elemsFrom r [] es = es
  mem : ∀ x ∈ es, okPart x = true ∧ x ≠ [] ∧ x ≠ [46] ∧ (47 : UInt8) ∉ x
theorem Good.drop {r : Bool} {es : List (List UInt8)} (h : Good r es) : Good r es.dropLast := ⟨fixd_drop r es h.fix, fun x hx => h.mem x (List.dropLast_subset _ hx)⟩
theorem good_of {r : Bool} {l : List UInt8} (ha : (pieces l).all okPart = true) : Good r (elemsFrom r [] (pieces l)) := by
  refine ⟨fixd_elems r _ [] rfl, fun x hx => ?_⟩
  rcases elems_mem r _ [] x hx with h | ⟨h, h2, h3⟩
  · simp at h
  · exact ⟨List.all_eq_true.1 ha x h, h2, h3, pieces_noslash l x h⟩
theorem pieces_slash (l : List UInt8) : pieces (47 :: l) = [] :: pieces l := by rw [pieces, if_pos rfl]
theorem elems_skip (r : Bool) (acc ps : List (List UInt8)) (x : List UInt8) (h : x = [] ∨ x = [46]) : elemsFrom r acc (x :: ps) = elemsFrom r acc ps := by rw [elems_cons, stepL_skip h]
/-- The cleaned path has the elements that it was built of. -/
theorem build_back {r : Bool} {es : List (List UInt8)} (h : Good r es) :
    (pieces (buildR r es)).all okPart = true ∧ elemsFrom r [] (pieces (buildR r es)) = es ∧ rootedL (buildR r es) = r ∧ buildR r es ≠ [] := by
  have hall : es.all okPart = true := List.all_eq_true.2 fun x hx => (h.mem x hx).1
  have hns : ∀ x ∈ es, (47 : UInt8) ∉ x := fun x hx => (h.mem x hx).2.2.2
  cases r with
  | true =>
    have hb : buildR true es = 47 :: joinL es := by unfold buildR; simp
    rw [hb, pieces_slash]
    by_cases h0 : es = []
    · subst h0; decide
    · rw [pieces_join es h0 hns, elems_skip _ _ _ _ (.inl rfl), h.fix]
      refine ⟨?_, rfl, rfl, by simp⟩
      rw [List.all_cons, hall]; decide
  | false =>
    by_cases h0 : es = []
    · subst h0; decide
    · have hb : buildR false es = joinL es := by unfold buildR; simp [h0]
      rw [hb, pieces_join es h0 hns, h.fix]
      refine ⟨hall, rfl, ?_⟩
      cases es with
      | nil => exact absurd rfl h0
      | cons x t =>
        obtain ⟨_, hx0, _, hx⟩ := h.mem x (by simp)
        obtain ⟨c, x', rfl⟩ : ∃ c x', x = c :: x' := List.exists_cons_of_ne_nil hx0
        have hc : c ≠ 47 := fun e => hx (by rw [e]; simp)
        have e : ∃ q, joinL ((c :: x') :: t) = c :: q := by
          cases t with
          | nil => exact ⟨x', joinL_one _⟩
          | cons y t => exact ⟨x' ++ 47 :: joinL (y :: t), by rw [joinL_cons2]; rfl⟩
        obtain ⟨q, e⟩ := e
        rw [e]
        refine ⟨?_, by simp⟩
        simp [rootedL, hc]
theorem split_good {l : List UInt8} {es : List (List UInt8)} (h : splitR l = (es, 0)) : Good (rootedL l) es ∧ es.length ≤ 32 ∧ l.length ≤ 1024 ∧ elemsFrom (rootedL l) [] (pieces l) = es ∧ (pieces l).all okPart = true := by
  rcases splitR_cases l with ⟨c, hc, h2⟩ | ⟨es2, h2, he, ha, hl, hb⟩
  · rw [h] at h2; injection h2 with _ h3; exact absurd h3.symm hc
  · rw [h] at h2
    injection h2 with h3
    subst h3
    exact ⟨he ▸ good_of ha, hl, hb, he, ha⟩
theorem splitR_of {l : List UInt8} {es : List (List UInt8)} (h1 : l.length ≤ 1024) (ha : (pieces l).all okPart = true) (he : elemsFrom (rootedL l) [] (pieces l) = es) (hl : es.length ≤ 32) : splitR l = (es, 0) := by
  rw [splitR_end h1 ha, he, if_neg (by omega)]
/-- The cleaned path is no longer than the path, or a dot. -/
theorem build_len {l : List UInt8} {es : List (List UInt8)} (h : splitR l = (es, 0)) : (buildR (rootedL l) es).length ≤ 1024 := by
  obtain ⟨_, _, hb, he, _⟩ := split_good h
  by_cases h0 : es = []
  · subst h0
    unfold buildR
    cases rootedL l <;> simp [joinL, Lib.join_nil]
  · have hj := sumL_join es h0
    cases hr : rootedL l with
    | false =>
      have hs := elems_sum (rootedL l) (pieces l) []
      rw [he, sumL_nil, sumL_pieces] at hs
      unfold buildR
      simp [h0]; omega
    | true =>
      obtain ⟨l', rfl⟩ : ∃ l', l = 47 :: l' := by
        cases l with
        | nil => simp [rootedL] at hr
        | cons c l => exact ⟨l, by simp [rootedL] at hr; rw [hr]⟩
      rw [pieces_slash, elems_skip _ _ _ _ (.inl rfl)] at he
      have hs := elems_sum (rootedL (47 :: l')) (pieces l') []
      rw [he, sumL_nil, sumL_pieces] at hs
      unfold buildR
      simp at hb
      simp; omega
/-- Split of a cleaned path. -/
theorem split_clean {l : List UInt8} {es : List (List UInt8)} (h : splitR l = (es, 0)) : splitR (buildR (rootedL l) es) = (es, 0) ∧ rootedL (buildR (rootedL l) es) = rootedL l := by
  obtain ⟨hg, hl, hb, he, ha⟩ := split_good h
  obtain ⟨b1, b2, b3, _⟩ := build_back hg
  exact ⟨splitR_of (build_len h) b1 (by rw [b3]; exact b2) hl, b3⟩
theorem clean_clean {l : List UInt8} {es : List (List UInt8)} (h : splitR l = (es, 0)) : cleanR (buildR (rootedL l) es) = (buildR (rootedL l) es, 0) := by
  obtain ⟨h1, h2⟩ := split_clean h
  rw [cleanR_ok h1, h2]
theorem rootedL_cons {a b : List UInt8} (h : a ≠ []) : rootedL (a ++ b) = rootedL a := by
  cases a with
  | nil => exact absurd rfl h
  | cons c a => rfl
theorem validL_len {x : List UInt8} (h : validL x = true) : x.length ≤ 64 := by
  unfold validL at h
  rw [Bool.and_eq_true] at h
  exact (of_decide_eq_true h.1).2.1

theorem rejoin {l : List UInt8} {d : List (List UInt8)} {y : List UInt8} (h : splitR l = (d ++ [y], 0)) (hy : y ≠ [46, 46]) : joinR (dirR l) (baseR l) = (buildR (rootedL l) (d ++ [y]), 0) := by
  have hdir : dirR l = buildR (rootedL l) d := by rw [dirR, h, if_neg (by simp)]; simp
  have hbase : baseR l = y := by rw [baseR, h, if_neg (by simp), if_neg (by simp)]; simp
  rw [hdir, hbase]
  obtain ⟨hg, hl, hb, he, ha⟩ := split_good h
  have hgd : Good (rootedL l) d := by have := hg.drop; simpa using this
  obtain ⟨b1, b2, b3, b4⟩ := build_back hgd
  obtain ⟨y1, y2, y3, y4⟩ := hg.mem y (by simp)
  have hyr : rootedL y = false := by
    cases y with
    | nil => rfl
    | cons c t =>
      simp only [List.mem_cons, not_or] at y4
      simp only [rootedL, List.head?_cons]
      rw [Bool.eq_false_iff]; intro e; simp at e; exact y4.1 e.symm
  have hyv : validL y = true := by
    unfold okPart at y1
    rw [Bool.or_eq_true] at y1
    rcases y1 with y1 | y1
    · rcases of_decide_eq_true y1 with e | e | e
      · exact absurd e y2
      · exact absurd e y3
      · exact absurd e hy
    · exact y1
  rw [joinR, if_neg (by rintro (e | e); · exact b4 e
                        · rw [hyr] at e; cases e)]
  have hroot : rootedL (buildR (rootedL l) d ++ 47 :: y) = rootedL l := by rw [rootedL_cons b4, b3]
  have hp : pieces (buildR (rootedL l) d ++ 47 :: y) = pieces (buildR (rootedL l) d) ++ [y] := by rw [pieces_app, pieces_plain y y4]
  have hlen : (buildR (rootedL l) d ++ 47 :: y).length ≤ 1024 := by
    by_cases h0 : d = []
    · subst h0
      have hv := validL_len hyv
      have : (buildR (rootedL l) []).length = 1 := by unfold buildR; cases rootedL l <;> simp [joinL, Lib.join_nil]
      simp; omega
    · have hbl := build_len h
      have e : buildR (rootedL l) d ++ 47 :: y = buildR (rootedL l) (d ++ [y]) := by
        unfold buildR
        cases rootedL l
        · simp [h0, joinL_snoc]
        · simp [h0, joinL_snoc]
      rw [e]; exact hbl
  have hs : splitR (buildR (rootedL l) d ++ 47 :: y) = (d ++ [y], 0) := by
    refine splitR_of hlen ?_ ?_ hl
    · rw [hp, List.all_append, b1]; simp [y1]
    · rw [hroot, hp, elems_snoc, b2, stepL_name ⟨y2, y3, hy⟩]
  rw [cleanR_ok hs, hroot]

theorem names_prefix (r : Bool) (ps : List (List UInt8)) (h : ∀ x ∈ ps, x ≠ [46, 46]) : ∀ acc, acc <+: elemsFrom r acc ps := by
  induction ps with
  | nil => intro acc; exact List.prefix_rfl
  | cons x ps ih =>
    intro acc
    rw [elems_cons]
    refine List.IsPrefix.trans ?_ (ih (fun y hy => h y (by simp [hy])) _)
    by_cases hx : x = [] ∨ x = [46]
    · rw [stepL_skip hx]; exact List.prefix_rfl
    · simp only [not_or] at hx
      rw [stepL_name ⟨hx.1, hx.2, h x (by simp)⟩]
      exact List.prefix_append _ _

theorem nest {t d p : List UInt8} {D es : List (List UInt8)} (hrd : rootedL d = true) (hrp : rootedL p = false) (hup : ∀ x ∈ pieces p, x ≠ [46, 46]) (hd : splitR d = (D, 0)) (hj : splitR (d ++ 47 :: p) = (es, 0)) :
    joinR d p = (buildR true es, 0) ∧ underR d (buildR true es) = true ∧ (underR t d = true → underR t (buildR true es) = true) := by
  have hd0 : d ≠ [] := by rintro rfl; simp [rootedL] at hrd
  have hroot : rootedL (d ++ 47 :: p) = true := by rw [rootedL_cons hd0, hrd]
  obtain ⟨hg, hl, hb, he, ha⟩ := split_good hj
  obtain ⟨_, _, _, heD, _⟩ := split_good hd
  rw [hroot, pieces_app, elems_app] at he
  rw [hrd] at heD
  rw [heD] at he
  have hpre : D <+: es := by rw [← he]; exact names_prefix true _ hup D
  have hsc := split_clean hj
  rw [hroot] at hsc
  have hju : joinR d p = (buildR true es, 0) := by
    rw [joinR, if_neg (by rintro (e | e); · exact hd0 e
                          · rw [hrp] at e; cases e), cleanR_ok hj, hroot]
  refine ⟨hju, ?_, fun h => ?_⟩
  · rw [underR_ok hd hsc.1, hrd, hsc.2]; simpa using hpre
  · unfold underR at h ⊢
    obtain ⟨h1, h2, h3, h4, h5⟩ := of_decide_eq_true h
    rw [hd] at h5
    rw [hsc.1]
    exact decide_eq_true ⟨h1, rfl, h3, hsc.2, h5.trans hpre⟩
end Go.Proofs.YtoihflkhpbpljaaDoor
