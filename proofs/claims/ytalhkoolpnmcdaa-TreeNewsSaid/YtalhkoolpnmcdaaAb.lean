/-
  Valid trees stay valid. No walk in this text.
-/
import Derived.Test.YtalhkoolpnmcdaaAa
namespace Go.Proofs.Ytalhkoolpnmcdaa
open Go.RowKit

theorem Vld.uniq {nx : Int} {L : List ND} (h : Vld nx L) {a b : ND} (ha : a ∈ L) (hb : b ∈ L) (e : a.id = b.id) : a = b := by
  obtain ⟨i, hi, rfl⟩ := List.getElem_of_mem ha
  obtain ⟨j, hj, rfl⟩ := List.getElem_of_mem hb
  have hs := List.pairwise_iff_getElem.1 h.sort
  rcases Nat.lt_trichotomy i j with hl | rfl | hl
  · have := hs i j hi hj hl; omega
  · rfl
  · have := hs j i hj hi hl; omega
theorem Vld.ne {nx : Int} {L : List ND} (h : Vld nx L) : 0 < L.length := by
  obtain ⟨r, R, rfl, _⟩ := h.root; simp
theorem Vld.root_mem {nx : Int} {L : List ND} (h : Vld nx L) : ∃ r ∈ L, r.id = 1 ∧ r.pa = 1 ∧ r.nm = [47] ∧ dirB r.mo = true := by
  obtain ⟨r, R, rfl, h1⟩ := h.root; exact ⟨r, by simp, h1⟩
theorem Vld.pos {nx : Int} {L : List ND} (h : Vld nx L) {n : ND} (hn : n ∈ L) : 1 ≤ n.id ∧ (n.id ≠ 1 → 1 < n.id) ∧ n.id < nx ∧ nx ≤ 1048576 := by
  obtain ⟨r, R, rfl, h1, _⟩ := h.root
  have h3 := h.ids n hn
  have h4 := h.nxt
  rcases List.mem_cons.1 hn with rfl | hR
  · omega
  · have := (List.pairwise_cons.1 h.sort).1 n hR
    omega
theorem Vld.one {nx : Int} {L : List ND} (h : Vld nx L) {n : ND} (hn : n ∈ L) (e : n.id = 1) : n.pa = 1 ∧ n.nm = [47] ∧ dirB n.mo = true := by
  obtain ⟨r, hr, h1, h2, h3, h4⟩ := h.root_mem
  have := h.uniq hn hr (by omega)
  subst this
  exact ⟨h2, h3, h4⟩
theorem Vld.node {nx : Int} {L : List ND} (h : Vld nx L) {n : ND} (hn : n ∈ L) : nodeN L n.id = n := h.uniq (nodeN_mem (hasN_of hn)) hn (nodeN_id (hasN_of hn))
/-- The parent stands in the tree and is a directory. -/
theorem Vld.parent {nx : Int} {L : List ND} (h : Vld nx L) {n : ND} (hn : n ∈ L) : ∃ p ∈ L, p.id = n.pa ∧ dirB p.mo = true := by
  by_cases e : n.id = 1
  · obtain ⟨r, hr, h1, h2, h3, h4⟩ := h.root_mem
    exact ⟨r, hr, by rw [(h.one hn e).1, h1], h4⟩
  · exact (h.par n hn e).2.2

theorem fieldsB_iff {n : ND} : fieldsB n = true ↔ modeB n.mo = true ∧ (0 ≤ n.ve ∧ n.ve ≤ 2147483647 ∧ 0 ≤ n.ti ∧ n.ti ≤ 1099511627776 ∧ 0 ≤ n.mt ∧ n.mt ≤ 1099511627776 ∧ n.ui.length ≤ 64 ∧ n.gi.length ≤ 64 ∧ n.mu.length ≤ 64 ∧ n.da.length ≤ 65536 ∧ (dirB n.mo = true → n.da = [])) := by
  unfold fieldsB
  rw [Bool.and_eq_true, decide_eq_true_iff]

/-- Nodes changed one by one. -/
theorem Vld.map {nx : Int} {L : List ND} (h : Vld nx L) (g : ND → ND) (hg : ∀ n ∈ L, (g n).id = n.id ∧ (g n).pa = n.pa ∧ dirB (g n).mo = dirB n.mo ∧ fieldsB (g n) = true ∧ (n.id ≠ 1 → validL (g n).nm = true) ∧ (n.id = 1 → (g n).nm = n.nm))
    (hu : L.Pairwise (fun a b => a.id ≠ 1 → b.id ≠ 1 → a.pa = b.pa → (g a).nm = (g b).nm → False)) : Vld nx (L.map g) := by
  refine ⟨by simpa using h.len, h.nxt, ?_, ?_, ?_, ?_, ?_, ?_⟩
  · obtain ⟨r, R, rfl, h1, h2, h3, h4⟩ := h.root
    obtain ⟨a, b, c, d, e, f⟩ := hg r (by simp)
    exact ⟨g r, R.map g, rfl, by omega, by omega, by rw [f h1, h3], by rw [c, h4]⟩
  · rw [List.pairwise_map]
    refine List.Pairwise.imp_of_mem (fun {a b} ha hb hab => ?_) h.sort
    rw [(hg a ha).1, (hg b hb).1]; exact hab
  · intro n hn
    obtain ⟨m, hm, rfl⟩ := List.mem_map.1 hn
    rw [(hg m hm).1]; exact h.ids m hm
  · intro n hn
    obtain ⟨m, hm, rfl⟩ := List.mem_map.1 hn
    exact (hg m hm).2.2.2.1
  · intro n hn h1
    obtain ⟨m, hm, rfl⟩ := List.mem_map.1 hn
    obtain ⟨a, b, c, d, e, f⟩ := hg m hm
    rw [a] at h1
    obtain ⟨p1, p2, p, hp, p3, p4⟩ := h.par m hm h1
    refine ⟨by omega, e h1, g p, List.mem_map.2 ⟨p, hp, rfl⟩, ?_, ?_⟩
    · rw [(hg p hp).1, b]; exact p3
    · rw [(hg p hp).2.2.1]; exact p4
  · rw [List.pairwise_map]
    refine List.Pairwise.imp_of_mem (fun {a b} ha hb hab => ?_) hu
    rw [(hg a ha).1, (hg b hb).1, (hg a ha).2.1, (hg b hb).2.1]; exact hab
/-- Nodes changed but for their names. -/
theorem Vld.edit {nx : Int} {L : List ND} (h : Vld nx L) (id : Int) (f : ND → ND) (hf : ∀ n ∈ L, n.id = id → (f n).id = n.id ∧ (f n).pa = n.pa ∧ (f n).nm = n.nm ∧ dirB (f n).mo = dirB n.mo ∧ fieldsB (f n) = true) : Vld nx (edT L id f) := by
  unfold edT
  have hn : ∀ n ∈ L, (if n.id = id then f n else n).nm = n.nm := fun n hn => by
    split
    · rename_i e; exact (hf n hn e).2.2.1
    · rfl
  refine h.map _ (fun n hn' => ?_) ?_
  · have e2 := hn n hn'
    have hv : n.id ≠ 1 → validL n.nm = true := fun e => (h.par n hn' e).2.1
    rw [e2]
    by_cases e : n.id = id
    · obtain ⟨a, b, c, d, x⟩ := hf n hn' e
      rw [if_pos e]
      exact ⟨a, b, d, x, hv, fun _ => rfl⟩
    · rw [if_neg e]
      exact ⟨rfl, rfl, rfl, h.fld n hn', hv, fun _ => rfl⟩
  · refine List.Pairwise.imp_of_mem (fun {a b} ha hb hab => ?_) h.uni
    rw [hn a ha, hn b hb]; exact hab

theorem verI_in {v : Int} (h : 0 ≤ v ∧ v ≤ 2147483647) : 0 ≤ verI v ∧ verI v ≤ 2147483647 := by unfold verI; split <;> omega
theorem touchN_fld {n : ND} (h : fieldsB n = true) (uid : List UInt8) (now : Int) : fieldsB (touchN uid now n) = true := by
  rw [fieldsB_iff] at h ⊢
  obtain ⟨h0, h1, h2, h3, h4, h5, h6, h7, h8, h9, h10, h11⟩ := h
  have := verI_in ⟨h1, h2⟩
  have t := timeI_in now
  have s := shortL_len uid
  exact ⟨h0, this.1, this.2, h3, h4, t.1, t.2, h7, h8, s, h10, h11⟩
theorem dataN_fld {n : ND} (h : fieldsB n = true) {s : List UInt8} (hd : dirB n.mo = false) (hs : s.length ≤ 65536) : fieldsB (dataN s n) = true := by
  rw [fieldsB_iff] at h ⊢
  obtain ⟨h0, h1, h2, h3, h4, h5, h6, h7, h8, h9, h10, h11⟩ := h
  exact ⟨h0, h1, h2, h3, h4, h5, h6, h7, h8, h9, hs, fun e => by simp only [dataN] at e; rw [hd] at e; cases e⟩
theorem nameN_fld {n : ND} (h : fieldsB n = true) (s : List UInt8) : fieldsB (nameN s n) = true := h
theorem Vld.touch {nx : Int} {L : List ND} (h : Vld nx L) (id : Int) (uid : List UInt8) (now : Int) : Vld nx (edT L id (touchN uid now)) :=
  h.edit id _ fun n hn _ => ⟨rfl, rfl, rfl, rfl, touchN_fld (h.fld n hn) uid now⟩
theorem Vld.put {nx : Int} {L : List ND} (h : Vld nx L) {id : Int} (hf : fileE L id = 0) {s : List UInt8} (hs : s.length ≤ 65536) (uid : List UInt8) (now : Int) : Vld nx (edT L id (fun n => touchN uid now (dataN s n))) := by
  have hd : hasN L id = true ∧ dirB (nodeN L id).mo = false := by
    unfold fileE at hf
    split at hf
    · omega
    · rename_i h1
      split at hf
      · omega
      · rename_i h2
        exact ⟨by simpa using h1, by simpa using h2⟩
  refine h.edit id _ fun n hn e => ?_
  have hnn : nodeN L id = n := by rw [← e]; exact h.node hn
  rw [hnn] at hd
  exact ⟨rfl, rfl, rfl, rfl, touchN_fld (dataN_fld (h.fld n hn) hd.2 hs) uid now⟩

theorem Vld.snoc {nx : Int} {L : List ND} (h : Vld nx L) {n : ND} (h1 : n.id = nx) (h2 : ∃ p ∈ L, p.id = n.pa ∧ dirB p.mo = true) (h3 : validL n.nm = true) (h4 : fieldsB n = true)
    (h5 : ∀ m ∈ L, m.id ≠ 1 → m.pa = n.pa → m.nm = n.nm → False) (h6 : L.length < 1024) (h7 : nx < 1048576) : Vld (nx + 1) (L ++ [n]) := by
  have hnx : 1 < nx := by obtain ⟨r, hr, e, _⟩ := h.root_mem; have := h.ids r hr; omega
  refine ⟨by simp; omega, by omega, ?_, ?_, ?_, ?_, ?_, ?_⟩
  · obtain ⟨r, R, rfl, k⟩ := h.root
    exact ⟨r, R ++ [n], by simp, k⟩
  · rw [List.pairwise_append]
    refine ⟨h.sort, by simp, fun a ha b hb => ?_⟩
    simp only [List.mem_singleton] at hb
    subst hb
    rw [h1]; exact h.ids a ha
  · intro m hm
    rcases List.mem_append.1 hm with hm | hm
    · have := h.ids m hm; omega
    · simp only [List.mem_singleton] at hm; subst hm; omega
  · intro m hm
    rcases List.mem_append.1 hm with hm | hm
    · exact h.fld m hm
    · simp only [List.mem_singleton] at hm; subst hm; exact h4
  · intro m hm hne
    rcases List.mem_append.1 hm with hm | hm
    · obtain ⟨p1, p2, p, hp, p3⟩ := h.par m hm hne
      exact ⟨p1, p2, p, List.mem_append_left _ hp, p3⟩
    · simp only [List.mem_singleton] at hm
      subst hm
      obtain ⟨p, hp, p3, p4⟩ := h2
      have := h.ids p hp
      exact ⟨by omega, h3, p, List.mem_append_left _ hp, p3, p4⟩
  · rw [List.pairwise_append]
    refine ⟨h.uni, by simp, fun a ha b hb => ?_⟩
    simp only [List.mem_singleton] at hb
    subst hb
    intro e1 _ e3 e4
    exact h5 a ha e1 e3 e4
theorem Vld.drop {nx : Int} {L : List ND} (h : Vld nx L) {id : Int} (h1 : id ≠ 1) (h2 : ∀ n ∈ L, kidB n id = false) : Vld nx (L.filter (fun n => n.id != id)) := by
  refine ⟨Nat.le_trans (List.length_filter_le _ _) h.len, h.nxt, ?_, h.sort.filter _, fun n hn => h.ids n (List.mem_filter.1 hn).1, fun n hn => h.fld n (List.mem_filter.1 hn).1, ?_, h.uni.filter _⟩
  · obtain ⟨r, R, rfl, k⟩ := h.root
    refine ⟨r, R.filter (fun n => n.id != id), ?_, k⟩
    rw [List.filter_cons, if_pos]
    rw [k.1]; simpa using fun e => h1 e.symm
  · intro n hn hne
    have hn' := (List.mem_filter.1 hn).1
    obtain ⟨p1, p2, p, hp, p3, p4⟩ := h.par n hn' hne
    refine ⟨p1, p2, p, List.mem_filter.2 ⟨hp, ?_⟩, p3, p4⟩
    have := h2 n hn'
    unfold kidB at this
    rw [Bool.and_eq_false_iff] at this
    rcases this with e | e
    · rw [p3]; simpa using e
    · simp at e; exact absurd e hne

/-! ### The children's names -/
theorem hasC_iff {L : List ND} {d : Int} {x : List UInt8} : hasC L d x = true ↔ ∃ n ∈ L, n.nm = x ∧ n.pa = d ∧ n.id ≠ 1 := by
  unfold hasC posC
  rw [decide_eq_true_iff, List.findIdx_lt_length]
  simp [kidB]
theorem edT_has {L : List ND} {id : Int} {f : ND → ND} (hf : ∀ n, (f n).id = n.id) (k : Int) : hasN (edT L id f) k = hasN L k := by
  rw [Bool.eq_iff_iff, hasN_iff, hasN_iff]
  unfold edT
  constructor
  · rintro ⟨n, hn, rfl⟩
    obtain ⟨m, hm, rfl⟩ := List.mem_map.1 hn
    exact ⟨m, hm, by split <;> simp [hf]⟩
  · rintro ⟨n, hn, rfl⟩
    exact ⟨_, List.mem_map.2 ⟨n, hn, rfl⟩, by split <;> simp [hf]⟩
theorem edT_len (L : List ND) (id : Int) (f : ND → ND) : (edT L id f).length = L.length := by simp [edT]

/-! ### The calls -/
theorem newT_vld (uid : List UInt8) (perm now : Int) : Vld 2 [rootN uid perm now] := by
  refine ⟨by simp, by decide, ⟨_, [], rfl, rfl, rfl, rfl, ?_⟩, by simp, by simp [rootN], ?_, by simp [rootN], by simp⟩
  · unfold dirB rootN; simp; omega
  · intro n hn
    simp only [List.mem_singleton] at hn
    subst hn
    rw [fieldsB_iff]
    have t := timeI_in now
    have s := shortL_len uid
    refine ⟨?_, by simp [rootN], by simp [rootN], t.1, t.2, t.1, t.2, s, s, s, by simp [rootN], fun _ => rfl⟩
    unfold modeB rootN
    simp only [decide_eq_true_eq]
    omega
theorem create_vld {t : TT} (h : Vld t.1 t.2) (d : Int) (x : List UInt8) (mode : Int) (uid gid : List UInt8) (now : Int) : Vld (createT t d x mode uid gid now).1.1 (createT t d x mode uid gid now).1.2 := by
  unfold createT
  split
  · exact h
  rename_i h1
  split
  · exact h
  rename_i h2
  split
  · exact h
  rename_i h3
  split
  · exact h
  rename_i h4
  split
  · exact h
  rename_i h5
  split
  · exact h
  rename_i h6
  have h1' : hasN t.2 d = true := by simpa using h1
  have hd := nodeN_mem h1'
  have hid := nodeN_id h1'
  refine (h.touch d uid now).snoc rfl ?_ (by show validL x = true; simpa using h3) ?_ ?_ (by rw [edT_len]; omega) (by omega)
  · exact ⟨touchN uid now (nodeN t.2 d), List.mem_map.2 ⟨_, hd, by rw [if_pos hid]⟩, hid, by simpa [touchN] using h2⟩
  · rw [fieldsB_iff]
    have t := timeI_in now
    have s := shortL_len uid
    have s' := shortL_len gid
    exact ⟨by simpa [freshN] using h4, by simp [freshN], by simp [freshN], t.1, t.2, t.1, t.2, s, s', s, by simp [freshN], fun _ => rfl⟩
  · intro m hm hne hpa hnm
    obtain ⟨n, hn, rfl⟩ := List.mem_map.1 hm
    apply h5
    rw [hasC_iff]
    refine ⟨n, hn, ?_⟩
    split at hne <;> rename_i e
    · rw [if_pos e] at hpa hnm; exact ⟨hnm, hpa, hne⟩
    · rw [if_neg e] at hpa hnm; exact ⟨hnm, hpa, hne⟩
theorem remove_vld {t : TT} (h : Vld t.1 t.2) (id : Int) (uid : List UInt8) (now : Int) : Vld (removeT t id uid now).1.1 (removeT t id uid now).1.2 := by
  unfold removeT
  split
  · exact h
  split
  · exact h
  rename_i h2
  split
  · exact h
  rename_i h3
  refine (h.touch _ uid now).drop h2 (fun n hn => ?_)
  obtain ⟨m, hm, rfl⟩ := List.mem_map.1 hn
  have : kidB m id = false := by
    simp only [List.any_eq_true, not_exists, not_and] at h3
    simpa using h3 m hm
  split <;> exact this
theorem zerosL_len (n : Nat) : (zerosL n).length = n := by simp [zerosL]
theorem resL_len (old : List UInt8) (n : Nat) : (resL old n).length = n := by
  unfold resL; rw [List.length_append, zerosL_len, List.length_take]; omega
theorem overL_len (old : List UInt8) (p : Nat) (s : List UInt8) : (overL old p s).length = max (p + s.length) old.length := by
  unfold overL; rw [List.length_append, List.length_append, resL_len, List.length_drop]; omega
theorem file_data {t : TT} (h : Vld t.1 t.2) {id : Int} (hf : fileE t.2 id = 0) : hasN t.2 id = true ∧ dirB (nodeN t.2 id).mo = false ∧ (nodeN t.2 id).da.length ≤ 65536 := by
  unfold fileE at hf
  split at hf
  · omega
  · rename_i h1
    split at hf
    · omega
    · rename_i h2
      have h1' : hasN t.2 id = true := by simpa using h1
      have := h.fld _ (nodeN_mem h1')
      rw [fieldsB_iff] at this
      exact ⟨h1', by simpa using h2, this.2.2.2.2.2.2.2.2.2.2.1⟩
theorem write_vld {t : TT} (h : Vld t.1 t.2) (id off : Int) (s uid : List UInt8) (now : Int) : Vld (writeT t id off s uid now).1.1 (writeT t id off s uid now).1.2 := by
  unfold writeT
  split
  · exact h
  rename_i h1
  split
  · exact h
  rename_i h2
  split
  · exact h
  split
  · exact h
  rename_i h4
  have h1' : fileE t.2 id = 0 := by simpa using h1
  obtain ⟨a, b, c⟩ := file_data h h1'
  refine h.put h1' ?_ uid now
  rw [overL_len]
  have : 0 ≤ placeI (nodeN t.2 id) off := by unfold placeI; split <;> omega
  omega
theorem resize_vld {t : TT} (h : Vld t.1 t.2) (id len : Int) (uid : List UInt8) (now : Int) : Vld (resizeT t id len uid now).1.1 (resizeT t id len uid now).1.2 := by
  unfold resizeT
  split
  · exact h
  rename_i h1
  split
  · exact h
  split
  · exact h
  split
  · exact h
  exact h.put (by simpa using h1) (by rw [resL_len]; omega) uid now
theorem rename_vld {t : TT} (h : Vld t.1 t.2) (id : Int) (x uid : List UInt8) (now : Int) : Vld (renameT t id x uid now).1.1 (renameT t id x uid now).1.2 := by
  unfold renameT
  split
  · exact h
  rename_i h1
  split
  · exact h
  rename_i h2
  split
  · exact h
  rename_i h3
  split
  · exact h
  rename_i h4
  split
  · exact h
  rename_i h5
  have h1' : hasN t.2 id = true := by simpa using h1
  have h3' : validL x = true := by simpa using h3
  have hT := h.touch (nodeN t.2 id).pa uid now
  have hno : ∀ m ∈ edT t.2 (nodeN t.2 id).pa (touchN uid now), m.id ≠ 1 → m.pa = (nodeN t.2 id).pa → m.nm = x → False := by
    intro m hm e1 e2 e3
    obtain ⟨n, hn, rfl⟩ := List.mem_map.1 hm
    apply h5
    rw [hasC_iff]
    refine ⟨n, hn, ?_⟩
    split at e1 <;> rename_i e
    · rw [if_pos e] at e2 e3; exact ⟨e3, e2, e1⟩
    · rw [if_neg e] at e2 e3; exact ⟨e3, e2, e1⟩
  have hpa : ∀ m ∈ edT t.2 (nodeN t.2 id).pa (touchN uid now), m.id = id → m.pa = (nodeN t.2 id).pa := by
    intro m hm e1
    obtain ⟨n, hn, rfl⟩ := List.mem_map.1 hm
    have e2 : n.id = id := by split at e1 <;> simpa [touchN] using e1
    have e3 : nodeN t.2 id = n := by rw [← e2]; exact h.node hn
    rw [e3]
    split <;> rfl
  dsimp only
  generalize edT t.2 (nodeN t.2 id).pa (touchN uid now) = M at hT hno hpa ⊢
  generalize (nodeN t.2 id).pa = q at hno hpa
  unfold edT
  refine hT.map _ (fun n hn => ?_) ?_
  · by_cases e : n.id = id
    · rw [if_pos e]
      exact ⟨rfl, rfl, rfl, nameN_fld (hT.fld n hn) x, fun _ => h3', fun e1 => absurd (e.symm.trans e1) h2⟩
    · rw [if_neg e]
      exact ⟨rfl, rfl, rfl, hT.fld n hn, fun e1 => (hT.par n hn e1).2.1, fun _ => rfl⟩
  · refine List.Pairwise.imp_of_mem (fun {a b} ha hb hab => ?_) (hT.sort.and hT.uni)
    intro e1 e2 e3 e4
    by_cases ea : a.id = id
    · have eb : b.id ≠ id := by have := hab.1; omega
      rw [if_pos ea, if_neg eb] at e4
      exact hno b hb e2 (by rw [← e3]; exact hpa a ha ea) e4.symm
    · by_cases eb : b.id = id
      · rw [if_neg ea, if_pos eb] at e4
        exact hno a ha e1 (by rw [e3]; exact hpa b hb eb) e4
      · rw [if_neg ea, if_neg eb] at e4
        exact hab.2 e1 e2 e3 e4
theorem attrs_vld {t : TT} (h : Vld t.1 t.2) (id mode : Int) (gid : List UInt8) (mtime : Int) : Vld (attrsT t id mode gid mtime).1.1 (attrsT t id mode gid mtime).1.2 := by
  unfold attrsT
  split
  · exact h
  rename_i h1
  split
  · exact h
  rename_i h2
  split
  · exact h
  rename_i h3
  have h1' : hasN t.2 id = true := by simpa using h1
  refine h.edit id _ fun n hn e => ?_
  have hnn : nodeN t.2 id = n := by rw [← e]; exact h.node hn
  rw [hnn] at h2
  have hf := h.fld n hn
  have hm : modeB (if mode = -1 then n.mo else mode) = true ∧ dirB (if mode = -1 then n.mo else mode) = dirB n.mo := by
    split
    · exact ⟨(fieldsB_iff.1 hf).1, rfl⟩
    · rename_i hk
      by_cases a : modeB mode = true
      · by_cases b : dirB mode = dirB n.mo
        · exact ⟨a, b⟩
        · exact absurd ⟨hk, .inr b⟩ h2
      · exact absurd ⟨hk, .inl (by simpa using a)⟩ h2
  refine ⟨rfl, rfl, rfl, hm.2, ?_⟩
  rw [fieldsB_iff] at hf ⊢
  obtain ⟨h0, k1, k2, k3, k4, k5, k6, k7, k8, k9, k10, k11⟩ := hf
  have s := shortL_len gid
  refine ⟨hm.1, k1, k2, k3, k4, ?_, ?_, k7, ?_, k9, k10, fun e => k11 (by rw [← hm.2]; exact e)⟩
  · simp only [attrN]; split <;> omega
  · simp only [attrN]; split <;> omega
  · simp only [attrN]; split <;> omega
end Go.Proofs.Ytalhkoolpnmcdaa
