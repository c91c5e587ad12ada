/-
  Trees of files as lists of nodes: plain functions and lemmas. No walk in this text.
-/
import Derived.Test.YtalhkoolpnmcdaaPa
import Derived.Lib.Hide
import Derived.WalkKit
namespace Go.Proofs.Ytalhkoolpnmcdaa
open Go.RowKit

def inI (n : Int) : Prop := -9223372036854775808 ≤ n ∧ n ≤ 9223372036854775807
theorem inI_of_wf {n : Int} (h : (Lit.int .i64 n).wf = true) : inI n := by
  simpa [Lit.wf, IntKind.min, IntKind.max, IntKind.signed, IntKind.bits, inI] using h
theorem ret1 {k : IntKind} {a b : Int} (h : a = b) : Ending.returned (.int k a) = .returned (.int k b) := by rw [h]
theorem retb {a b : Bool} (h : a = b) : Ending.returned (.bool a) = .returned (.bool b) := by rw [h]

structure ND where
  id : Int
  pa : Int
  ve : Int
  nm : List UInt8
  mo : Int
  ui : List UInt8
  gi : List UInt8
  mu : List UInt8
  ti : Int
  mt : Int
  da : List UInt8
  deriving DecidableEq
def noN : ND := ⟨0, 0, 0, [], 0, [], [], [], 0, 0, []⟩

/-! ### Texts, times, modes -/
def shortL (s : List UInt8) : List UInt8 := if s.length ≤ 64 then s else []
def timeI (n : Int) : Int := if n < 0 then 0 else if 1099511627776 < n then 1099511627776 else n
theorem timeI_in (n : Int) : 0 ≤ timeI n ∧ timeI n ≤ 1099511627776 := by unfold timeI; split <;> (try split) <;> omega
theorem shortL_len (s : List UInt8) : (shortL s).length ≤ 64 := by
  unfold shortL
  split
  · assumption
  · simp
def dirB (m : Int) : Bool := decide (2147483648 ≤ m)
def modeB (m : Int) : Bool := decide (0 ≤ m ∧ m < 4294967296 ∧ (m - m % 512 = 0 ∨ m - m % 512 = 2147483648 ∨ m - m % 512 = 1073741824 ∨ m - m % 512 = 536870912 ∨ m - m % 512 = 1610612736))
def appB (m : Int) : Bool := decide (m / 1073741824 % 2 = 1)
def fieldsB (n : ND) : Bool := modeB n.mo && decide (0 ≤ n.ve ∧ n.ve ≤ 2147483647 ∧ 0 ≤ n.ti ∧ n.ti ≤ 1099511627776 ∧ 0 ≤ n.mt ∧ n.mt ≤ 1099511627776 ∧ n.ui.length ≤ 64 ∧ n.gi.length ≤ 64 ∧ n.mu.length ≤ 64 ∧ n.da.length ≤ 65536 ∧ (dirB n.mo = true → n.da = []))

/-! ### Nodes of a list -/
def getN (L : List ND) (k : Nat) : ND := L.getD k noN
def posN (L : List ND) (id : Int) : Nat := L.findIdx (fun n => n.id == id)
def hasN (L : List ND) (id : Int) : Bool := decide (posN L id < L.length)
def nodeN (L : List ND) (id : Int) : ND := getN L (posN L id)
theorem getN_get {L : List ND} {k : Nat} (h : k < L.length) : L[k] = getN L k := by simp [getN, h]
theorem getN_out {L : List ND} {k : Nat} (h : L.length ≤ k) : getN L k = noN := by simp [getN, h]
theorem getN_mem {L : List ND} {k : Nat} (h : k < L.length) : getN L k ∈ L := by rw [← getN_get h]; exact List.getElem_mem h
theorem posN_le (L : List ND) (id : Int) : posN L id ≤ L.length := List.findIdx_le_length
theorem hasN_true {L : List ND} {id : Int} (h : hasN L id = true) : posN L id < L.length := by simpa [hasN] using h
theorem hasN_false {L : List ND} {id : Int} (h : hasN L id = false) : posN L id = L.length := by
  have := posN_le L id
  simp [hasN] at h; omega
theorem nodeN_id {L : List ND} {id : Int} (h : hasN L id = true) : (nodeN L id).id = id := by
  have h' := hasN_true h
  have h2 : (L[posN L id]'h').id = id := by
    have := List.findIdx_getElem (w := h')
    exact eq_of_beq this
  rw [getN_get h'] at h2
  exact h2
theorem nodeN_mem {L : List ND} {id : Int} (h : hasN L id = true) : nodeN L id ∈ L := getN_mem (hasN_true h)
theorem nodeN_no {L : List ND} {id : Int} (h : hasN L id = false) : nodeN L id = noN := by
  unfold nodeN; rw [hasN_false h]; exact getN_out (Nat.le_refl _)
theorem hasN_iff {L : List ND} {id : Int} : hasN L id = true ↔ ∃ n ∈ L, n.id = id := by
  unfold hasN posN
  rw [decide_eq_true_iff, List.findIdx_lt_length]
  simp
theorem hasN_of {L : List ND} {n : ND} (h : n ∈ L) : hasN L n.id = true := hasN_iff.2 ⟨n, h, rfl⟩
/-- The index where the Id stands is the place of that Id, if none stands before. -/
theorem posN_at {L : List ND} {id : Int} {k : Nat} (hk : k < L.length) (h1 : (getN L k).id = id) (h2 : ∀ j, j < k → (getN L j).id ≠ id) : posN L id = k := by
  unfold posN
  rw [List.findIdx_eq hk]
  refine ⟨by rw [getN_get hk, h1]; simp, fun j hj => ?_⟩
  rw [getN_get (by omega)]
  simpa using h2 j hj
theorem posN_none {L : List ND} {id : Int} (h : ∀ j, j < L.length → (getN L j).id ≠ id) : posN L id = L.length := by
  have hh : hasN L id = false := by
    rw [Bool.eq_false_iff]
    intro hc
    have := nodeN_id hc
    exact h _ (hasN_true hc) this
  exact hasN_false hh
theorem posN_lt {L : List ND} {id : Int} {j : Nat} (hj : j < posN L id) : (getN L j).id ≠ id := by
  have := List.not_of_lt_findIdx hj
  have hjl : j < L.length := Nat.lt_of_lt_of_le hj (posN_le L id)
  rw [getN_get hjl] at this
  simpa using this

/-! ### Children -/
def kidB (n : ND) (d : Int) : Bool := n.pa == d && n.id != 1
def posC (L : List ND) (d : Int) (x : List UInt8) : Nat := L.findIdx (fun n => n.nm == x && kidB n d)
def hasC (L : List ND) (d : Int) (x : List UInt8) : Bool := decide (posC L d x < L.length)
def findT (L : List ND) (d : Int) (x : List UInt8) : Int × Int :=
  if hasN L d = false then (0, 8) else if dirB (nodeN L d).mo = false then (0, 9) else if x = [46, 46] then ((nodeN L d).pa, 0)
  else if hasC L d x = true then ((getN L (posC L d x)).id, 0) else (0, 8)
def kidsT (L : List ND) (d : Int) : List Int := (L.filter (fun n => kidB n d)).map (·.id)

/-! ### Changes -/
def edT (L : List ND) (id : Int) (f : ND → ND) : List ND := L.map (fun n => if n.id = id then f n else n)
def verI (v : Int) : Int := if 2147483647 < v + 1 then 0 else v + 1
def touchN (uid : List UInt8) (now : Int) (n : ND) : ND := { n with ve := verI n.ve, mt := timeI now, mu := shortL uid }
def dataN (s : List UInt8) (n : ND) : ND := { n with da := s }
def nameN (s : List UInt8) (n : ND) : ND := { n with nm := s }
def attrN (mode : Int) (gid : List UInt8) (mtime : Int) (n : ND) : ND :=
  { n with mo := if mode = -1 then n.mo else mode, gi := if shortL gid = [] then n.gi else shortL gid, mt := if mtime = -1 then n.mt else mtime }
def freshN (id d : Int) (x : List UInt8) (mode : Int) (uid gid : List UInt8) (now : Int) : ND := ⟨id, d, 0, x, mode, shortL uid, shortL gid, shortL uid, timeI now, timeI now, []⟩
def rootN (uid : List UInt8) (perm now : Int) : ND := ⟨1, 1, 0, [47], 2147483648 + perm % 512, shortL uid, shortL uid, shortL uid, timeI now, timeI now, []⟩

/-- A tree: the next Id and the nodes. -/
abbrev TT := Int × List ND
def createT (t : TT) (d : Int) (x : List UInt8) (mode : Int) (uid gid : List UInt8) (now : Int) : TT × Int × Int :=
  if hasN t.2 d = false then (t, 0, 8) else if dirB (nodeN t.2 d).mo = false then (t, 0, 9) else if validL x = false then (t, 0, 6) else if modeB mode = false then (t, 0, 1)
  else if hasC t.2 d x = true then (t, 0, 7) else if 1024 ≤ t.2.length ∨ 1048575 < t.1 then (t, 0, 22)
  else ((t.1 + 1, edT t.2 d (touchN uid now) ++ [freshN t.1 d x mode uid gid now]), t.1, 0)
def removeT (t : TT) (id : Int) (uid : List UInt8) (now : Int) : TT × Int × Int :=
  if hasN t.2 id = false then (t, 0, 8) else if id = 1 then (t, 0, 1) else if t.2.any (fun n => kidB n id) = true then (t, 0, 23)
  else ((t.1, (edT t.2 (nodeN t.2 id).pa (touchN uid now)).filter (fun n => n.id != id)), 0, 0)
def fileE (L : List ND) (id : Int) : Int := if hasN L id = false then 8 else if dirB (nodeN L id).mo = true then 10 else 0
def readT (L : List ND) (id off cnt : Int) : List UInt8 × Int :=
  if fileE L id ≠ 0 then ([], fileE L id) else if off < 0 ∨ cnt < 0 then ([], 1) else (((nodeN L id).da.drop off.toNat).take cnt.toNat, 0)
def zerosL (n : Nat) : List UInt8 := List.replicate n 0
def resL (old : List UInt8) (n : Nat) : List UInt8 := old.take n ++ zerosL (n - old.length)
def overL (old : List UInt8) (p : Nat) (s : List UInt8) : List UInt8 := resL old p ++ s ++ old.drop (p + s.length)
def placeI (n : ND) (off : Int) : Int := if appB n.mo = true then n.da.length else off
def writeT (t : TT) (id off : Int) (s uid : List UInt8) (now : Int) : TT × Int × Int :=
  if fileE t.2 id ≠ 0 then (t, 0, fileE t.2 id) else if off < 0 then (t, 0, 1) else if s = [] then (t, 0, 0)
  else if 65536 < placeI (nodeN t.2 id) off + s.length then (t, 0, 4)
  else ((t.1, edT t.2 id (fun n => touchN uid now (dataN (overL (nodeN t.2 id).da (placeI (nodeN t.2 id) off).toNat s) n))), s.length, 0)
def resizeT (t : TT) (id len : Int) (uid : List UInt8) (now : Int) : TT × Int × Int :=
  if fileE t.2 id ≠ 0 then (t, 0, fileE t.2 id) else if len < 0 then (t, 0, 1) else if 65536 < len then (t, 0, 4) else if len = (nodeN t.2 id).da.length then (t, 0, 0)
  else ((t.1, edT t.2 id (fun n => touchN uid now (dataN (resL (nodeN t.2 id).da len.toNat) n))), 0, 0)
def renameT (t : TT) (id : Int) (x uid : List UInt8) (now : Int) : TT × Int × Int :=
  if hasN t.2 id = false then (t, 0, 8) else if id = 1 then (t, 0, 1) else if validL x = false then (t, 0, 6) else if (nodeN t.2 id).nm = x then (t, 0, 0)
  else if hasC t.2 (nodeN t.2 id).pa x = true then (t, 0, 7)
  else ((t.1, edT (edT t.2 (nodeN t.2 id).pa (touchN uid now)) id (nameN x)), 0, 0)
def attrsT (t : TT) (id mode : Int) (gid : List UInt8) (mtime : Int) : TT × Int × Int :=
  if hasN t.2 id = false then (t, 0, 8) else if mode ≠ -1 ∧ (modeB mode = false ∨ dirB mode ≠ dirB (nodeN t.2 id).mo) then (t, 0, 1)
  else if mtime ≠ -1 ∧ (mtime < 0 ∨ 1099511627776 < mtime) then (t, 0, 5)
  else ((t.1, edT t.2 id (attrN mode gid mtime)), 0, 0)

/-! ### Paths -/
/-- One pass from the end: the Id that is sought, and the names below it. -/
def upS (n : ND) (s : Int × List (List UInt8)) : Int × List (List UInt8) := if n.id = s.1 ∧ s.1 ≠ 1 then (n.pa, n.nm :: s.2) else s
def namesL (L : List ND) (id : Int) : List (List UInt8) := (L.foldr upS (id, [])).2
def pathL (es : List (List UInt8)) : List UInt8 := 47 :: joinL es
def pathT (L : List ND) (id : Int) : List UInt8 × Int := if hasN L id = false then ([], 8) else (pathL (namesL L id), 0)

/-! ### Valid trees -/
structure Vld (nx : Int) (L : List ND) : Prop where
  len : L.length ≤ 1024
  nxt : nx ≤ 1048576
  root : ∃ r R, L = r :: R ∧ r.id = 1 ∧ r.pa = 1 ∧ r.nm = [47] ∧ dirB r.mo = true
  sort : L.Pairwise (fun a b => a.id < b.id)
  ids : ∀ n ∈ L, n.id < nx
  fld : ∀ n ∈ L, fieldsB n = true
  par : ∀ n ∈ L, n.id ≠ 1 → n.pa < n.id ∧ validL n.nm = true ∧ ∃ p ∈ L, p.id = n.pa ∧ dirB p.mo = true
  uni : L.Pairwise (fun a b => a.id ≠ 1 → b.id ≠ 1 → a.pa = b.pa → a.nm = b.nm → False)
end Go.Proofs.Ytalhkoolpnmcdaa
