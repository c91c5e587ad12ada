/-
  No cell of these rows narrows 'for every input' (looked for: loops, veiled, ifaces, maps, wideKeys, modest, calm, conditions, laid).
  DERIVED. THE GIVEN ROWS OF THIS SEAT. 4 by the template 'for every input the law returns true; each argument reads behind the call as it read before'; 0 by the template 'total and deterministic' (their statements: YtpcohlacmhbclaaTotals.lean).
  GIVEN WITH THE SEED: the statements are not yours to turn. If you find one false, say at which input.
  Laid BY PROGRAM, IN A SANDBOX (cutbox-rows.mjs): the forced cells as the released guide's own fill.sh prints them over the translation 13273f0fdd6f0eef… (all of the seat's roots in one cut). By AI agents, Wed Nov 11 2026. No macro, syntax, notation, axiom, sorry.
-/
import Derived.Test.YtpcohlacmhbclaaChecked
import GoSem.Claim
import GoSem.ClaimJoined
import GoSem.ClaimMapViews
import Derived.JoinedTies
import Derived.KernelRfl
namespace Go.Proofs.Ytpcohlacmhbclaa
/- THE CELL 'sum', in the pinned program and in every row, IS THE sha256 OF THE DUMP (.gsa) THAT YtpcohlacmhbclaaProg.lean LOADS. Nothing in Lean hashes anything: it is a label: what it is worth is what the hold of that sum in a sandbox is worth. -/
noncomputable def Try.pinned : Pinned := { name := "ytpcohlacmhbclaa", sum := "13273f0fdd6f0eefea49298275a722bde57b46d1d4bd46e3507c2873c2e1baec", checked := Try.checked }
namespace Rows
def none {H : Type} : Left H := { results := [], args := [] }

/-- 'filespacelaw04.FaultTexts': WHATEVER THE INPUT: true; the input reads as it did. -/
def faultTextsSpec : ChangeSpec := { name := "faultTexts", fn := fun _ => fun
  | [d] => { results := [.lit (.bool true)], args := [d] }
  | _ => none }
def faultTextsRow : OpenClaim := { program := "ytpcohlacmhbclaa", sum := "13273f0fdd6f0eefea49298275a722bde57b46d1d4bd46e3507c2873c2e1baec", func := "filespace/filespacelaw04.FaultTexts", spec := "faultTexts", apart := false }
def FaultTextsSaid : Prop := faultTextsRow.holds Try.pinned (OpenSpec.ofChange faultTextsSpec)

/-- ITS FALSE NEIGHBOUR: 'it returns false'. Refute it at one input. -/
def faultTextsWrong : ChangeSpec := { name := "faultTexts", fn := fun _ => fun
  | [d] => { results := [.lit (.bool false)], args := [d] }
  | _ => none }
def FaultTextsWrongFalsely : Prop := faultTextsRow.holds Try.pinned (OpenSpec.ofChange faultTextsWrong)

/-- 'filespacelaw04.FaultFinds': WHATEVER THE INPUT: true; the input reads as it did. -/
def faultFindsSpec : ChangeSpec := { name := "faultFinds", fn := fun _ => fun
  | [d] => { results := [.lit (.bool true)], args := [d] }
  | _ => none }
def faultFindsRow : OpenClaim := { program := "ytpcohlacmhbclaa", sum := "13273f0fdd6f0eefea49298275a722bde57b46d1d4bd46e3507c2873c2e1baec", func := "filespace/filespacelaw04.FaultFinds", spec := "faultFinds", apart := false }
def FaultFindsSaid : Prop := faultFindsRow.holds Try.pinned (OpenSpec.ofChange faultFindsSpec)

/-- ITS FALSE NEIGHBOUR: 'it returns false'. Refute it at one input. -/
def faultFindsWrong : ChangeSpec := { name := "faultFinds", fn := fun _ => fun
  | [d] => { results := [.lit (.bool false)], args := [d] }
  | _ => none }
def FaultFindsWrongFalsely : Prop := faultFindsRow.holds Try.pinned (OpenSpec.ofChange faultFindsWrong)

/-- 'filespacelaw04.FaultJoins': WHATEVER THE INPUT: true; the input reads as it did. -/
def faultJoinsSpec : ChangeSpec := { name := "faultJoins", fn := fun _ => fun
  | [d1, d2] => { results := [.lit (.bool true)], args := [d1, d2] }
  | _ => none }
def faultJoinsRow : OpenClaim := { program := "ytpcohlacmhbclaa", sum := "13273f0fdd6f0eefea49298275a722bde57b46d1d4bd46e3507c2873c2e1baec", func := "filespace/filespacelaw04.FaultJoins", spec := "faultJoins", apart := false }
def FaultJoinsSaid : Prop := faultJoinsRow.holds Try.pinned (OpenSpec.ofChange faultJoinsSpec)

/-- ITS FALSE NEIGHBOUR: 'it returns false'. Refute it at one input. -/
def faultJoinsWrong : ChangeSpec := { name := "faultJoins", fn := fun _ => fun
  | [d1, d2] => { results := [.lit (.bool false)], args := [d1, d2] }
  | _ => none }
def FaultJoinsWrongFalsely : Prop := faultJoinsRow.holds Try.pinned (OpenSpec.ofChange faultJoinsWrong)

/-- 'filespacelaw04.FaultCodes': WHATEVER THE INPUT: true; the input reads as it did. -/
def faultCodesSpec : ChangeSpec := { name := "faultCodes", fn := fun _ => fun
  | [d] => { results := [.lit (.bool true)], args := [d] }
  | _ => none }
def faultCodesRow : OpenClaim := { program := "ytpcohlacmhbclaa", sum := "13273f0fdd6f0eefea49298275a722bde57b46d1d4bd46e3507c2873c2e1baec", func := "filespace/filespacelaw04.FaultCodes", spec := "faultCodes", apart := false }
def FaultCodesSaid : Prop := faultCodesRow.holds Try.pinned (OpenSpec.ofChange faultCodesSpec)

/-- ITS FALSE NEIGHBOUR: 'it returns false'. Refute it at one input. -/
def faultCodesWrong : ChangeSpec := { name := "faultCodes", fn := fun _ => fun
  | [d] => { results := [.lit (.bool false)], args := [d] }
  | _ => none }
def FaultCodesWrongFalsely : Prop := faultCodesRow.holds Try.pinned (OpenSpec.ofChange faultCodesWrong)

/- THE SECOND FORM. 'bulk': how many values and letters a reading holds, each counted each time it is reached (what is shared counts as often as it is met; a slice's spare places count too). A statement '..UptoSaid' is the law's where the arguments, and the package variables that the reading takes, are together of bulk at most 1048576: NARROWER than '..Said'. Prove '..Said' where nothing that the law and all that it calls make is longer than what came in: it says more and counts as full. Else prove '..UptoSaid'. A law counts once. -/
mutual
def uptoBulk {H : Type} : DataW H → Nat
  | .lit (.string bytes) => bytes.length + 1
  | .lit _ => 1
  | .nil => 1
  | .ptr d => uptoBulk d + 1
  | .slice elems spare => uptoBulkAll elems + uptoBulkAll spare + 1
  | .agg parts => uptoBulkAll parts + 1
  | .iface _ d => uptoBulk d + 1
  | .map entries => uptoBulkEntries entries + 1
  | .held _ => 1
def uptoBulkAll {H : Type} : List (DataW H) → Nat
  | [] => 0
  | d :: r => uptoBulk d + uptoBulkAll r
def uptoBulkEntries {H : Type} : List (Lit × DataW H) → Nat
  | [] => 0
  | x :: r => uptoBulkEntry x + uptoBulkEntries r
def uptoBulkEntry {H : Type} : Lit × DataW H → Nat
  | (.string bytes, d) => bytes.length + uptoBulk d + 1
  | (_, d) => uptoBulk d + 1
 end
def uptoSmall : (H : Type) → List (DataW H) → Bool := fun _ ds => decide (uptoBulkAll ds ≤ 1048576)
def OpenSpec.upto (s : _root_.Go.ChangeSpec) : _root_.Go.OpenSpec := { _root_.Go.OpenSpec.ofChange s with cond := some uptoSmall }

/-- 'filespacelaw04.FaultTexts', WHERE WHAT IT READS IS OF BULK AT MOST 1048576: true; the input reads as it did. -/
def faultTextsUptoRow : OpenClaim := { program := "ytpcohlacmhbclaa", sum := "13273f0fdd6f0eefea49298275a722bde57b46d1d4bd46e3507c2873c2e1baec", func := "filespace/filespacelaw04.FaultTexts", spec := "faultTexts", apart := false, narrowed := true }
def FaultTextsUptoSaid : Prop := faultTextsUptoRow.holds Try.pinned (OpenSpec.upto faultTextsSpec)

/-- 'filespacelaw04.FaultFinds', WHERE WHAT IT READS IS OF BULK AT MOST 1048576: true; the input reads as it did. -/
def faultFindsUptoRow : OpenClaim := { program := "ytpcohlacmhbclaa", sum := "13273f0fdd6f0eefea49298275a722bde57b46d1d4bd46e3507c2873c2e1baec", func := "filespace/filespacelaw04.FaultFinds", spec := "faultFinds", apart := false, narrowed := true }
def FaultFindsUptoSaid : Prop := faultFindsUptoRow.holds Try.pinned (OpenSpec.upto faultFindsSpec)

/-- 'filespacelaw04.FaultJoins', WHERE WHAT IT READS IS OF BULK AT MOST 1048576: true; the input reads as it did. -/
def faultJoinsUptoRow : OpenClaim := { program := "ytpcohlacmhbclaa", sum := "13273f0fdd6f0eefea49298275a722bde57b46d1d4bd46e3507c2873c2e1baec", func := "filespace/filespacelaw04.FaultJoins", spec := "faultJoins", apart := false, narrowed := true }
def FaultJoinsUptoSaid : Prop := faultJoinsUptoRow.holds Try.pinned (OpenSpec.upto faultJoinsSpec)

/-- 'filespacelaw04.FaultCodes', WHERE WHAT IT READS IS OF BULK AT MOST 1048576: true; the input reads as it did. -/
def faultCodesUptoRow : OpenClaim := { program := "ytpcohlacmhbclaa", sum := "13273f0fdd6f0eefea49298275a722bde57b46d1d4bd46e3507c2873c2e1baec", func := "filespace/filespacelaw04.FaultCodes", spec := "faultCodes", apart := false, narrowed := true }
def FaultCodesUptoSaid : Prop := faultCodesUptoRow.holds Try.pinned (OpenSpec.upto faultCodesSpec)

end Rows
end Go.Proofs.Ytpcohlacmhbclaa
