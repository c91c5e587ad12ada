/-
  NARROWER THAN 'FOR EVERY INPUT', by the rows' own cells (each row's printed sentence says how): StatChecks: laid · StatPuts: laid · StatGets: laid · StatLists: laid · StatNones: laid · StatReturns: laid · StatJoins: laid.
  DERIVED. THE GIVEN ROWS OF THIS SEAT. 7 by the template 'for every input the law returns true; each argument reads behind the call as it read before'; 0 by the template 'total and deterministic' (their statements: YtinjnbcikoejkaaDoorTotals.lean).
  GIVEN WITH THE SEED: the statements are not yours to turn. If you find one false, say at which input.
  Laid BY PROGRAM, IN A SANDBOX (cutbox-rows.mjs): the forced cells as the released guide's own fill.sh prints them over the translation 8f91d66b9c827564… (all of the seat's roots in one cut). By AI agents, Wed Nov 11 2026. No macro, syntax, notation, axiom, sorry.
-/
import Derived.Test.YtinjnbcikoejkaaDoorChecked
import GoSem.Claim
import GoSem.ClaimJoined
import GoSem.ClaimMapViews
import Derived.JoinedTies
import Derived.KernelRfl
namespace Go.Proofs.YtinjnbcikoejkaaDoor
/- THE CELL 'sum', in the pinned program and in every row, IS THE sha256 OF THE DUMP (.gsa) THAT YtinjnbcikoejkaaDoorProg.lean LOADS. Nothing in Lean hashes anything: it is a label: what it is worth is what the hold of that sum in a sandbox is worth. -/
noncomputable def Tryd.pinned : Pinned := { name := "ytinjnbcikoejkaadoor", sum := "8f91d66b9c8275648f05308df8e7a5394aa902161d7b63e164be96be99363fd8", checked := Tryd.checked }
namespace Rows
def none {H : Type} : Left H := { results := [], args := [] }

/- WHAT THE LISTED PACKAGE-LEVEL VARIABLES READ AS WHEN THE CALL BEGINS. Each datum BY PROGRAM (the guide's laid-datum.mjs) off the statement by which the dump's own 'gosem.cut.vars' lays the variable. In a bare row this is a premise. The card (YtinjnbcikoejkaaDoorCards.lean) ties it to the program's text. -/
def laid_filespace_stat_formats {H : Type} : DataW H := .agg [.agg [.lit (.int .i64 2), .lit (.int .i64 65534), .lit (.bool false)], .agg [.lit (.int .i64 4), .lit (.int .i64 4294967294), .lit (.bool false)], .agg [.lit (.int .i64 1), .lit (.int .i64 232), .lit (.bool true)], .agg [.lit (.int .i64 4), .lit (.int .i64 2147483647), .lit (.bool false)], .agg [.lit (.int .i64 8), .lit (.int .i64 1099511627776), .lit (.bool false)], .agg [.lit (.int .i64 4), .lit (.int .i64 3892314623), .lit (.bool true)], .agg [.lit (.int .i64 8), .lit (.int .i64 1099511627776), .lit (.bool false)], .agg [.lit (.int .i64 8), .lit (.int .i64 1099511627776), .lit (.bool false)], .agg [.lit (.int .i64 8), .lit (.int .i64 9007199254740991), .lit (.bool false)]]

/-- 'filespacelaw07.StatChecks': WHATEVER THE INPUT: true; the input reads as it did. -/
def statChecksSpec : ChangeSpec := { name := "statChecks", fn := fun _ => fun
  | [d] => { results := [.lit (.bool true)], args := [d] }
  | _ => none }
def statChecksRow : OpenClaim := { program := "ytinjnbcikoejkaadoor", sum := "8f91d66b9c8275648f05308df8e7a5394aa902161d7b63e164be96be99363fd8", func := "filespace/filespacelaw07.StatChecks", spec := "statChecks", inPlace := ["internal/abi.NoEscape"], named := ["filespace/stat.formats"], apart := false, laid := [("filespace/stat.formats", laid_filespace_stat_formats)] }
def StatChecksSaid : Prop := statChecksRow.holds Tryd.pinned (OpenSpec.ofChange statChecksSpec)

/-- ITS FALSE NEIGHBOUR: 'it returns false'. Refute it at one input. -/
def statChecksWrong : ChangeSpec := { name := "statChecks", fn := fun _ => fun
  | [d] => { results := [.lit (.bool false)], args := [d] }
  | _ => none }
def StatChecksWrongFalsely : Prop := statChecksRow.holds Tryd.pinned (OpenSpec.ofChange statChecksWrong)

/-- 'filespacelaw07.StatPuts': WHATEVER THE INPUT: true; the input reads as it did. -/
def statPutsSpec : ChangeSpec := { name := "statPuts", fn := fun _ => fun
  | [d] => { results := [.lit (.bool true)], args := [d] }
  | _ => none }
def statPutsRow : OpenClaim := { program := "ytinjnbcikoejkaadoor", sum := "8f91d66b9c8275648f05308df8e7a5394aa902161d7b63e164be96be99363fd8", func := "filespace/filespacelaw07.StatPuts", spec := "statPuts", inPlace := ["internal/abi.NoEscape"], named := ["filespace/stat.formats"], apart := false, laid := [("filespace/stat.formats", laid_filespace_stat_formats)] }
def StatPutsSaid : Prop := statPutsRow.holds Tryd.pinned (OpenSpec.ofChange statPutsSpec)

/-- ITS FALSE NEIGHBOUR: 'it returns false'. Refute it at one input. -/
def statPutsWrong : ChangeSpec := { name := "statPuts", fn := fun _ => fun
  | [d] => { results := [.lit (.bool false)], args := [d] }
  | _ => none }
def StatPutsWrongFalsely : Prop := statPutsRow.holds Tryd.pinned (OpenSpec.ofChange statPutsWrong)

/-- 'filespacelaw07.StatGets': WHATEVER THE INPUT: true; the input reads as it did. -/
def statGetsSpec : ChangeSpec := { name := "statGets", fn := fun _ => fun
  | [d1, d2] => { results := [.lit (.bool true)], args := [d1, d2] }
  | _ => none }
def statGetsRow : OpenClaim := { program := "ytinjnbcikoejkaadoor", sum := "8f91d66b9c8275648f05308df8e7a5394aa902161d7b63e164be96be99363fd8", func := "filespace/filespacelaw07.StatGets", spec := "statGets", inPlace := ["internal/abi.NoEscape"], named := ["filespace/stat.formats"], apart := false, laid := [("filespace/stat.formats", laid_filespace_stat_formats)] }
def StatGetsSaid : Prop := statGetsRow.holds Tryd.pinned (OpenSpec.ofChange statGetsSpec)

/-- ITS FALSE NEIGHBOUR: 'it returns false'. Refute it at one input. -/
def statGetsWrong : ChangeSpec := { name := "statGets", fn := fun _ => fun
  | [d1, d2] => { results := [.lit (.bool false)], args := [d1, d2] }
  | _ => none }
def StatGetsWrongFalsely : Prop := statGetsRow.holds Tryd.pinned (OpenSpec.ofChange statGetsWrong)

/-- 'filespacelaw07.StatLists': WHATEVER THE INPUT: true; the input reads as it did. -/
def statListsSpec : ChangeSpec := { name := "statLists", fn := fun _ => fun
  | [d] => { results := [.lit (.bool true)], args := [d] }
  | _ => none }
def statListsRow : OpenClaim := { program := "ytinjnbcikoejkaadoor", sum := "8f91d66b9c8275648f05308df8e7a5394aa902161d7b63e164be96be99363fd8", func := "filespace/filespacelaw07.StatLists", spec := "statLists", inPlace := ["internal/abi.NoEscape"], named := ["filespace/stat.formats"], apart := false, laid := [("filespace/stat.formats", laid_filespace_stat_formats)] }
def StatListsSaid : Prop := statListsRow.holds Tryd.pinned (OpenSpec.ofChange statListsSpec)

/-- ITS FALSE NEIGHBOUR: 'it returns false'. Refute it at one input. -/
def statListsWrong : ChangeSpec := { name := "statLists", fn := fun _ => fun
  | [d] => { results := [.lit (.bool false)], args := [d] }
  | _ => none }
def StatListsWrongFalsely : Prop := statListsRow.holds Tryd.pinned (OpenSpec.ofChange statListsWrong)

/-- 'filespacelaw07.StatNones': WHATEVER THE INPUT: true; the input reads as it did. -/
def statNonesSpec : ChangeSpec := { name := "statNones", fn := fun _ => fun
  | [d] => { results := [.lit (.bool true)], args := [d] }
  | _ => none }
def statNonesRow : OpenClaim := { program := "ytinjnbcikoejkaadoor", sum := "8f91d66b9c8275648f05308df8e7a5394aa902161d7b63e164be96be99363fd8", func := "filespace/filespacelaw07.StatNones", spec := "statNones", inPlace := ["internal/abi.NoEscape"], named := ["filespace/stat.formats"], apart := false, laid := [("filespace/stat.formats", laid_filespace_stat_formats)] }
def StatNonesSaid : Prop := statNonesRow.holds Tryd.pinned (OpenSpec.ofChange statNonesSpec)

/-- ITS FALSE NEIGHBOUR: 'it returns false'. Refute it at one input. -/
def statNonesWrong : ChangeSpec := { name := "statNones", fn := fun _ => fun
  | [d] => { results := [.lit (.bool false)], args := [d] }
  | _ => none }
def StatNonesWrongFalsely : Prop := statNonesRow.holds Tryd.pinned (OpenSpec.ofChange statNonesWrong)

/-- 'filespacelaw07.StatReturns': WHATEVER THE INPUT: true; the input reads as it did. -/
def statReturnsSpec : ChangeSpec := { name := "statReturns", fn := fun _ => fun
  | [d1, d2, d3] => { results := [.lit (.bool true)], args := [d1, d2, d3] }
  | _ => none }
def statReturnsRow : OpenClaim := { program := "ytinjnbcikoejkaadoor", sum := "8f91d66b9c8275648f05308df8e7a5394aa902161d7b63e164be96be99363fd8", func := "filespace/filespacelaw07.StatReturns", spec := "statReturns", inPlace := ["internal/abi.NoEscape"], named := ["filespace/stat.formats"], apart := false, laid := [("filespace/stat.formats", laid_filespace_stat_formats)] }
def StatReturnsSaid : Prop := statReturnsRow.holds Tryd.pinned (OpenSpec.ofChange statReturnsSpec)

/-- ITS FALSE NEIGHBOUR: 'it returns false'. Refute it at one input. -/
def statReturnsWrong : ChangeSpec := { name := "statReturns", fn := fun _ => fun
  | [d1, d2, d3] => { results := [.lit (.bool false)], args := [d1, d2, d3] }
  | _ => none }
def StatReturnsWrongFalsely : Prop := statReturnsRow.holds Tryd.pinned (OpenSpec.ofChange statReturnsWrong)

/-- 'filespacelaw07.StatJoins': WHATEVER THE INPUT: true; the input reads as it did. -/
def statJoinsSpec : ChangeSpec := { name := "statJoins", fn := fun _ => fun
  | [d] => { results := [.lit (.bool true)], args := [d] }
  | _ => none }
def statJoinsRow : OpenClaim := { program := "ytinjnbcikoejkaadoor", sum := "8f91d66b9c8275648f05308df8e7a5394aa902161d7b63e164be96be99363fd8", func := "filespace/filespacelaw07.StatJoins", spec := "statJoins", inPlace := ["internal/abi.NoEscape"], named := ["filespace/stat.formats"], apart := false, laid := [("filespace/stat.formats", laid_filespace_stat_formats)] }
def StatJoinsSaid : Prop := statJoinsRow.holds Tryd.pinned (OpenSpec.ofChange statJoinsSpec)

/-- ITS FALSE NEIGHBOUR: 'it returns false'. Refute it at one input. -/
def statJoinsWrong : ChangeSpec := { name := "statJoins", fn := fun _ => fun
  | [d] => { results := [.lit (.bool false)], args := [d] }
  | _ => none }
def StatJoinsWrongFalsely : Prop := statJoinsRow.holds Tryd.pinned (OpenSpec.ofChange statJoinsWrong)

/- THE SECOND FORM. 'bulk': how many values and letters a reading holds, each counted each time it is reached (what is shared counts as often as it is met; a slice's spare places count too). A statement '..UptoSaid' is the law's where the arguments, and the package variables that the reading takes, are together of bulk at most 1048576: NARROWER than '..Said'. Prove '..Said' where nothing that the law and all that it calls make is longer than what came in: it says more and counts as full. Else prove '..UptoSaid'. A law counts once. -/
mutual
def uptoBulk {H : Type} : DataW H → Nat
  | .lit (.string bytes) => bytes.length + 1
  | .lit _ => 1
  | .nil => 1
  | .ptr d => uptoBulk d + 1
  | .slice elems spare => uptoBulkAll elems + uptoBulkAll spare + 1
  | .agg parts => uptoBulkAll parts + 1
  | .iface _ d => uptoBulk d + 1
  | .map entries => uptoBulkEntries entries + 1
  | .held _ => 1
def uptoBulkAll {H : Type} : List (DataW H) → Nat
  | [] => 0
  | d :: r => uptoBulk d + uptoBulkAll r
def uptoBulkEntries {H : Type} : List (Lit × DataW H) → Nat
  | [] => 0
  | x :: r => uptoBulkEntry x + uptoBulkEntries r
def uptoBulkEntry {H : Type} : Lit × DataW H → Nat
  | (.string bytes, d) => bytes.length + uptoBulk d + 1
  | (_, d) => uptoBulk d + 1
 end
def uptoSmall : (H : Type) → List (DataW H) → Bool := fun _ ds => decide (uptoBulkAll ds ≤ 1048576)
def OpenSpec.upto (s : _root_.Go.ChangeSpec) : _root_.Go.OpenSpec := { _root_.Go.OpenSpec.ofChange s with cond := some uptoSmall }

/-- 'filespacelaw07.StatChecks', WHERE WHAT IT READS IS OF BULK AT MOST 1048576: true; the input reads as it did. -/
def statChecksUptoRow : OpenClaim := { program := "ytinjnbcikoejkaadoor", sum := "8f91d66b9c8275648f05308df8e7a5394aa902161d7b63e164be96be99363fd8", func := "filespace/filespacelaw07.StatChecks", spec := "statChecks", inPlace := ["internal/abi.NoEscape"], named := ["filespace/stat.formats"], apart := false, laid := [("filespace/stat.formats", laid_filespace_stat_formats)], narrowed := true }
def StatChecksUptoSaid : Prop := statChecksUptoRow.holds Tryd.pinned (OpenSpec.upto statChecksSpec)

/-- 'filespacelaw07.StatPuts', WHERE WHAT IT READS IS OF BULK AT MOST 1048576: true; the input reads as it did. -/
def statPutsUptoRow : OpenClaim := { program := "ytinjnbcikoejkaadoor", sum := "8f91d66b9c8275648f05308df8e7a5394aa902161d7b63e164be96be99363fd8", func := "filespace/filespacelaw07.StatPuts", spec := "statPuts", inPlace := ["internal/abi.NoEscape"], named := ["filespace/stat.formats"], apart := false, laid := [("filespace/stat.formats", laid_filespace_stat_formats)], narrowed := true }
def StatPutsUptoSaid : Prop := statPutsUptoRow.holds Tryd.pinned (OpenSpec.upto statPutsSpec)

/-- 'filespacelaw07.StatGets', WHERE WHAT IT READS IS OF BULK AT MOST 1048576: true; the input reads as it did. -/
def statGetsUptoRow : OpenClaim := { program := "ytinjnbcikoejkaadoor", sum := "8f91d66b9c8275648f05308df8e7a5394aa902161d7b63e164be96be99363fd8", func := "filespace/filespacelaw07.StatGets", spec := "statGets", inPlace := ["internal/abi.NoEscape"], named := ["filespace/stat.formats"], apart := false, laid := [("filespace/stat.formats", laid_filespace_stat_formats)], narrowed := true }
def StatGetsUptoSaid : Prop := statGetsUptoRow.holds Tryd.pinned (OpenSpec.upto statGetsSpec)

/-- 'filespacelaw07.StatLists', WHERE WHAT IT READS IS OF BULK AT MOST 1048576: true; the input reads as it did. -/
def statListsUptoRow : OpenClaim := { program := "ytinjnbcikoejkaadoor", sum := "8f91d66b9c8275648f05308df8e7a5394aa902161d7b63e164be96be99363fd8", func := "filespace/filespacelaw07.StatLists", spec := "statLists", inPlace := ["internal/abi.NoEscape"], named := ["filespace/stat.formats"], apart := false, laid := [("filespace/stat.formats", laid_filespace_stat_formats)], narrowed := true }
def StatListsUptoSaid : Prop := statListsUptoRow.holds Tryd.pinned (OpenSpec.upto statListsSpec)

/-- 'filespacelaw07.StatNones', WHERE WHAT IT READS IS OF BULK AT MOST 1048576: true; the input reads as it did. -/
def statNonesUptoRow : OpenClaim := { program := "ytinjnbcikoejkaadoor", sum := "8f91d66b9c8275648f05308df8e7a5394aa902161d7b63e164be96be99363fd8", func := "filespace/filespacelaw07.StatNones", spec := "statNones", inPlace := ["internal/abi.NoEscape"], named := ["filespace/stat.formats"], apart := false, laid := [("filespace/stat.formats", laid_filespace_stat_formats)], narrowed := true }
def StatNonesUptoSaid : Prop := statNonesUptoRow.holds Tryd.pinned (OpenSpec.upto statNonesSpec)

/-- 'filespacelaw07.StatReturns', WHERE WHAT IT READS IS OF BULK AT MOST 1048576: true; the input reads as it did. -/
def statReturnsUptoRow : OpenClaim := { program := "ytinjnbcikoejkaadoor", sum := "8f91d66b9c8275648f05308df8e7a5394aa902161d7b63e164be96be99363fd8", func := "filespace/filespacelaw07.StatReturns", spec := "statReturns", inPlace := ["internal/abi.NoEscape"], named := ["filespace/stat.formats"], apart := false, laid := [("filespace/stat.formats", laid_filespace_stat_formats)], narrowed := true }
def StatReturnsUptoSaid : Prop := statReturnsUptoRow.holds Tryd.pinned (OpenSpec.upto statReturnsSpec)

/-- 'filespacelaw07.StatJoins', WHERE WHAT IT READS IS OF BULK AT MOST 1048576: true; the input reads as it did. -/
def statJoinsUptoRow : OpenClaim := { program := "ytinjnbcikoejkaadoor", sum := "8f91d66b9c8275648f05308df8e7a5394aa902161d7b63e164be96be99363fd8", func := "filespace/filespacelaw07.StatJoins", spec := "statJoins", inPlace := ["internal/abi.NoEscape"], named := ["filespace/stat.formats"], apart := false, laid := [("filespace/stat.formats", laid_filespace_stat_formats)], narrowed := true }
def StatJoinsUptoSaid : Prop := statJoinsUptoRow.holds Tryd.pinned (OpenSpec.upto statJoinsSpec)

end Rows
end Go.Proofs.YtinjnbcikoejkaaDoor
