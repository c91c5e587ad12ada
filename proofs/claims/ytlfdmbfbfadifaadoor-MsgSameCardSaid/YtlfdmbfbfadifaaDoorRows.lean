/-
  NARROWER THAN 'FOR EVERY INPUT', by the rows' own cells (each row's printed sentence says how): MsgKinds: laid · MsgNames: laid · MsgChecks: laid · MsgUnused: laid · MsgAnswers: laid · MsgFails: laid · MsgSame: laid · WireBack: laid · WireOnly: laid · WirePieces: laid.
  DERIVED. THE GIVEN ROWS OF THIS SEAT. 10 by the template 'for every input the law returns true; each argument reads behind the call as it read before'; 0 by the template 'total and deterministic' (their statements: YtlfdmbfbfadifaaDoorTotals.lean).
  GIVEN WITH THE SEED: the statements are not yours to turn. If you find one false, say at which input.
  Laid BY PROGRAM, IN A SANDBOX (cutbox-rows.mjs): the forced cells as the released guide's own fill.sh prints them over the translation d00edc02409997b6… (all of the seat's roots in one cut). By AI agents, Wed Nov 11 2026. No macro, syntax, notation, axiom, sorry.
-/
import Derived.Test.YtlfdmbfbfadifaaDoorChecked
import GoSem.Claim
import GoSem.ClaimJoined
import GoSem.ClaimMapViews
import Derived.JoinedTies
import Derived.KernelRfl
namespace Go.Proofs.YtlfdmbfbfadifaaDoor
/- THE CELL 'sum', in the pinned program and in every row, IS THE sha256 OF THE DUMP (.gsa) THAT YtlfdmbfbfadifaaDoorProg.lean LOADS. Nothing in Lean hashes anything: it is a label: what it is worth is what the hold of that sum in a sandbox is worth. -/
noncomputable def Tryd.pinned : Pinned := { name := "ytlfdmbfbfadifaadoor", sum := "d00edc02409997b68a2a3d9f7367ade333b8a372e9942b0358f4240c41bb9f92", checked := Tryd.checked }
namespace Rows
def none {H : Type} : Left H := { results := [], args := [] }

/- WHAT THE LISTED PACKAGE-LEVEL VARIABLES READ AS WHEN THE CALL BEGINS. Each datum BY PROGRAM (the guide's laid-datum.mjs) off the statement by which the dump's own 'gosem.cut.vars' lays the variable. In a bare row this is a premise. The card (YtlfdmbfbfadifaaDoorCards.lean) ties it to the program's text. -/
def laid_filespace_stat_formats {H : Type} : DataW H := .agg [.agg [.lit (.int .i64 2), .lit (.int .i64 65534), .lit (.bool false)], .agg [.lit (.int .i64 4), .lit (.int .i64 4294967294), .lit (.bool false)], .agg [.lit (.int .i64 1), .lit (.int .i64 232), .lit (.bool true)], .agg [.lit (.int .i64 4), .lit (.int .i64 2147483647), .lit (.bool false)], .agg [.lit (.int .i64 8), .lit (.int .i64 1099511627776), .lit (.bool false)], .agg [.lit (.int .i64 4), .lit (.int .i64 3892314623), .lit (.bool true)], .agg [.lit (.int .i64 8), .lit (.int .i64 1099511627776), .lit (.bool false)], .agg [.lit (.int .i64 8), .lit (.int .i64 1099511627776), .lit (.bool false)], .agg [.lit (.int .i64 8), .lit (.int .i64 9007199254740991), .lit (.bool false)]]
def laid_filespace_msg_subjects {H : Type} : DataW H := .agg [.lit (.string [86, 101, 114, 115, 105, 111, 110]), .lit (.string [65, 117, 116, 104]), .lit (.string [65, 116, 116, 97, 99, 104]), .lit (.string [69, 114, 114, 111, 114]), .lit (.string [70, 108, 117, 115, 104]), .lit (.string [87, 97, 108, 107]), .lit (.string [79, 112, 101, 110]), .lit (.string [67, 114, 101, 97, 116, 101]), .lit (.string [82, 101, 97, 100]), .lit (.string [87, 114, 105, 116, 101]), .lit (.string [67, 108, 117, 110, 107]), .lit (.string [82, 101, 109, 111, 118, 101]), .lit (.string [83, 116, 97, 116]), .lit (.string [87, 115, 116, 97, 116]), .lit (.string [76, 101, 97, 115, 101]), .lit (.string [82, 101, 115, 117, 109, 101])]

/-- 'filespacelaw08.MsgKinds': WHATEVER THE INPUT: true; the input reads as it did. -/
def msgKindsSpec : ChangeSpec := { name := "msgKinds", fn := fun _ => fun
  | [d] => { results := [.lit (.bool true)], args := [d] }
  | _ => none }
def msgKindsRow : OpenClaim := { program := "ytlfdmbfbfadifaadoor", sum := "d00edc02409997b68a2a3d9f7367ade333b8a372e9942b0358f4240c41bb9f92", func := "filespace/filespacelaw08.MsgKinds", spec := "msgKinds", named := ["filespace/msg.subjects", "filespace/stat.formats"], apart := false, laid := [("filespace/stat.formats", laid_filespace_stat_formats), ("filespace/msg.subjects", laid_filespace_msg_subjects)] }
def MsgKindsSaid : Prop := msgKindsRow.holds Tryd.pinned (OpenSpec.ofChange msgKindsSpec)

/-- ITS FALSE NEIGHBOUR: 'it returns false'. Refute it at one input. -/
def msgKindsWrong : ChangeSpec := { name := "msgKinds", fn := fun _ => fun
  | [d] => { results := [.lit (.bool false)], args := [d] }
  | _ => none }
def MsgKindsWrongFalsely : Prop := msgKindsRow.holds Tryd.pinned (OpenSpec.ofChange msgKindsWrong)

/-- 'filespacelaw08.MsgNames': WHATEVER THE INPUT: true; the input reads as it did. -/
def msgNamesSpec : ChangeSpec := { name := "msgNames", fn := fun _ => fun
  | [d1, d2] => { results := [.lit (.bool true)], args := [d1, d2] }
  | _ => none }
def msgNamesRow : OpenClaim := { program := "ytlfdmbfbfadifaadoor", sum := "d00edc02409997b68a2a3d9f7367ade333b8a372e9942b0358f4240c41bb9f92", func := "filespace/filespacelaw08.MsgNames", spec := "msgNames", named := ["filespace/msg.subjects", "filespace/stat.formats"], apart := false, laid := [("filespace/stat.formats", laid_filespace_stat_formats), ("filespace/msg.subjects", laid_filespace_msg_subjects)] }
def MsgNamesSaid : Prop := msgNamesRow.holds Tryd.pinned (OpenSpec.ofChange msgNamesSpec)

/-- ITS FALSE NEIGHBOUR: 'it returns false'. Refute it at one input. -/
def msgNamesWrong : ChangeSpec := { name := "msgNames", fn := fun _ => fun
  | [d1, d2] => { results := [.lit (.bool false)], args := [d1, d2] }
  | _ => none }
def MsgNamesWrongFalsely : Prop := msgNamesRow.holds Tryd.pinned (OpenSpec.ofChange msgNamesWrong)

/-- 'filespacelaw08.MsgChecks': WHATEVER THE INPUT: true; the input reads as it did. -/
def msgChecksSpec : ChangeSpec := { name := "msgChecks", fn := fun _ => fun
  | [d] => { results := [.lit (.bool true)], args := [d] }
  | _ => none }
def msgChecksRow : OpenClaim := { program := "ytlfdmbfbfadifaadoor", sum := "d00edc02409997b68a2a3d9f7367ade333b8a372e9942b0358f4240c41bb9f92", func := "filespace/filespacelaw08.MsgChecks", spec := "msgChecks", named := ["filespace/msg.subjects", "filespace/stat.formats"], apart := false, laid := [("filespace/stat.formats", laid_filespace_stat_formats), ("filespace/msg.subjects", laid_filespace_msg_subjects)] }
def MsgChecksSaid : Prop := msgChecksRow.holds Tryd.pinned (OpenSpec.ofChange msgChecksSpec)

/-- ITS FALSE NEIGHBOUR: 'it returns false'. Refute it at one input. -/
def msgChecksWrong : ChangeSpec := { name := "msgChecks", fn := fun _ => fun
  | [d] => { results := [.lit (.bool false)], args := [d] }
  | _ => none }
def MsgChecksWrongFalsely : Prop := msgChecksRow.holds Tryd.pinned (OpenSpec.ofChange msgChecksWrong)

/-- 'filespacelaw08.MsgUnused': WHATEVER THE INPUT: true; the input reads as it did. -/
def msgUnusedSpec : ChangeSpec := { name := "msgUnused", fn := fun _ => fun
  | [d1, d2] => { results := [.lit (.bool true)], args := [d1, d2] }
  | _ => none }
def msgUnusedRow : OpenClaim := { program := "ytlfdmbfbfadifaadoor", sum := "d00edc02409997b68a2a3d9f7367ade333b8a372e9942b0358f4240c41bb9f92", func := "filespace/filespacelaw08.MsgUnused", spec := "msgUnused", named := ["filespace/stat.formats", "filespace/msg.subjects"], apart := false, laid := [("filespace/stat.formats", laid_filespace_stat_formats), ("filespace/msg.subjects", laid_filespace_msg_subjects)] }
def MsgUnusedSaid : Prop := msgUnusedRow.holds Tryd.pinned (OpenSpec.ofChange msgUnusedSpec)

/-- ITS FALSE NEIGHBOUR: 'it returns false'. Refute it at one input. -/
def msgUnusedWrong : ChangeSpec := { name := "msgUnused", fn := fun _ => fun
  | [d1, d2] => { results := [.lit (.bool false)], args := [d1, d2] }
  | _ => none }
def MsgUnusedWrongFalsely : Prop := msgUnusedRow.holds Tryd.pinned (OpenSpec.ofChange msgUnusedWrong)

/-- 'filespacelaw08.MsgAnswers': WHATEVER THE INPUT: true; the input reads as it did. -/
def msgAnswersSpec : ChangeSpec := { name := "msgAnswers", fn := fun _ => fun
  | [d1, d2] => { results := [.lit (.bool true)], args := [d1, d2] }
  | _ => none }
def msgAnswersRow : OpenClaim := { program := "ytlfdmbfbfadifaadoor", sum := "d00edc02409997b68a2a3d9f7367ade333b8a372e9942b0358f4240c41bb9f92", func := "filespace/filespacelaw08.MsgAnswers", spec := "msgAnswers", named := ["filespace/msg.subjects", "filespace/stat.formats"], apart := false, laid := [("filespace/stat.formats", laid_filespace_stat_formats), ("filespace/msg.subjects", laid_filespace_msg_subjects)] }
def MsgAnswersSaid : Prop := msgAnswersRow.holds Tryd.pinned (OpenSpec.ofChange msgAnswersSpec)

/-- ITS FALSE NEIGHBOUR: 'it returns false'. Refute it at one input. -/
def msgAnswersWrong : ChangeSpec := { name := "msgAnswers", fn := fun _ => fun
  | [d1, d2] => { results := [.lit (.bool false)], args := [d1, d2] }
  | _ => none }
def MsgAnswersWrongFalsely : Prop := msgAnswersRow.holds Tryd.pinned (OpenSpec.ofChange msgAnswersWrong)

/-- 'filespacelaw08.MsgFails': WHATEVER THE INPUT: true; the input reads as it did. -/
def msgFailsSpec : ChangeSpec := { name := "msgFails", fn := fun _ => fun
  | [d1, d2] => { results := [.lit (.bool true)], args := [d1, d2] }
  | _ => none }
def msgFailsRow : OpenClaim := { program := "ytlfdmbfbfadifaadoor", sum := "d00edc02409997b68a2a3d9f7367ade333b8a372e9942b0358f4240c41bb9f92", func := "filespace/filespacelaw08.MsgFails", spec := "msgFails", named := ["filespace/msg.subjects", "filespace/stat.formats"], apart := false, laid := [("filespace/stat.formats", laid_filespace_stat_formats), ("filespace/msg.subjects", laid_filespace_msg_subjects)] }
def MsgFailsSaid : Prop := msgFailsRow.holds Tryd.pinned (OpenSpec.ofChange msgFailsSpec)

/-- ITS FALSE NEIGHBOUR: 'it returns false'. Refute it at one input. -/
def msgFailsWrong : ChangeSpec := { name := "msgFails", fn := fun _ => fun
  | [d1, d2] => { results := [.lit (.bool false)], args := [d1, d2] }
  | _ => none }
def MsgFailsWrongFalsely : Prop := msgFailsRow.holds Tryd.pinned (OpenSpec.ofChange msgFailsWrong)

/-- 'filespacelaw08.MsgSame': WHATEVER THE INPUT: true; the input reads as it did. -/
def msgSameSpec : ChangeSpec := { name := "msgSame", fn := fun _ => fun
  | [d1, d2] => { results := [.lit (.bool true)], args := [d1, d2] }
  | _ => none }
def msgSameRow : OpenClaim := { program := "ytlfdmbfbfadifaadoor", sum := "d00edc02409997b68a2a3d9f7367ade333b8a372e9942b0358f4240c41bb9f92", func := "filespace/filespacelaw08.MsgSame", spec := "msgSame", named := ["filespace/msg.subjects", "filespace/stat.formats"], apart := false, laid := [("filespace/stat.formats", laid_filespace_stat_formats), ("filespace/msg.subjects", laid_filespace_msg_subjects)] }
def MsgSameSaid : Prop := msgSameRow.holds Tryd.pinned (OpenSpec.ofChange msgSameSpec)

/-- ITS FALSE NEIGHBOUR: 'it returns false'. Refute it at one input. -/
def msgSameWrong : ChangeSpec := { name := "msgSame", fn := fun _ => fun
  | [d1, d2] => { results := [.lit (.bool false)], args := [d1, d2] }
  | _ => none }
def MsgSameWrongFalsely : Prop := msgSameRow.holds Tryd.pinned (OpenSpec.ofChange msgSameWrong)

/-- 'filespacelaw09.WireBack': WHATEVER THE INPUT: true; the input reads as it did. -/
def wireBackSpec : ChangeSpec := { name := "wireBack", fn := fun _ => fun
  | [d1, d2] => { results := [.lit (.bool true)], args := [d1, d2] }
  | _ => none }
def wireBackRow : OpenClaim := { program := "ytlfdmbfbfadifaadoor", sum := "d00edc02409997b68a2a3d9f7367ade333b8a372e9942b0358f4240c41bb9f92", func := "filespace/filespacelaw09.WireBack", spec := "wireBack", unfollowed := true, recurses := true, named := ["filespace/stat.formats", "filespace/msg.subjects"], apart := false, laid := [("filespace/stat.formats", laid_filespace_stat_formats), ("filespace/msg.subjects", laid_filespace_msg_subjects)] }
def WireBackSaid : Prop := wireBackRow.holds Tryd.pinned (OpenSpec.ofChange wireBackSpec)

/-- ITS FALSE NEIGHBOUR: 'it returns false'. Refute it at one input. -/
def wireBackWrong : ChangeSpec := { name := "wireBack", fn := fun _ => fun
  | [d1, d2] => { results := [.lit (.bool false)], args := [d1, d2] }
  | _ => none }
def WireBackWrongFalsely : Prop := wireBackRow.holds Tryd.pinned (OpenSpec.ofChange wireBackWrong)

/-- 'filespacelaw09.WireOnly': WHATEVER THE INPUT: true; the input reads as it did. -/
def wireOnlySpec : ChangeSpec := { name := "wireOnly", fn := fun _ => fun
  | [d1, d2] => { results := [.lit (.bool true)], args := [d1, d2] }
  | _ => none }
def wireOnlyRow : OpenClaim := { program := "ytlfdmbfbfadifaadoor", sum := "d00edc02409997b68a2a3d9f7367ade333b8a372e9942b0358f4240c41bb9f92", func := "filespace/filespacelaw09.WireOnly", spec := "wireOnly", unfollowed := true, recurses := true, named := ["filespace/stat.formats", "filespace/msg.subjects"], apart := false, laid := [("filespace/stat.formats", laid_filespace_stat_formats), ("filespace/msg.subjects", laid_filespace_msg_subjects)] }
def WireOnlySaid : Prop := wireOnlyRow.holds Tryd.pinned (OpenSpec.ofChange wireOnlySpec)

/-- ITS FALSE NEIGHBOUR: 'it returns false'. Refute it at one input. -/
def wireOnlyWrong : ChangeSpec := { name := "wireOnly", fn := fun _ => fun
  | [d1, d2] => { results := [.lit (.bool false)], args := [d1, d2] }
  | _ => none }
def WireOnlyWrongFalsely : Prop := wireOnlyRow.holds Tryd.pinned (OpenSpec.ofChange wireOnlyWrong)

/-- 'filespacelaw09.WirePieces': WHATEVER THE INPUT: true; the input reads as it did. -/
def wirePiecesSpec : ChangeSpec := { name := "wirePieces", fn := fun _ => fun
  | [d1, d2, d3] => { results := [.lit (.bool true)], args := [d1, d2, d3] }
  | _ => none }
def wirePiecesRow : OpenClaim := { program := "ytlfdmbfbfadifaadoor", sum := "d00edc02409997b68a2a3d9f7367ade333b8a372e9942b0358f4240c41bb9f92", func := "filespace/filespacelaw09.WirePieces", spec := "wirePieces", unfollowed := true, recurses := true, named := ["filespace/stat.formats", "filespace/msg.subjects"], apart := false, laid := [("filespace/stat.formats", laid_filespace_stat_formats), ("filespace/msg.subjects", laid_filespace_msg_subjects)] }
def WirePiecesSaid : Prop := wirePiecesRow.holds Tryd.pinned (OpenSpec.ofChange wirePiecesSpec)

/-- ITS FALSE NEIGHBOUR: 'it returns false'. Refute it at one input. -/
def wirePiecesWrong : ChangeSpec := { name := "wirePieces", fn := fun _ => fun
  | [d1, d2, d3] => { results := [.lit (.bool false)], args := [d1, d2, d3] }
  | _ => none }
def WirePiecesWrongFalsely : Prop := wirePiecesRow.holds Tryd.pinned (OpenSpec.ofChange wirePiecesWrong)

/- THE SECOND FORM. 'bulk': how many values and letters a reading holds, each counted each time it is reached (what is shared counts as often as it is met; a slice's spare places count too). A statement '..UptoSaid' is the law's where the arguments, and the package variables that the reading takes, are together of bulk at most 1048576: NARROWER than '..Said'. Prove '..Said' where nothing that the law and all that it calls make is longer than what came in: it says more and counts as full. Else prove '..UptoSaid'. A law counts once. -/
mutual
def uptoBulk {H : Type} : DataW H → Nat
  | .lit (.string bytes) => bytes.length + 1
  | .lit _ => 1
  | .nil => 1
  | .ptr d => uptoBulk d + 1
  | .slice elems spare => uptoBulkAll elems + uptoBulkAll spare + 1
  | .agg parts => uptoBulkAll parts + 1
  | .iface _ d => uptoBulk d + 1
  | .map entries => uptoBulkEntries entries + 1
  | .held _ => 1
def uptoBulkAll {H : Type} : List (DataW H) → Nat
  | [] => 0
  | d :: r => uptoBulk d + uptoBulkAll r
def uptoBulkEntries {H : Type} : List (Lit × DataW H) → Nat
  | [] => 0
  | x :: r => uptoBulkEntry x + uptoBulkEntries r
def uptoBulkEntry {H : Type} : Lit × DataW H → Nat
  | (.string bytes, d) => bytes.length + uptoBulk d + 1
  | (_, d) => uptoBulk d + 1
 end
def uptoSmall : (H : Type) → List (DataW H) → Bool := fun _ ds => decide (uptoBulkAll ds ≤ 1048576)
def OpenSpec.upto (s : _root_.Go.ChangeSpec) : _root_.Go.OpenSpec := { _root_.Go.OpenSpec.ofChange s with cond := some uptoSmall }

/-- 'filespacelaw08.MsgKinds', WHERE WHAT IT READS IS OF BULK AT MOST 1048576: true; the input reads as it did. -/
def msgKindsUptoRow : OpenClaim := { program := "ytlfdmbfbfadifaadoor", sum := "d00edc02409997b68a2a3d9f7367ade333b8a372e9942b0358f4240c41bb9f92", func := "filespace/filespacelaw08.MsgKinds", spec := "msgKinds", named := ["filespace/msg.subjects", "filespace/stat.formats"], apart := false, laid := [("filespace/stat.formats", laid_filespace_stat_formats), ("filespace/msg.subjects", laid_filespace_msg_subjects)], narrowed := true }
def MsgKindsUptoSaid : Prop := msgKindsUptoRow.holds Tryd.pinned (OpenSpec.upto msgKindsSpec)

/-- 'filespacelaw08.MsgNames', WHERE WHAT IT READS IS OF BULK AT MOST 1048576: true; the input reads as it did. -/
def msgNamesUptoRow : OpenClaim := { program := "ytlfdmbfbfadifaadoor", sum := "d00edc02409997b68a2a3d9f7367ade333b8a372e9942b0358f4240c41bb9f92", func := "filespace/filespacelaw08.MsgNames", spec := "msgNames", named := ["filespace/msg.subjects", "filespace/stat.formats"], apart := false, laid := [("filespace/stat.formats", laid_filespace_stat_formats), ("filespace/msg.subjects", laid_filespace_msg_subjects)], narrowed := true }
def MsgNamesUptoSaid : Prop := msgNamesUptoRow.holds Tryd.pinned (OpenSpec.upto msgNamesSpec)

/-- 'filespacelaw08.MsgChecks', WHERE WHAT IT READS IS OF BULK AT MOST 1048576: true; the input reads as it did. -/
def msgChecksUptoRow : OpenClaim := { program := "ytlfdmbfbfadifaadoor", sum := "d00edc02409997b68a2a3d9f7367ade333b8a372e9942b0358f4240c41bb9f92", func := "filespace/filespacelaw08.MsgChecks", spec := "msgChecks", named := ["filespace/msg.subjects", "filespace/stat.formats"], apart := false, laid := [("filespace/stat.formats", laid_filespace_stat_formats), ("filespace/msg.subjects", laid_filespace_msg_subjects)], narrowed := true }
def MsgChecksUptoSaid : Prop := msgChecksUptoRow.holds Tryd.pinned (OpenSpec.upto msgChecksSpec)

/-- 'filespacelaw08.MsgUnused', WHERE WHAT IT READS IS OF BULK AT MOST 1048576: true; the input reads as it did. -/
def msgUnusedUptoRow : OpenClaim := { program := "ytlfdmbfbfadifaadoor", sum := "d00edc02409997b68a2a3d9f7367ade333b8a372e9942b0358f4240c41bb9f92", func := "filespace/filespacelaw08.MsgUnused", spec := "msgUnused", named := ["filespace/stat.formats", "filespace/msg.subjects"], apart := false, laid := [("filespace/stat.formats", laid_filespace_stat_formats), ("filespace/msg.subjects", laid_filespace_msg_subjects)], narrowed := true }
def MsgUnusedUptoSaid : Prop := msgUnusedUptoRow.holds Tryd.pinned (OpenSpec.upto msgUnusedSpec)

/-- 'filespacelaw08.MsgAnswers', WHERE WHAT IT READS IS OF BULK AT MOST 1048576: true; the input reads as it did. -/
def msgAnswersUptoRow : OpenClaim := { program := "ytlfdmbfbfadifaadoor", sum := "d00edc02409997b68a2a3d9f7367ade333b8a372e9942b0358f4240c41bb9f92", func := "filespace/filespacelaw08.MsgAnswers", spec := "msgAnswers", named := ["filespace/msg.subjects", "filespace/stat.formats"], apart := false, laid := [("filespace/stat.formats", laid_filespace_stat_formats), ("filespace/msg.subjects", laid_filespace_msg_subjects)], narrowed := true }
def MsgAnswersUptoSaid : Prop := msgAnswersUptoRow.holds Tryd.pinned (OpenSpec.upto msgAnswersSpec)

/-- 'filespacelaw08.MsgFails', WHERE WHAT IT READS IS OF BULK AT MOST 1048576: true; the input reads as it did. -/
def msgFailsUptoRow : OpenClaim := { program := "ytlfdmbfbfadifaadoor", sum := "d00edc02409997b68a2a3d9f7367ade333b8a372e9942b0358f4240c41bb9f92", func := "filespace/filespacelaw08.MsgFails", spec := "msgFails", named := ["filespace/msg.subjects", "filespace/stat.formats"], apart := false, laid := [("filespace/stat.formats", laid_filespace_stat_formats), ("filespace/msg.subjects", laid_filespace_msg_subjects)], narrowed := true }
def MsgFailsUptoSaid : Prop := msgFailsUptoRow.holds Tryd.pinned (OpenSpec.upto msgFailsSpec)

/-- 'filespacelaw08.MsgSame', WHERE WHAT IT READS IS OF BULK AT MOST 1048576: true; the input reads as it did. -/
def msgSameUptoRow : OpenClaim := { program := "ytlfdmbfbfadifaadoor", sum := "d00edc02409997b68a2a3d9f7367ade333b8a372e9942b0358f4240c41bb9f92", func := "filespace/filespacelaw08.MsgSame", spec := "msgSame", named := ["filespace/msg.subjects", "filespace/stat.formats"], apart := false, laid := [("filespace/stat.formats", laid_filespace_stat_formats), ("filespace/msg.subjects", laid_filespace_msg_subjects)], narrowed := true }
def MsgSameUptoSaid : Prop := msgSameUptoRow.holds Tryd.pinned (OpenSpec.upto msgSameSpec)

/-- 'filespacelaw09.WireBack', WHERE WHAT IT READS IS OF BULK AT MOST 1048576: true; the input reads as it did. -/
def wireBackUptoRow : OpenClaim := { program := "ytlfdmbfbfadifaadoor", sum := "d00edc02409997b68a2a3d9f7367ade333b8a372e9942b0358f4240c41bb9f92", func := "filespace/filespacelaw09.WireBack", spec := "wireBack", unfollowed := true, recurses := true, named := ["filespace/stat.formats", "filespace/msg.subjects"], apart := false, laid := [("filespace/stat.formats", laid_filespace_stat_formats), ("filespace/msg.subjects", laid_filespace_msg_subjects)], narrowed := true }
def WireBackUptoSaid : Prop := wireBackUptoRow.holds Tryd.pinned (OpenSpec.upto wireBackSpec)

/-- 'filespacelaw09.WireOnly', WHERE WHAT IT READS IS OF BULK AT MOST 1048576: true; the input reads as it did. -/
def wireOnlyUptoRow : OpenClaim := { program := "ytlfdmbfbfadifaadoor", sum := "d00edc02409997b68a2a3d9f7367ade333b8a372e9942b0358f4240c41bb9f92", func := "filespace/filespacelaw09.WireOnly", spec := "wireOnly", unfollowed := true, recurses := true, named := ["filespace/stat.formats", "filespace/msg.subjects"], apart := false, laid := [("filespace/stat.formats", laid_filespace_stat_formats), ("filespace/msg.subjects", laid_filespace_msg_subjects)], narrowed := true }
def WireOnlyUptoSaid : Prop := wireOnlyUptoRow.holds Tryd.pinned (OpenSpec.upto wireOnlySpec)

/-- 'filespacelaw09.WirePieces', WHERE WHAT IT READS IS OF BULK AT MOST 1048576: true; the input reads as it did. -/
def wirePiecesUptoRow : OpenClaim := { program := "ytlfdmbfbfadifaadoor", sum := "d00edc02409997b68a2a3d9f7367ade333b8a372e9942b0358f4240c41bb9f92", func := "filespace/filespacelaw09.WirePieces", spec := "wirePieces", unfollowed := true, recurses := true, named := ["filespace/stat.formats", "filespace/msg.subjects"], apart := false, laid := [("filespace/stat.formats", laid_filespace_stat_formats), ("filespace/msg.subjects", laid_filespace_msg_subjects)], narrowed := true }
def WirePiecesUptoSaid : Prop := wirePiecesUptoRow.holds Tryd.pinned (OpenSpec.upto wirePiecesSpec)

end Rows
end Go.Proofs.YtlfdmbfbfadifaaDoor
