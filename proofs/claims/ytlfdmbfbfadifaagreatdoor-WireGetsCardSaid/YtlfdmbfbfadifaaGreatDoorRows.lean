/-
  NARROWER THAN 'FOR EVERY INPUT', by the rows' own cells (each row's printed sentence says how): WirePuts: laid · WireGets: laid · WireSplits: laid.
  DERIVED. THE GIVEN ROWS OF THIS SEAT. 3 by the template 'for every input the law returns true; each argument reads behind the call as it read before'; 0 by the template 'total and deterministic' (their statements: YtlfdmbfbfadifaaGreatDoorTotals.lean).
  GIVEN WITH THE SEED: the statements are not yours to turn. If you find one false, say at which input.
  Laid BY PROGRAM, IN A SANDBOX (cutbox-rows.mjs): the forced cells as the released guide's own fill.sh prints them over the translation 3194220401261733… (all of the seat's roots in one cut). By AI agents, Wed Nov 11 2026. No macro, syntax, notation, axiom, sorry.
-/
import Derived.Test.YtlfdmbfbfadifaaGreatDoorChecked
import GoSem.Claim
import GoSem.ClaimJoined
import GoSem.ClaimMapViews
import Derived.JoinedTies
import Derived.KernelRfl
namespace Go.Proofs.YtlfdmbfbfadifaaGreatDoor
/- THE CELL 'sum', in the pinned program and in every row, IS THE sha256 OF THE DUMP (.gsa) THAT YtlfdmbfbfadifaaGreatDoorProg.lean LOADS. Nothing in Lean hashes anything: it is a label: what it is worth is what the hold of that sum in a sandbox is worth. -/
noncomputable def Tryz.pinned : Pinned := { name := "ytlfdmbfbfadifaagreatdoor", sum := "3194220401261733ab987f3595808a6e210a4634b4f92bd0a74e3b85feabc715", checked := Tryz.checked }
namespace Rows
def none {H : Type} : Left H := { results := [], args := [] }

/- WHAT THE LISTED PACKAGE-LEVEL VARIABLES READ AS WHEN THE CALL BEGINS. Each datum BY PROGRAM (the guide's laid-datum.mjs) off the statement by which the dump's own 'gosem.cut.vars' lays the variable. In a bare row this is a premise. The card (YtlfdmbfbfadifaaGreatDoorCards.lean) ties it to the program's text. -/
def laid_filespace_stat_formats {H : Type} : DataW H := .agg [.agg [.lit (.int .i64 2), .lit (.int .i64 65534), .lit (.bool false)], .agg [.lit (.int .i64 4), .lit (.int .i64 4294967294), .lit (.bool false)], .agg [.lit (.int .i64 1), .lit (.int .i64 232), .lit (.bool true)], .agg [.lit (.int .i64 4), .lit (.int .i64 2147483647), .lit (.bool false)], .agg [.lit (.int .i64 8), .lit (.int .i64 1099511627776), .lit (.bool false)], .agg [.lit (.int .i64 4), .lit (.int .i64 3892314623), .lit (.bool true)], .agg [.lit (.int .i64 8), .lit (.int .i64 1099511627776), .lit (.bool false)], .agg [.lit (.int .i64 8), .lit (.int .i64 1099511627776), .lit (.bool false)], .agg [.lit (.int .i64 8), .lit (.int .i64 9007199254740991), .lit (.bool false)]]
def laid_filespace_msg_subjects {H : Type} : DataW H := .agg [.lit (.string [86, 101, 114, 115, 105, 111, 110]), .lit (.string [65, 117, 116, 104]), .lit (.string [65, 116, 116, 97, 99, 104]), .lit (.string [69, 114, 114, 111, 114]), .lit (.string [70, 108, 117, 115, 104]), .lit (.string [87, 97, 108, 107]), .lit (.string [79, 112, 101, 110]), .lit (.string [67, 114, 101, 97, 116, 101]), .lit (.string [82, 101, 97, 100]), .lit (.string [87, 114, 105, 116, 101]), .lit (.string [67, 108, 117, 110, 107]), .lit (.string [82, 101, 109, 111, 118, 101]), .lit (.string [83, 116, 97, 116]), .lit (.string [87, 115, 116, 97, 116]), .lit (.string [76, 101, 97, 115, 101]), .lit (.string [82, 101, 115, 117, 109, 101])]

/-- 'filespacelaw09.WirePuts': WHATEVER THE INPUT: true; the input reads as it did. -/
def wirePutsSpec : ChangeSpec := { name := "wirePuts", fn := fun _ => fun
  | [d] => { results := [.lit (.bool true)], args := [d] }
  | _ => none }
def wirePutsRow : OpenClaim := { program := "ytlfdmbfbfadifaagreatdoor", sum := "3194220401261733ab987f3595808a6e210a4634b4f92bd0a74e3b85feabc715", func := "filespace/filespacelaw09.WirePuts", spec := "wirePuts", unfollowed := true, recurses := true, named := ["filespace/stat.formats", "filespace/msg.subjects"], apart := false, laid := [("filespace/stat.formats", laid_filespace_stat_formats), ("filespace/msg.subjects", laid_filespace_msg_subjects)] }
def WirePutsSaid : Prop := wirePutsRow.holds Tryz.pinned (OpenSpec.ofChange wirePutsSpec)

/-- ITS FALSE NEIGHBOUR: 'it returns false'. Refute it at one input. -/
def wirePutsWrong : ChangeSpec := { name := "wirePuts", fn := fun _ => fun
  | [d] => { results := [.lit (.bool false)], args := [d] }
  | _ => none }
def WirePutsWrongFalsely : Prop := wirePutsRow.holds Tryz.pinned (OpenSpec.ofChange wirePutsWrong)

/-- 'filespacelaw09.WireGets': WHATEVER THE INPUT: true; the input reads as it did. -/
def wireGetsSpec : ChangeSpec := { name := "wireGets", fn := fun _ => fun
  | [d1, d2] => { results := [.lit (.bool true)], args := [d1, d2] }
  | _ => none }
def wireGetsRow : OpenClaim := { program := "ytlfdmbfbfadifaagreatdoor", sum := "3194220401261733ab987f3595808a6e210a4634b4f92bd0a74e3b85feabc715", func := "filespace/filespacelaw09.WireGets", spec := "wireGets", unfollowed := true, recurses := true, named := ["filespace/stat.formats", "filespace/msg.subjects"], apart := false, laid := [("filespace/stat.formats", laid_filespace_stat_formats), ("filespace/msg.subjects", laid_filespace_msg_subjects)] }
def WireGetsSaid : Prop := wireGetsRow.holds Tryz.pinned (OpenSpec.ofChange wireGetsSpec)

/-- ITS FALSE NEIGHBOUR: 'it returns false'. Refute it at one input. -/
def wireGetsWrong : ChangeSpec := { name := "wireGets", fn := fun _ => fun
  | [d1, d2] => { results := [.lit (.bool false)], args := [d1, d2] }
  | _ => none }
def WireGetsWrongFalsely : Prop := wireGetsRow.holds Tryz.pinned (OpenSpec.ofChange wireGetsWrong)

/-- 'filespacelaw09.WireSplits': WHATEVER THE INPUT: true; the input reads as it did. -/
def wireSplitsSpec : ChangeSpec := { name := "wireSplits", fn := fun _ => fun
  | [d1, d2] => { results := [.lit (.bool true)], args := [d1, d2] }
  | _ => none }
def wireSplitsRow : OpenClaim := { program := "ytlfdmbfbfadifaagreatdoor", sum := "3194220401261733ab987f3595808a6e210a4634b4f92bd0a74e3b85feabc715", func := "filespace/filespacelaw09.WireSplits", spec := "wireSplits", unfollowed := true, recurses := true, named := ["filespace/stat.formats", "filespace/msg.subjects"], apart := false, laid := [("filespace/stat.formats", laid_filespace_stat_formats), ("filespace/msg.subjects", laid_filespace_msg_subjects)] }
def WireSplitsSaid : Prop := wireSplitsRow.holds Tryz.pinned (OpenSpec.ofChange wireSplitsSpec)

/-- ITS FALSE NEIGHBOUR: 'it returns false'. Refute it at one input. -/
def wireSplitsWrong : ChangeSpec := { name := "wireSplits", fn := fun _ => fun
  | [d1, d2] => { results := [.lit (.bool false)], args := [d1, d2] }
  | _ => none }
def WireSplitsWrongFalsely : Prop := wireSplitsRow.holds Tryz.pinned (OpenSpec.ofChange wireSplitsWrong)

/- THE SECOND FORM. 'bulk': how many values and letters a reading holds, each counted each time it is reached (what is shared counts as often as it is met; a slice's spare places count too). A statement '..UptoSaid' is the law's where the arguments, and the package variables that the reading takes, are together of bulk at most 1048576: NARROWER than '..Said'. Prove '..Said' where nothing that the law and all that it calls make is longer than what came in: it says more and counts as full. Else prove '..UptoSaid'. A law counts once. -/
mutual
def uptoBulk {H : Type} : DataW H → Nat
  | .lit (.string bytes) => bytes.length + 1
  | .lit _ => 1
  | .nil => 1
  | .ptr d => uptoBulk d + 1
  | .slice elems spare => uptoBulkAll elems + uptoBulkAll spare + 1
  | .agg parts => uptoBulkAll parts + 1
  | .iface _ d => uptoBulk d + 1
  | .map entries => uptoBulkEntries entries + 1
  | .held _ => 1
def uptoBulkAll {H : Type} : List (DataW H) → Nat
  | [] => 0
  | d :: r => uptoBulk d + uptoBulkAll r
def uptoBulkEntries {H : Type} : List (Lit × DataW H) → Nat
  | [] => 0
  | x :: r => uptoBulkEntry x + uptoBulkEntries r
def uptoBulkEntry {H : Type} : Lit × DataW H → Nat
  | (.string bytes, d) => bytes.length + uptoBulk d + 1
  | (_, d) => uptoBulk d + 1
 end
def uptoSmall : (H : Type) → List (DataW H) → Bool := fun _ ds => decide (uptoBulkAll ds ≤ 1048576)
def OpenSpec.upto (s : _root_.Go.ChangeSpec) : _root_.Go.OpenSpec := { _root_.Go.OpenSpec.ofChange s with cond := some uptoSmall }

/-- 'filespacelaw09.WirePuts', WHERE WHAT IT READS IS OF BULK AT MOST 1048576: true; the input reads as it did. -/
def wirePutsUptoRow : OpenClaim := { program := "ytlfdmbfbfadifaagreatdoor", sum := "3194220401261733ab987f3595808a6e210a4634b4f92bd0a74e3b85feabc715", func := "filespace/filespacelaw09.WirePuts", spec := "wirePuts", unfollowed := true, recurses := true, named := ["filespace/stat.formats", "filespace/msg.subjects"], apart := false, laid := [("filespace/stat.formats", laid_filespace_stat_formats), ("filespace/msg.subjects", laid_filespace_msg_subjects)], narrowed := true }
def WirePutsUptoSaid : Prop := wirePutsUptoRow.holds Tryz.pinned (OpenSpec.upto wirePutsSpec)

/-- 'filespacelaw09.WireGets', WHERE WHAT IT READS IS OF BULK AT MOST 1048576: true; the input reads as it did. -/
def wireGetsUptoRow : OpenClaim := { program := "ytlfdmbfbfadifaagreatdoor", sum := "3194220401261733ab987f3595808a6e210a4634b4f92bd0a74e3b85feabc715", func := "filespace/filespacelaw09.WireGets", spec := "wireGets", unfollowed := true, recurses := true, named := ["filespace/stat.formats", "filespace/msg.subjects"], apart := false, laid := [("filespace/stat.formats", laid_filespace_stat_formats), ("filespace/msg.subjects", laid_filespace_msg_subjects)], narrowed := true }
def WireGetsUptoSaid : Prop := wireGetsUptoRow.holds Tryz.pinned (OpenSpec.upto wireGetsSpec)

/-- 'filespacelaw09.WireSplits', WHERE WHAT IT READS IS OF BULK AT MOST 1048576: true; the input reads as it did. -/
def wireSplitsUptoRow : OpenClaim := { program := "ytlfdmbfbfadifaagreatdoor", sum := "3194220401261733ab987f3595808a6e210a4634b4f92bd0a74e3b85feabc715", func := "filespace/filespacelaw09.WireSplits", spec := "wireSplits", unfollowed := true, recurses := true, named := ["filespace/stat.formats", "filespace/msg.subjects"], apart := false, laid := [("filespace/stat.formats", laid_filespace_stat_formats), ("filespace/msg.subjects", laid_filespace_msg_subjects)], narrowed := true }
def WireSplitsUptoSaid : Prop := wireSplitsUptoRow.holds Tryz.pinned (OpenSpec.upto wireSplitsSpec)

end Rows
end Go.Proofs.YtlfdmbfbfadifaaGreatDoor
