/-
  DERIVED. GIVEN WITH THE SEED: THE CARDS: each row of YtinjnbcikoejkaaDoorRows.lean that lists a variable, with what it lists TIED to the program's text (the seventh form; the later family's looks); each row that meets fmt, with fmt's text TOLD by the authors' own Lean function (tested against real Go, not proved from fmt's source: count such statements apart). THE CARD IS WHAT COUNTS. Prove the row's statement (the work); the ties are given (YtinjnbcikoejkaaDoorTie.lean); close each card by the builder's one call (the guide's Derived/Test/ToyasCard.lean, 'card_holds'). Laid BY PROGRAM, IN A SANDBOX (cutbox-door.mjs). By AI agents, Wed Nov 11 2026. No macro, syntax, notation, axiom, sorry.
-/
import Derived.Test.YtinjnbcikoejkaaDoorRows
import GoSem.ClaimSeven
namespace Go.Proofs.YtinjnbcikoejkaaDoor
namespace Rows

/-- THE TIED CARD OF 'filespacelaw07.StatChecks'. -/
def statChecksCard : Claim7 := { stood := { row := statChecksRow, standIns := [], harness := (true, "f1533784b12955c233332fd8bc1faf36c02eb70270bb45133abd593e1849deed"), looks := false }, kinds := [], alts := [], laidByText := true, laidKinds := [.data], laidTests := true, laidLooks := .later }
def StatChecksCardSaid : Prop := Claim7.holds Tryd.pinned (.plain (OpenSpec.ofChange statChecksSpec)) statChecksCard

/-- THE TIED CARD OF 'filespacelaw07.StatPuts'. -/
def statPutsCard : Claim7 := { stood := { row := statPutsRow, standIns := [], harness := (true, "f1533784b12955c233332fd8bc1faf36c02eb70270bb45133abd593e1849deed"), looks := false }, kinds := [], alts := [], laidByText := true, laidKinds := [.data], laidTests := true, laidLooks := .later }
def StatPutsCardSaid : Prop := Claim7.holds Tryd.pinned (.plain (OpenSpec.ofChange statPutsSpec)) statPutsCard

/-- THE TIED CARD OF 'filespacelaw07.StatGets'. -/
def statGetsCard : Claim7 := { stood := { row := statGetsRow, standIns := [], harness := (true, "f1533784b12955c233332fd8bc1faf36c02eb70270bb45133abd593e1849deed"), looks := false }, kinds := [], alts := [], laidByText := true, laidKinds := [.data], laidTests := true, laidLooks := .later }
def StatGetsCardSaid : Prop := Claim7.holds Tryd.pinned (.plain (OpenSpec.ofChange statGetsSpec)) statGetsCard

/-- THE TIED CARD OF 'filespacelaw07.StatLists'. -/
def statListsCard : Claim7 := { stood := { row := statListsRow, standIns := [], harness := (true, "f1533784b12955c233332fd8bc1faf36c02eb70270bb45133abd593e1849deed"), looks := false }, kinds := [], alts := [], laidByText := true, laidKinds := [.data], laidTests := true, laidLooks := .later }
def StatListsCardSaid : Prop := Claim7.holds Tryd.pinned (.plain (OpenSpec.ofChange statListsSpec)) statListsCard

/-- THE TIED CARD OF 'filespacelaw07.StatNones'. -/
def statNonesCard : Claim7 := { stood := { row := statNonesRow, standIns := [], harness := (true, "f1533784b12955c233332fd8bc1faf36c02eb70270bb45133abd593e1849deed"), looks := false }, kinds := [], alts := [], laidByText := true, laidKinds := [.data], laidTests := true, laidLooks := .later }
def StatNonesCardSaid : Prop := Claim7.holds Tryd.pinned (.plain (OpenSpec.ofChange statNonesSpec)) statNonesCard

/-- THE TIED CARD OF 'filespacelaw07.StatReturns'. -/
def statReturnsCard : Claim7 := { stood := { row := statReturnsRow, standIns := [], harness := (true, "f1533784b12955c233332fd8bc1faf36c02eb70270bb45133abd593e1849deed"), looks := false }, kinds := [], alts := [], laidByText := true, laidKinds := [.data], laidTests := true, laidLooks := .later }
def StatReturnsCardSaid : Prop := Claim7.holds Tryd.pinned (.plain (OpenSpec.ofChange statReturnsSpec)) statReturnsCard

/-- THE TIED CARD OF 'filespacelaw07.StatJoins'. -/
def statJoinsCard : Claim7 := { stood := { row := statJoinsRow, standIns := [], harness := (true, "f1533784b12955c233332fd8bc1faf36c02eb70270bb45133abd593e1849deed"), looks := false }, kinds := [], alts := [], laidByText := true, laidKinds := [.data], laidTests := true, laidLooks := .later }
def StatJoinsCardSaid : Prop := Claim7.holds Tryd.pinned (.plain (OpenSpec.ofChange statJoinsSpec)) statJoinsCard

/-- THE SECOND FORM's CARD OF 'filespacelaw07.StatChecks'. -/
def statChecksUptoCard : Claim7 := { stood := { row := statChecksUptoRow, standIns := [], harness := (true, "f1533784b12955c233332fd8bc1faf36c02eb70270bb45133abd593e1849deed"), looks := false }, kinds := [], alts := [], laidByText := true, laidKinds := [.data], laidTests := true, laidLooks := .later }
def StatChecksUptoCardSaid : Prop := Claim7.holds Tryd.pinned (.plain (OpenSpec.upto statChecksSpec)) statChecksUptoCard

/-- THE SECOND FORM's CARD OF 'filespacelaw07.StatPuts'. -/
def statPutsUptoCard : Claim7 := { stood := { row := statPutsUptoRow, standIns := [], harness := (true, "f1533784b12955c233332fd8bc1faf36c02eb70270bb45133abd593e1849deed"), looks := false }, kinds := [], alts := [], laidByText := true, laidKinds := [.data], laidTests := true, laidLooks := .later }
def StatPutsUptoCardSaid : Prop := Claim7.holds Tryd.pinned (.plain (OpenSpec.upto statPutsSpec)) statPutsUptoCard

/-- THE SECOND FORM's CARD OF 'filespacelaw07.StatGets'. -/
def statGetsUptoCard : Claim7 := { stood := { row := statGetsUptoRow, standIns := [], harness := (true, "f1533784b12955c233332fd8bc1faf36c02eb70270bb45133abd593e1849deed"), looks := false }, kinds := [], alts := [], laidByText := true, laidKinds := [.data], laidTests := true, laidLooks := .later }
def StatGetsUptoCardSaid : Prop := Claim7.holds Tryd.pinned (.plain (OpenSpec.upto statGetsSpec)) statGetsUptoCard

/-- THE SECOND FORM's CARD OF 'filespacelaw07.StatLists'. -/
def statListsUptoCard : Claim7 := { stood := { row := statListsUptoRow, standIns := [], harness := (true, "f1533784b12955c233332fd8bc1faf36c02eb70270bb45133abd593e1849deed"), looks := false }, kinds := [], alts := [], laidByText := true, laidKinds := [.data], laidTests := true, laidLooks := .later }
def StatListsUptoCardSaid : Prop := Claim7.holds Tryd.pinned (.plain (OpenSpec.upto statListsSpec)) statListsUptoCard

/-- THE SECOND FORM's CARD OF 'filespacelaw07.StatNones'. -/
def statNonesUptoCard : Claim7 := { stood := { row := statNonesUptoRow, standIns := [], harness := (true, "f1533784b12955c233332fd8bc1faf36c02eb70270bb45133abd593e1849deed"), looks := false }, kinds := [], alts := [], laidByText := true, laidKinds := [.data], laidTests := true, laidLooks := .later }
def StatNonesUptoCardSaid : Prop := Claim7.holds Tryd.pinned (.plain (OpenSpec.upto statNonesSpec)) statNonesUptoCard

/-- THE SECOND FORM's CARD OF 'filespacelaw07.StatReturns'. -/
def statReturnsUptoCard : Claim7 := { stood := { row := statReturnsUptoRow, standIns := [], harness := (true, "f1533784b12955c233332fd8bc1faf36c02eb70270bb45133abd593e1849deed"), looks := false }, kinds := [], alts := [], laidByText := true, laidKinds := [.data], laidTests := true, laidLooks := .later }
def StatReturnsUptoCardSaid : Prop := Claim7.holds Tryd.pinned (.plain (OpenSpec.upto statReturnsSpec)) statReturnsUptoCard

/-- THE SECOND FORM's CARD OF 'filespacelaw07.StatJoins'. -/
def statJoinsUptoCard : Claim7 := { stood := { row := statJoinsUptoRow, standIns := [], harness := (true, "f1533784b12955c233332fd8bc1faf36c02eb70270bb45133abd593e1849deed"), looks := false }, kinds := [], alts := [], laidByText := true, laidKinds := [.data], laidTests := true, laidLooks := .later }
def StatJoinsUptoCardSaid : Prop := Claim7.holds Tryd.pinned (.plain (OpenSpec.upto statJoinsSpec)) statJoinsUptoCard
end Rows
end Go.Proofs.YtinjnbcikoejkaaDoor
