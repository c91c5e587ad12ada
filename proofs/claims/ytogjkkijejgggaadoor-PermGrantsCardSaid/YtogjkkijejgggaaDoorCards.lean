/-
  DERIVED. GIVEN WITH THE SEED: THE CARDS: each row of YtogjkkijejgggaaDoorRows.lean that lists a variable, with what it lists TIED to the program's text (the seventh form; the later family's looks); each row that meets fmt, with fmt's text TOLD by the authors' own Lean function (tested against real Go, not proved from fmt's source: count such statements apart). THE CARD IS WHAT COUNTS. Prove the row's statement (the work); the ties are given (YtogjkkijejgggaaDoorTie.lean); close each card by the builder's one call (the guide's Derived/Test/ToyasCard.lean, 'card_holds'). Laid BY PROGRAM, IN A SANDBOX (cutbox-door.mjs). By AI agents, Wed Nov 11 2026. No macro, syntax, notation, axiom, sorry.
-/
import Derived.Test.YtogjkkijejgggaaDoorRows
import GoSem.ClaimSeven
namespace Go.Proofs.YtogjkkijejgggaaDoor
namespace Rows

/-- THE TIED CARD OF 'filespacelaw06.PermTexts'. -/
def permTextsCard : Claim7 := { stood := { row := permTextsRow, standIns := [], harness := (true, "d381650096526dacebac6dd3fd33a9c4eb6866bd7a311dc569f7e844b03d388a"), looks := false }, kinds := [], alts := [], laidByText := true, laidKinds := [.data], laidTests := true, laidLooks := .later }
def PermTextsCardSaid : Prop := Claim7.holds Tryd.pinned (.plain (OpenSpec.ofChange permTextsSpec)) permTextsCard

/-- THE TIED CARD OF 'filespacelaw06.PermOpens'. -/
def permOpensCard : Claim7 := { stood := { row := permOpensRow, standIns := [], harness := (true, "d381650096526dacebac6dd3fd33a9c4eb6866bd7a311dc569f7e844b03d388a"), looks := false }, kinds := [], alts := [], laidByText := true, laidKinds := [.data], laidTests := true, laidLooks := .later }
def PermOpensCardSaid : Prop := Claim7.holds Tryd.pinned (.plain (OpenSpec.ofChange permOpensSpec)) permOpensCard

/-- THE TIED CARD OF 'filespacelaw06.PermAllows'. -/
def permAllowsCard : Claim7 := { stood := { row := permAllowsRow, standIns := [], harness := (true, "d381650096526dacebac6dd3fd33a9c4eb6866bd7a311dc569f7e844b03d388a"), looks := false }, kinds := [], alts := [], laidByText := true, laidKinds := [.data], laidTests := true, laidLooks := .later }
def PermAllowsCardSaid : Prop := Claim7.holds Tryd.pinned (.plain (OpenSpec.ofChange permAllowsSpec)) permAllowsCard

/-- THE TIED CARD OF 'filespacelaw06.PermBack'. -/
def permBackCard : Claim7 := { stood := { row := permBackRow, standIns := [], harness := (true, "d381650096526dacebac6dd3fd33a9c4eb6866bd7a311dc569f7e844b03d388a"), looks := false }, kinds := [], alts := [], laidByText := true, laidKinds := [.data], laidTests := true, laidLooks := .later }
def PermBackCardSaid : Prop := Claim7.holds Tryd.pinned (.plain (OpenSpec.ofChange permBackSpec)) permBackCard

/-- THE TIED CARD OF 'filespacelaw06.PermGrants'. -/
def permGrantsCard : Claim7 := { stood := { row := permGrantsRow, standIns := [], harness := (true, "d381650096526dacebac6dd3fd33a9c4eb6866bd7a311dc569f7e844b03d388a"), looks := false }, kinds := [], alts := [], laidByText := true, laidKinds := [.data], laidTests := true, laidLooks := .later }
def PermGrantsCardSaid : Prop := Claim7.holds Tryd.pinned (.plain (OpenSpec.ofChange permGrantsSpec)) permGrantsCard

/-- THE TIED CARD OF 'filespacelaw06.PermInherits'. -/
def permInheritsCard : Claim7 := { stood := { row := permInheritsRow, standIns := [], harness := (true, "d381650096526dacebac6dd3fd33a9c4eb6866bd7a311dc569f7e844b03d388a"), looks := false }, kinds := [], alts := [], laidByText := true, laidKinds := [.data], laidTests := true, laidLooks := .later }
def PermInheritsCardSaid : Prop := Claim7.holds Tryd.pinned (.plain (OpenSpec.ofChange permInheritsSpec)) permInheritsCard

/-- THE SECOND FORM's CARD OF 'filespacelaw06.PermTexts'. -/
def permTextsUptoCard : Claim7 := { stood := { row := permTextsUptoRow, standIns := [], harness := (true, "d381650096526dacebac6dd3fd33a9c4eb6866bd7a311dc569f7e844b03d388a"), looks := false }, kinds := [], alts := [], laidByText := true, laidKinds := [.data], laidTests := true, laidLooks := .later }
def PermTextsUptoCardSaid : Prop := Claim7.holds Tryd.pinned (.plain (OpenSpec.upto permTextsSpec)) permTextsUptoCard

/-- THE SECOND FORM's CARD OF 'filespacelaw06.PermOpens'. -/
def permOpensUptoCard : Claim7 := { stood := { row := permOpensUptoRow, standIns := [], harness := (true, "d381650096526dacebac6dd3fd33a9c4eb6866bd7a311dc569f7e844b03d388a"), looks := false }, kinds := [], alts := [], laidByText := true, laidKinds := [.data], laidTests := true, laidLooks := .later }
def PermOpensUptoCardSaid : Prop := Claim7.holds Tryd.pinned (.plain (OpenSpec.upto permOpensSpec)) permOpensUptoCard

/-- THE SECOND FORM's CARD OF 'filespacelaw06.PermAllows'. -/
def permAllowsUptoCard : Claim7 := { stood := { row := permAllowsUptoRow, standIns := [], harness := (true, "d381650096526dacebac6dd3fd33a9c4eb6866bd7a311dc569f7e844b03d388a"), looks := false }, kinds := [], alts := [], laidByText := true, laidKinds := [.data], laidTests := true, laidLooks := .later }
def PermAllowsUptoCardSaid : Prop := Claim7.holds Tryd.pinned (.plain (OpenSpec.upto permAllowsSpec)) permAllowsUptoCard

/-- THE SECOND FORM's CARD OF 'filespacelaw06.PermBack'. -/
def permBackUptoCard : Claim7 := { stood := { row := permBackUptoRow, standIns := [], harness := (true, "d381650096526dacebac6dd3fd33a9c4eb6866bd7a311dc569f7e844b03d388a"), looks := false }, kinds := [], alts := [], laidByText := true, laidKinds := [.data], laidTests := true, laidLooks := .later }
def PermBackUptoCardSaid : Prop := Claim7.holds Tryd.pinned (.plain (OpenSpec.upto permBackSpec)) permBackUptoCard

/-- THE SECOND FORM's CARD OF 'filespacelaw06.PermGrants'. -/
def permGrantsUptoCard : Claim7 := { stood := { row := permGrantsUptoRow, standIns := [], harness := (true, "d381650096526dacebac6dd3fd33a9c4eb6866bd7a311dc569f7e844b03d388a"), looks := false }, kinds := [], alts := [], laidByText := true, laidKinds := [.data], laidTests := true, laidLooks := .later }
def PermGrantsUptoCardSaid : Prop := Claim7.holds Tryd.pinned (.plain (OpenSpec.upto permGrantsSpec)) permGrantsUptoCard

/-- THE SECOND FORM's CARD OF 'filespacelaw06.PermInherits'. -/
def permInheritsUptoCard : Claim7 := { stood := { row := permInheritsUptoRow, standIns := [], harness := (true, "d381650096526dacebac6dd3fd33a9c4eb6866bd7a311dc569f7e844b03d388a"), looks := false }, kinds := [], alts := [], laidByText := true, laidKinds := [.data], laidTests := true, laidLooks := .later }
def PermInheritsUptoCardSaid : Prop := Claim7.holds Tryd.pinned (.plain (OpenSpec.upto permInheritsSpec)) permInheritsUptoCard
end Rows
end Go.Proofs.YtogjkkijejgggaaDoor
