/-
  DERIVED. GIVEN WITH THE SEED: THE CARDS: each row of YtbfdpibjicjagaaGreatDoorRows.lean that lists a variable, with what it lists TIED to the program's text (the seventh form; the later family's looks); each row that meets fmt, with fmt's text TOLD by the authors' own Lean function (tested against real Go, not proved from fmt's source: count such statements apart). THE CARD IS WHAT COUNTS. Prove the row's statement (the work); the ties are given (YtbfdpibjicjagaaGreatDoorTie.lean); close each card by the builder's one call (the guide's Derived/Test/ToyasCard.lean, 'card_holds'). Laid BY PROGRAM, IN A SANDBOX (cutbox-door.mjs). By AI agents, Wed Nov 11 2026. No macro, syntax, notation, axiom, sorry.
-/
import Derived.Test.YtbfdpibjicjagaaGreatDoorRows
import GoSem.ClaimSeven
namespace Go.Proofs.YtbfdpibjicjagaaGreatDoor
namespace Rows

/-- THE TIED CARD OF 'casematelaw18.ScanExact'. -/
def scanExactCard : Claim7 := { stood := { row := scanExactRow, standIns := [], harness := (true, "fdade44069cadf0f828a38a8f90267529aca1a536171114b745c9897372123c6"), looks := true }, kinds := [], alts := [], laidByText := true, laidKinds := [.data, .pinned], laidTests := true, laidLooks := .later }
def ScanExactCardSaid : Prop := Claim7.holds Tryz.pinned (.plain (OpenSpec.ofChange scanExactSpec)) scanExactCard

/-- THE TIED CARD OF 'casematelaw18.ScanFinds'. -/
def scanFindsCard : Claim7 := { stood := { row := scanFindsRow, standIns := [], harness := (true, "fdade44069cadf0f828a38a8f90267529aca1a536171114b745c9897372123c6"), looks := true }, kinds := [], alts := [], laidByText := true, laidKinds := [.data, .pinned], laidTests := true, laidLooks := .later }
def ScanFindsCardSaid : Prop := Claim7.holds Tryz.pinned (.plain (OpenSpec.ofChange scanFindsSpec)) scanFindsCard

/-- THE TIED CARD OF 'casematelaw18.ScanCut'. -/
def scanCutCard : Claim7 := { stood := { row := scanCutRow, standIns := [], harness := (true, "fdade44069cadf0f828a38a8f90267529aca1a536171114b745c9897372123c6"), looks := true }, kinds := [], alts := [], laidByText := true, laidKinds := [.data, .pinned], laidTests := true, laidLooks := .later }
def ScanCutCardSaid : Prop := Claim7.holds Tryz.pinned (.plain (OpenSpec.ofChange scanCutSpec)) scanCutCard

/-- THE TIED CARD OF 'casematelaw18.ScanHoles'. -/
def scanHolesCard : Claim7 := { stood := { row := scanHolesRow, standIns := [], harness := (true, "fdade44069cadf0f828a38a8f90267529aca1a536171114b745c9897372123c6"), looks := true }, kinds := [], alts := [], laidByText := true, laidKinds := [.data, .pinned], laidTests := true, laidLooks := .later }
def ScanHolesCardSaid : Prop := Claim7.holds Tryz.pinned (.plain (OpenSpec.ofChange scanHolesSpec)) scanHolesCard

/-- THE TIED CARD OF 'casematelaw18.ScanMended'. -/
def scanMendedCard : Claim7 := { stood := { row := scanMendedRow, standIns := [], harness := (true, "fdade44069cadf0f828a38a8f90267529aca1a536171114b745c9897372123c6"), looks := true }, kinds := [], alts := [], laidByText := true, laidKinds := [.data, .pinned], laidTests := true, laidLooks := .later }
def ScanMendedCardSaid : Prop := Claim7.holds Tryz.pinned (.plain (OpenSpec.ofChange scanMendedSpec)) scanMendedCard

/-- THE TIED CARD OF 'casematelaw18.ScanRight'. -/
def scanRightCard : Claim7 := { stood := { row := scanRightRow, standIns := [], harness := (true, "fdade44069cadf0f828a38a8f90267529aca1a536171114b745c9897372123c6"), looks := true }, kinds := [], alts := [], laidByText := true, laidKinds := [.data, .pinned], laidTests := true, laidLooks := .later }
def ScanRightCardSaid : Prop := Claim7.holds Tryz.pinned (.plain (OpenSpec.ofChange scanRightSpec)) scanRightCard

/-- THE TIED CARD OF 'casematelaw18.ScanElder'. -/
def scanElderCard : Claim7 := { stood := { row := scanElderRow, standIns := [], harness := (true, "fdade44069cadf0f828a38a8f90267529aca1a536171114b745c9897372123c6"), looks := true }, kinds := [], alts := [], laidByText := true, laidKinds := [.data, .pinned], laidTests := true, laidLooks := .later }
def ScanElderCardSaid : Prop := Claim7.holds Tryz.pinned (.plain (OpenSpec.ofChange scanElderSpec)) scanElderCard

/-- THE SECOND FORM's CARD OF 'casematelaw18.ScanExact'. -/
def scanExactUptoCard : Claim7 := { stood := { row := scanExactUptoRow, standIns := [], harness := (true, "fdade44069cadf0f828a38a8f90267529aca1a536171114b745c9897372123c6"), looks := true }, kinds := [], alts := [], laidByText := true, laidKinds := [.data, .pinned], laidTests := true, laidLooks := .later }
def ScanExactUptoCardSaid : Prop := Claim7.holds Tryz.pinned (.plain (OpenSpec.upto scanExactSpec)) scanExactUptoCard

/-- THE SECOND FORM's CARD OF 'casematelaw18.ScanFinds'. -/
def scanFindsUptoCard : Claim7 := { stood := { row := scanFindsUptoRow, standIns := [], harness := (true, "fdade44069cadf0f828a38a8f90267529aca1a536171114b745c9897372123c6"), looks := true }, kinds := [], alts := [], laidByText := true, laidKinds := [.data, .pinned], laidTests := true, laidLooks := .later }
def ScanFindsUptoCardSaid : Prop := Claim7.holds Tryz.pinned (.plain (OpenSpec.upto scanFindsSpec)) scanFindsUptoCard

/-- THE SECOND FORM's CARD OF 'casematelaw18.ScanCut'. -/
def scanCutUptoCard : Claim7 := { stood := { row := scanCutUptoRow, standIns := [], harness := (true, "fdade44069cadf0f828a38a8f90267529aca1a536171114b745c9897372123c6"), looks := true }, kinds := [], alts := [], laidByText := true, laidKinds := [.data, .pinned], laidTests := true, laidLooks := .later }
def ScanCutUptoCardSaid : Prop := Claim7.holds Tryz.pinned (.plain (OpenSpec.upto scanCutSpec)) scanCutUptoCard

/-- THE SECOND FORM's CARD OF 'casematelaw18.ScanHoles'. -/
def scanHolesUptoCard : Claim7 := { stood := { row := scanHolesUptoRow, standIns := [], harness := (true, "fdade44069cadf0f828a38a8f90267529aca1a536171114b745c9897372123c6"), looks := true }, kinds := [], alts := [], laidByText := true, laidKinds := [.data, .pinned], laidTests := true, laidLooks := .later }
def ScanHolesUptoCardSaid : Prop := Claim7.holds Tryz.pinned (.plain (OpenSpec.upto scanHolesSpec)) scanHolesUptoCard

/-- THE SECOND FORM's CARD OF 'casematelaw18.ScanMended'. -/
def scanMendedUptoCard : Claim7 := { stood := { row := scanMendedUptoRow, standIns := [], harness := (true, "fdade44069cadf0f828a38a8f90267529aca1a536171114b745c9897372123c6"), looks := true }, kinds := [], alts := [], laidByText := true, laidKinds := [.data, .pinned], laidTests := true, laidLooks := .later }
def ScanMendedUptoCardSaid : Prop := Claim7.holds Tryz.pinned (.plain (OpenSpec.upto scanMendedSpec)) scanMendedUptoCard

/-- THE SECOND FORM's CARD OF 'casematelaw18.ScanRight'. -/
def scanRightUptoCard : Claim7 := { stood := { row := scanRightUptoRow, standIns := [], harness := (true, "fdade44069cadf0f828a38a8f90267529aca1a536171114b745c9897372123c6"), looks := true }, kinds := [], alts := [], laidByText := true, laidKinds := [.data, .pinned], laidTests := true, laidLooks := .later }
def ScanRightUptoCardSaid : Prop := Claim7.holds Tryz.pinned (.plain (OpenSpec.upto scanRightSpec)) scanRightUptoCard

/-- THE SECOND FORM's CARD OF 'casematelaw18.ScanElder'. -/
def scanElderUptoCard : Claim7 := { stood := { row := scanElderUptoRow, standIns := [], harness := (true, "fdade44069cadf0f828a38a8f90267529aca1a536171114b745c9897372123c6"), looks := true }, kinds := [], alts := [], laidByText := true, laidKinds := [.data, .pinned], laidTests := true, laidLooks := .later }
def ScanElderUptoCardSaid : Prop := Claim7.holds Tryz.pinned (.plain (OpenSpec.upto scanElderSpec)) scanElderUptoCard
end Rows
end Go.Proofs.YtbfdpibjicjagaaGreatDoor
