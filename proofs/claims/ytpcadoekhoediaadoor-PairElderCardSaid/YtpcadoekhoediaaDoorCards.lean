/-
  DERIVED. GIVEN WITH THE SEED: THE CARDS: each row of YtpcadoekhoediaaDoorRows.lean that lists a variable, with what it lists TIED to the program's text (the seventh form; the later family's looks); each row that meets fmt, with fmt's text TOLD by the authors' own Lean function (tested against real Go, not proved from fmt's source: count such statements apart). THE CARD IS WHAT COUNTS. Prove the row's statement (the work); the ties are given (YtpcadoekhoediaaDoorTie.lean); close each card by the builder's one call (the guide's Derived/Test/ToyasCard.lean, 'card_holds'). Laid BY PROGRAM, IN A SANDBOX (cutbox-door.mjs). By AI agents, Wed Nov 11 2026. No macro, syntax, notation, axiom, sorry.
-/
import Derived.Test.YtpcadoekhoediaaDoorRows
import GoSem.ClaimSeven
namespace Go.Proofs.YtpcadoekhoediaaDoor
namespace Rows

/-- THE TIED CARD OF 'casematelaw17.PairElder'. -/
def pairElderCard : Claim7 := { stood := { row := pairElderRow, standIns := [], harness := (true, "494cb40d9023c3d29be9d02f2edb2ab7a6fe07b7a9ffe810a31f8ff146852cc8"), looks := true }, kinds := [], alts := [], laidByText := true, laidKinds := [.data, .pinned], laidTests := true, laidLooks := .later }
def PairElderCardSaid : Prop := Claim7.holds Tryd.pinned (.plain (OpenSpec.ofChange pairElderSpec)) pairElderCard

/-- THE TIED CARD OF 'casematelaw17.PairOthers'. -/
def pairOthersCard : Claim7 := { stood := { row := pairOthersRow, standIns := [], harness := (true, "494cb40d9023c3d29be9d02f2edb2ab7a6fe07b7a9ffe810a31f8ff146852cc8"), looks := true }, kinds := [], alts := [], laidByText := true, laidKinds := [.data, .pinned], laidTests := true, laidLooks := .later }
def PairOthersCardSaid : Prop := Claim7.holds Tryd.pinned (.plain (OpenSpec.ofChange pairOthersSpec)) pairOthersCard

/-- THE SECOND FORM's CARD OF 'casematelaw17.PairElder'. -/
def pairElderUptoCard : Claim7 := { stood := { row := pairElderUptoRow, standIns := [], harness := (true, "494cb40d9023c3d29be9d02f2edb2ab7a6fe07b7a9ffe810a31f8ff146852cc8"), looks := true }, kinds := [], alts := [], laidByText := true, laidKinds := [.data, .pinned], laidTests := true, laidLooks := .later }
def PairElderUptoCardSaid : Prop := Claim7.holds Tryd.pinned (.plain (OpenSpec.upto pairElderSpec)) pairElderUptoCard

/-- THE SECOND FORM's CARD OF 'casematelaw17.PairOthers'. -/
def pairOthersUptoCard : Claim7 := { stood := { row := pairOthersUptoRow, standIns := [], harness := (true, "494cb40d9023c3d29be9d02f2edb2ab7a6fe07b7a9ffe810a31f8ff146852cc8"), looks := true }, kinds := [], alts := [], laidByText := true, laidKinds := [.data, .pinned], laidTests := true, laidLooks := .later }
def PairOthersUptoCardSaid : Prop := Claim7.holds Tryd.pinned (.plain (OpenSpec.upto pairOthersSpec)) pairOthersUptoCard
end Rows
end Go.Proofs.YtpcadoekhoediaaDoor
