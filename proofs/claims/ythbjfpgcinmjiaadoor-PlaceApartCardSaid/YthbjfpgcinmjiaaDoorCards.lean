/-
  DERIVED. GIVEN WITH THE SEED: THE CARDS: each row of YthbjfpgcinmjiaaDoorRows.lean that lists a variable, with what it lists TIED to the program's text (the seventh form; the later family's looks); each row that meets fmt, with fmt's text TOLD by the authors' own Lean function (tested against real Go, not proved from fmt's source: count such statements apart). THE CARD IS WHAT COUNTS. Prove the row's statement (the work); the ties are given (YthbjfpgcinmjiaaDoorTie.lean); close each card by the builder's one call (the guide's Derived/Test/ToyasCard.lean, 'card_holds'). Laid BY PROGRAM, IN A SANDBOX (cutbox-door.mjs). By AI agents, Wed Nov 11 2026. No macro, syntax, notation, axiom, sorry.
-/
import Derived.Test.YthbjfpgcinmjiaaDoorRows
import GoSem.ClaimSeven
namespace Go.Proofs.YthbjfpgcinmjiaaDoor
namespace Rows

/-- THE TIED CARD OF 'casematelaw11.PlaceExact'. -/
def placeExactCard : Claim7 := { stood := { row := placeExactRow, standIns := [], harness := (true, "8da3756971dc66c24ea793bd6ea4faf788096310ce7ce93dbd529d34805eb91c"), looks := false }, kinds := [], alts := [], laidByText := true, laidKinds := [.data, .pinned], laidTests := true, laidLooks := .later }
def PlaceExactCardSaid : Prop := Claim7.holds Tryd.pinned (.plain (OpenSpec.ofChange placeExactSpec)) placeExactCard

/-- THE TIED CARD OF 'casematelaw11.PlaceApart'. -/
def placeApartCard : Claim7 := { stood := { row := placeApartRow, standIns := [], harness := (true, "8da3756971dc66c24ea793bd6ea4faf788096310ce7ce93dbd529d34805eb91c"), looks := false }, kinds := [], alts := [], laidByText := true, laidKinds := [.data, .pinned], laidTests := true, laidLooks := .later }
def PlaceApartCardSaid : Prop := Claim7.holds Tryd.pinned (.plain (OpenSpec.ofChange placeApartSpec)) placeApartCard

/-- THE TIED CARD OF 'casematelaw11.PlaceStays'. -/
def placeStaysCard : Claim7 := { stood := { row := placeStaysRow, standIns := [], harness := (true, "8da3756971dc66c24ea793bd6ea4faf788096310ce7ce93dbd529d34805eb91c"), looks := false }, kinds := [], alts := [], laidByText := true, laidKinds := [.data, .pinned], laidTests := true, laidLooks := .later }
def PlaceStaysCardSaid : Prop := Claim7.holds Tryd.pinned (.plain (OpenSpec.ofChange placeStaysSpec)) placeStaysCard

/-- THE SECOND FORM's CARD OF 'casematelaw11.PlaceExact'. -/
def placeExactUptoCard : Claim7 := { stood := { row := placeExactUptoRow, standIns := [], harness := (true, "8da3756971dc66c24ea793bd6ea4faf788096310ce7ce93dbd529d34805eb91c"), looks := false }, kinds := [], alts := [], laidByText := true, laidKinds := [.data, .pinned], laidTests := true, laidLooks := .later }
def PlaceExactUptoCardSaid : Prop := Claim7.holds Tryd.pinned (.plain (OpenSpec.upto placeExactSpec)) placeExactUptoCard

/-- THE SECOND FORM's CARD OF 'casematelaw11.PlaceApart'. -/
def placeApartUptoCard : Claim7 := { stood := { row := placeApartUptoRow, standIns := [], harness := (true, "8da3756971dc66c24ea793bd6ea4faf788096310ce7ce93dbd529d34805eb91c"), looks := false }, kinds := [], alts := [], laidByText := true, laidKinds := [.data, .pinned], laidTests := true, laidLooks := .later }
def PlaceApartUptoCardSaid : Prop := Claim7.holds Tryd.pinned (.plain (OpenSpec.upto placeApartSpec)) placeApartUptoCard

/-- THE SECOND FORM's CARD OF 'casematelaw11.PlaceStays'. -/
def placeStaysUptoCard : Claim7 := { stood := { row := placeStaysUptoRow, standIns := [], harness := (true, "8da3756971dc66c24ea793bd6ea4faf788096310ce7ce93dbd529d34805eb91c"), looks := false }, kinds := [], alts := [], laidByText := true, laidKinds := [.data, .pinned], laidTests := true, laidLooks := .later }
def PlaceStaysUptoCardSaid : Prop := Claim7.holds Tryd.pinned (.plain (OpenSpec.upto placeStaysSpec)) placeStaysUptoCard
end Rows
end Go.Proofs.YthbjfpgcinmjiaaDoor
