/-
  DERIVED. GIVEN WITH THE SEED: THE CARDS: each row of YtpcadoekhoediaaGreatDoorRows.lean that lists a variable, with what it lists TIED to the program's text (the seventh form; the later family's looks); each row that meets fmt, with fmt's text TOLD by the authors' own Lean function (tested against real Go, not proved from fmt's source: count such statements apart). THE CARD IS WHAT COUNTS. Prove the row's statement (the work); the ties are given (YtpcadoekhoediaaGreatDoorTie.lean); close each card by the builder's one call (the guide's Derived/Test/ToyasCard.lean, 'card_holds'). Laid BY PROGRAM, IN A SANDBOX (cutbox-door.mjs). By AI agents, Wed Nov 11 2026. No macro, syntax, notation, axiom, sorry.
-/
import Derived.Test.YtpcadoekhoediaaGreatDoorRows
import GoSem.ClaimSeven
namespace Go.Proofs.YtpcadoekhoediaaGreatDoor
namespace Rows

/-- THE TIED CARD OF 'casematelaw17.PairExact'. -/
def pairExactCard : Claim7 := { stood := { row := pairExactRow, standIns := [], harness := (true, "fb431cef7f26965a1ea870b1226546d184dd93071aacd31fb0c9b4a3a4579028"), looks := true }, kinds := [], alts := [], laidByText := true, laidKinds := [.data, .pinned], laidTests := true, laidLooks := .later }
def PairExactCardSaid : Prop := Claim7.holds Tryz.pinned (.plain (OpenSpec.ofChange pairExactSpec)) pairExactCard

/-- THE TIED CARD OF 'casematelaw17.PairLeft'. -/
def pairLeftCard : Claim7 := { stood := { row := pairLeftRow, standIns := [], harness := (true, "fb431cef7f26965a1ea870b1226546d184dd93071aacd31fb0c9b4a3a4579028"), looks := true }, kinds := [], alts := [], laidByText := true, laidKinds := [.data, .pinned], laidTests := true, laidLooks := .later }
def PairLeftCardSaid : Prop := Claim7.holds Tryz.pinned (.plain (OpenSpec.ofChange pairLeftSpec)) pairLeftCard

/-- THE SECOND FORM's CARD OF 'casematelaw17.PairExact'. -/
def pairExactUptoCard : Claim7 := { stood := { row := pairExactUptoRow, standIns := [], harness := (true, "fb431cef7f26965a1ea870b1226546d184dd93071aacd31fb0c9b4a3a4579028"), looks := true }, kinds := [], alts := [], laidByText := true, laidKinds := [.data, .pinned], laidTests := true, laidLooks := .later }
def PairExactUptoCardSaid : Prop := Claim7.holds Tryz.pinned (.plain (OpenSpec.upto pairExactSpec)) pairExactUptoCard

/-- THE SECOND FORM's CARD OF 'casematelaw17.PairLeft'. -/
def pairLeftUptoCard : Claim7 := { stood := { row := pairLeftUptoRow, standIns := [], harness := (true, "fb431cef7f26965a1ea870b1226546d184dd93071aacd31fb0c9b4a3a4579028"), looks := true }, kinds := [], alts := [], laidByText := true, laidKinds := [.data, .pinned], laidTests := true, laidLooks := .later }
def PairLeftUptoCardSaid : Prop := Claim7.holds Tryz.pinned (.plain (OpenSpec.upto pairLeftSpec)) pairLeftUptoCard
end Rows
end Go.Proofs.YtpcadoekhoediaaGreatDoor
