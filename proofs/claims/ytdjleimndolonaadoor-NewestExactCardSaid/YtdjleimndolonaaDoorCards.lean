/-
  DERIVED. GIVEN WITH THE SEED: THE CARDS: each row of YtdjleimndolonaaDoorRows.lean that lists a variable, with what it lists TIED to the program's text (the seventh form; the later family's looks); each row that meets fmt, with fmt's text TOLD by the authors' own Lean function (tested against real Go, not proved from fmt's source: count such statements apart). THE CARD IS WHAT COUNTS. Prove the row's statement (the work); the ties are given (YtdjleimndolonaaDoorTie.lean); close each card by the builder's one call (the guide's Derived/Test/ToyasCard.lean, 'card_holds'). Laid BY PROGRAM, IN A SANDBOX (cutbox-door.mjs). By AI agents, Wed Nov 11 2026. No macro, syntax, notation, axiom, sorry.
-/
import Derived.Test.YtdjleimndolonaaDoorRows
import GoSem.ClaimSeven
namespace Go.Proofs.YtdjleimndolonaaDoor
namespace Rows

/-- THE TIED CARD OF 'casematelaw09.NewestExact'. -/
def newestExactCard : Claim7 := { stood := { row := newestExactRow, standIns := [], harness := (true, "6baac489c08c74786c7b0ce48f731ad7d12b24c5b75f9b0af412b964004652f9"), looks := true }, kinds := [], alts := [], laidByText := true, laidKinds := [.data, .pinned], laidTests := true, laidLooks := .later }
def NewestExactCardSaid : Prop := Claim7.holds Tryd.pinned (.plain (OpenSpec.ofChange newestExactSpec)) newestExactCard

/-- THE TIED CARD OF 'casematelaw09.NewestLeft'. -/
def newestLeftCard : Claim7 := { stood := { row := newestLeftRow, standIns := [], harness := (true, "6baac489c08c74786c7b0ce48f731ad7d12b24c5b75f9b0af412b964004652f9"), looks := true }, kinds := [], alts := [], laidByText := true, laidKinds := [.data, .pinned], laidTests := true, laidLooks := .later }
def NewestLeftCardSaid : Prop := Claim7.holds Tryd.pinned (.plain (OpenSpec.ofChange newestLeftSpec)) newestLeftCard

/-- THE TIED CARD OF 'casematelaw09.NewestGens'. -/
def newestGensCard : Claim7 := { stood := { row := newestGensRow, standIns := [], harness := (true, "6baac489c08c74786c7b0ce48f731ad7d12b24c5b75f9b0af412b964004652f9"), looks := true }, kinds := [], alts := [], laidByText := true, laidKinds := [.data, .pinned], laidTests := true, laidLooks := .later }
def NewestGensCardSaid : Prop := Claim7.holds Tryd.pinned (.plain (OpenSpec.ofChange newestGensSpec)) newestGensCard

/-- THE TIED CARD OF 'casematelaw09.NewestMoved'. -/
def newestMovedCard : Claim7 := { stood := { row := newestMovedRow, standIns := [], harness := (true, "6baac489c08c74786c7b0ce48f731ad7d12b24c5b75f9b0af412b964004652f9"), looks := true }, kinds := [], alts := [], laidByText := true, laidKinds := [.data, .pinned], laidTests := true, laidLooks := .later }
def NewestMovedCardSaid : Prop := Claim7.holds Tryd.pinned (.plain (OpenSpec.ofChange newestMovedSpec)) newestMovedCard

/-- THE SECOND FORM's CARD OF 'casematelaw09.NewestExact'. -/
def newestExactUptoCard : Claim7 := { stood := { row := newestExactUptoRow, standIns := [], harness := (true, "6baac489c08c74786c7b0ce48f731ad7d12b24c5b75f9b0af412b964004652f9"), looks := true }, kinds := [], alts := [], laidByText := true, laidKinds := [.data, .pinned], laidTests := true, laidLooks := .later }
def NewestExactUptoCardSaid : Prop := Claim7.holds Tryd.pinned (.plain (OpenSpec.upto newestExactSpec)) newestExactUptoCard

/-- THE SECOND FORM's CARD OF 'casematelaw09.NewestLeft'. -/
def newestLeftUptoCard : Claim7 := { stood := { row := newestLeftUptoRow, standIns := [], harness := (true, "6baac489c08c74786c7b0ce48f731ad7d12b24c5b75f9b0af412b964004652f9"), looks := true }, kinds := [], alts := [], laidByText := true, laidKinds := [.data, .pinned], laidTests := true, laidLooks := .later }
def NewestLeftUptoCardSaid : Prop := Claim7.holds Tryd.pinned (.plain (OpenSpec.upto newestLeftSpec)) newestLeftUptoCard

/-- THE SECOND FORM's CARD OF 'casematelaw09.NewestGens'. -/
def newestGensUptoCard : Claim7 := { stood := { row := newestGensUptoRow, standIns := [], harness := (true, "6baac489c08c74786c7b0ce48f731ad7d12b24c5b75f9b0af412b964004652f9"), looks := true }, kinds := [], alts := [], laidByText := true, laidKinds := [.data, .pinned], laidTests := true, laidLooks := .later }
def NewestGensUptoCardSaid : Prop := Claim7.holds Tryd.pinned (.plain (OpenSpec.upto newestGensSpec)) newestGensUptoCard

/-- THE SECOND FORM's CARD OF 'casematelaw09.NewestMoved'. -/
def newestMovedUptoCard : Claim7 := { stood := { row := newestMovedUptoRow, standIns := [], harness := (true, "6baac489c08c74786c7b0ce48f731ad7d12b24c5b75f9b0af412b964004652f9"), looks := true }, kinds := [], alts := [], laidByText := true, laidKinds := [.data, .pinned], laidTests := true, laidLooks := .later }
def NewestMovedUptoCardSaid : Prop := Claim7.holds Tryd.pinned (.plain (OpenSpec.upto newestMovedSpec)) newestMovedUptoCard
end Rows
end Go.Proofs.YtdjleimndolonaaDoor
