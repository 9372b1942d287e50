/-
  DERIVED. GIVEN WITH THE SEED: THE CARDS: each row of YtkpbfhjpmhgmoaaDoorRows.lean that lists a variable, with what it lists TIED to the program's text (the seventh form; the later family's looks); each row that meets fmt, with fmt's text TOLD by the authors' own Lean function (tested against real Go, not proved from fmt's source: count such statements apart). THE CARD IS WHAT COUNTS. Prove the row's statement (the work); the ties are given (YtkpbfhjpmhgmoaaDoorTie.lean); close each card by the builder's one call (the guide's Derived/Test/ToyasCard.lean, 'card_holds'). Laid BY PROGRAM, IN A SANDBOX (cutbox-door.mjs). By AI agents, Wed Nov 11 2026. No macro, syntax, notation, axiom, sorry.
-/
import Derived.Test.YtkpbfhjpmhgmoaaDoorRows
import GoSem.ClaimSeven
namespace Go.Proofs.YtkpbfhjpmhgmoaaDoor
namespace Rows

/-- THE TIED CARD OF 'casematelaw08.AnchorExact'. -/
def anchorExactCard : Claim7 := { stood := { row := anchorExactRow, standIns := [], harness := (true, "4adf2e8dd60a9fd071c3b3046beaf56be830f0d50d27cf49a0664864ddd90d3b"), looks := true }, kinds := [], alts := [], laidByText := true, laidKinds := [.data, .pinned], laidTests := true, laidLooks := .later }
def AnchorExactCardSaid : Prop := Claim7.holds Tryd.pinned (.plain (OpenSpec.ofChange anchorExactSpec)) anchorExactCard

/-- THE TIED CARD OF 'casematelaw08.AnchorBack'. -/
def anchorBackCard : Claim7 := { stood := { row := anchorBackRow, standIns := [], harness := (true, "4adf2e8dd60a9fd071c3b3046beaf56be830f0d50d27cf49a0664864ddd90d3b"), looks := true }, kinds := [], alts := [], laidByText := true, laidKinds := [.data, .pinned], laidTests := true, laidLooks := .later }
def AnchorBackCardSaid : Prop := Claim7.holds Tryd.pinned (.plain (OpenSpec.ofChange anchorBackSpec)) anchorBackCard

/-- THE TIED CARD OF 'casematelaw08.AnchorFirst'. -/
def anchorFirstCard : Claim7 := { stood := { row := anchorFirstRow, standIns := [], harness := (true, "4adf2e8dd60a9fd071c3b3046beaf56be830f0d50d27cf49a0664864ddd90d3b"), looks := true }, kinds := [], alts := [], laidByText := true, laidKinds := [.data, .pinned], laidTests := true, laidLooks := .later }
def AnchorFirstCardSaid : Prop := Claim7.holds Tryd.pinned (.plain (OpenSpec.ofChange anchorFirstSpec)) anchorFirstCard

/-- THE TIED CARD OF 'casematelaw08.AnchorBent'. -/
def anchorBentCard : Claim7 := { stood := { row := anchorBentRow, standIns := [], harness := (true, "4adf2e8dd60a9fd071c3b3046beaf56be830f0d50d27cf49a0664864ddd90d3b"), looks := true }, kinds := [], alts := [], laidByText := true, laidKinds := [.data, .pinned], laidTests := true, laidLooks := .later }
def AnchorBentCardSaid : Prop := Claim7.holds Tryd.pinned (.plain (OpenSpec.ofChange anchorBentSpec)) anchorBentCard

/-- THE TIED CARD OF 'casematelaw08.AnchorSizes'. -/
def anchorSizesCard : Claim7 := { stood := { row := anchorSizesRow, standIns := [], harness := (true, "4adf2e8dd60a9fd071c3b3046beaf56be830f0d50d27cf49a0664864ddd90d3b"), looks := true }, kinds := [], alts := [], laidByText := true, laidKinds := [.data, .pinned], laidTests := true, laidLooks := .later }
def AnchorSizesCardSaid : Prop := Claim7.holds Tryd.pinned (.plain (OpenSpec.ofChange anchorSizesSpec)) anchorSizesCard

/-- THE TIED CARD OF 'casematelaw08.AnchorOthers'. -/
def anchorOthersCard : Claim7 := { stood := { row := anchorOthersRow, standIns := [], harness := (true, "4adf2e8dd60a9fd071c3b3046beaf56be830f0d50d27cf49a0664864ddd90d3b"), looks := true }, kinds := [], alts := [], laidByText := true, laidKinds := [.data, .pinned], laidTests := true, laidLooks := .later }
def AnchorOthersCardSaid : Prop := Claim7.holds Tryd.pinned (.plain (OpenSpec.ofChange anchorOthersSpec)) anchorOthersCard

/-- THE SECOND FORM's CARD OF 'casematelaw08.AnchorExact'. -/
def anchorExactUptoCard : Claim7 := { stood := { row := anchorExactUptoRow, standIns := [], harness := (true, "4adf2e8dd60a9fd071c3b3046beaf56be830f0d50d27cf49a0664864ddd90d3b"), looks := true }, kinds := [], alts := [], laidByText := true, laidKinds := [.data, .pinned], laidTests := true, laidLooks := .later }
def AnchorExactUptoCardSaid : Prop := Claim7.holds Tryd.pinned (.plain (OpenSpec.upto anchorExactSpec)) anchorExactUptoCard

/-- THE SECOND FORM's CARD OF 'casematelaw08.AnchorBack'. -/
def anchorBackUptoCard : Claim7 := { stood := { row := anchorBackUptoRow, standIns := [], harness := (true, "4adf2e8dd60a9fd071c3b3046beaf56be830f0d50d27cf49a0664864ddd90d3b"), looks := true }, kinds := [], alts := [], laidByText := true, laidKinds := [.data, .pinned], laidTests := true, laidLooks := .later }
def AnchorBackUptoCardSaid : Prop := Claim7.holds Tryd.pinned (.plain (OpenSpec.upto anchorBackSpec)) anchorBackUptoCard

/-- THE SECOND FORM's CARD OF 'casematelaw08.AnchorFirst'. -/
def anchorFirstUptoCard : Claim7 := { stood := { row := anchorFirstUptoRow, standIns := [], harness := (true, "4adf2e8dd60a9fd071c3b3046beaf56be830f0d50d27cf49a0664864ddd90d3b"), looks := true }, kinds := [], alts := [], laidByText := true, laidKinds := [.data, .pinned], laidTests := true, laidLooks := .later }
def AnchorFirstUptoCardSaid : Prop := Claim7.holds Tryd.pinned (.plain (OpenSpec.upto anchorFirstSpec)) anchorFirstUptoCard

/-- THE SECOND FORM's CARD OF 'casematelaw08.AnchorBent'. -/
def anchorBentUptoCard : Claim7 := { stood := { row := anchorBentUptoRow, standIns := [], harness := (true, "4adf2e8dd60a9fd071c3b3046beaf56be830f0d50d27cf49a0664864ddd90d3b"), looks := true }, kinds := [], alts := [], laidByText := true, laidKinds := [.data, .pinned], laidTests := true, laidLooks := .later }
def AnchorBentUptoCardSaid : Prop := Claim7.holds Tryd.pinned (.plain (OpenSpec.upto anchorBentSpec)) anchorBentUptoCard

/-- THE SECOND FORM's CARD OF 'casematelaw08.AnchorSizes'. -/
def anchorSizesUptoCard : Claim7 := { stood := { row := anchorSizesUptoRow, standIns := [], harness := (true, "4adf2e8dd60a9fd071c3b3046beaf56be830f0d50d27cf49a0664864ddd90d3b"), looks := true }, kinds := [], alts := [], laidByText := true, laidKinds := [.data, .pinned], laidTests := true, laidLooks := .later }
def AnchorSizesUptoCardSaid : Prop := Claim7.holds Tryd.pinned (.plain (OpenSpec.upto anchorSizesSpec)) anchorSizesUptoCard

/-- THE SECOND FORM's CARD OF 'casematelaw08.AnchorOthers'. -/
def anchorOthersUptoCard : Claim7 := { stood := { row := anchorOthersUptoRow, standIns := [], harness := (true, "4adf2e8dd60a9fd071c3b3046beaf56be830f0d50d27cf49a0664864ddd90d3b"), looks := true }, kinds := [], alts := [], laidByText := true, laidKinds := [.data, .pinned], laidTests := true, laidLooks := .later }
def AnchorOthersUptoCardSaid : Prop := Claim7.holds Tryd.pinned (.plain (OpenSpec.upto anchorOthersSpec)) anchorOthersUptoCard
end Rows
end Go.Proofs.YtkpbfhjpmhgmoaaDoor
