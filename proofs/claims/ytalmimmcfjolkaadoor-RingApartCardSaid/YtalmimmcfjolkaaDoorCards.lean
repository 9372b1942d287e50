/-
  DERIVED. GIVEN WITH THE SEED: THE CARDS: each row of YtalmimmcfjolkaaDoorRows.lean that lists a variable, with what it lists TIED to the program's text (the seventh form; the later family's looks); each row that meets fmt, with fmt's text TOLD by the authors' own Lean function (tested against real Go, not proved from fmt's source: count such statements apart). THE CARD IS WHAT COUNTS. Prove the row's statement (the work); the ties are given (YtalmimmcfjolkaaDoorTie.lean); close each card by the builder's one call (the guide's Derived/Test/ToyasCard.lean, 'card_holds'). Laid BY PROGRAM, IN A SANDBOX (cutbox-door.mjs). By AI agents, Wed Nov 11 2026. No macro, syntax, notation, axiom, sorry.
-/
import Derived.Test.YtalmimmcfjolkaaDoorRows
import GoSem.ClaimSeven
namespace Go.Proofs.YtalmimmcfjolkaaDoor
namespace Rows

/-- THE TIED CARD OF 'casematelaw16.RingApart'. -/
def ringApartCard : Claim7 := { stood := { row := ringApartRow, standIns := [], harness := (true, "556875b8baa302f8d7eaef28d350b7b791ebe95192fc3d6b190f9f386f9f70f2"), looks := true }, kinds := [], alts := [], laidByText := true, laidKinds := [.data, .pinned], laidTests := true, laidLooks := .later }
def RingApartCardSaid : Prop := Claim7.holds Tryd.pinned (.plain (OpenSpec.ofChange ringApartSpec)) ringApartCard

/-- THE TIED CARD OF 'casematelaw16.RingNeeds'. -/
def ringNeedsCard : Claim7 := { stood := { row := ringNeedsRow, standIns := [], harness := (true, "556875b8baa302f8d7eaef28d350b7b791ebe95192fc3d6b190f9f386f9f70f2"), looks := true }, kinds := [], alts := [], laidByText := true, laidKinds := [.data, .pinned], laidTests := true, laidLooks := .later }
def RingNeedsCardSaid : Prop := Claim7.holds Tryd.pinned (.plain (OpenSpec.ofChange ringNeedsSpec)) ringNeedsCard

/-- THE TIED CARD OF 'casematelaw16.RingBent'. -/
def ringBentCard : Claim7 := { stood := { row := ringBentRow, standIns := [], harness := (true, "556875b8baa302f8d7eaef28d350b7b791ebe95192fc3d6b190f9f386f9f70f2"), looks := true }, kinds := [], alts := [], laidByText := true, laidKinds := [.data, .pinned], laidTests := true, laidLooks := .later }
def RingBentCardSaid : Prop := Claim7.holds Tryd.pinned (.plain (OpenSpec.ofChange ringBentSpec)) ringBentCard

/-- THE SECOND FORM's CARD OF 'casematelaw16.RingApart'. -/
def ringApartUptoCard : Claim7 := { stood := { row := ringApartUptoRow, standIns := [], harness := (true, "556875b8baa302f8d7eaef28d350b7b791ebe95192fc3d6b190f9f386f9f70f2"), looks := true }, kinds := [], alts := [], laidByText := true, laidKinds := [.data, .pinned], laidTests := true, laidLooks := .later }
def RingApartUptoCardSaid : Prop := Claim7.holds Tryd.pinned (.plain (OpenSpec.upto ringApartSpec)) ringApartUptoCard

/-- THE SECOND FORM's CARD OF 'casematelaw16.RingNeeds'. -/
def ringNeedsUptoCard : Claim7 := { stood := { row := ringNeedsUptoRow, standIns := [], harness := (true, "556875b8baa302f8d7eaef28d350b7b791ebe95192fc3d6b190f9f386f9f70f2"), looks := true }, kinds := [], alts := [], laidByText := true, laidKinds := [.data, .pinned], laidTests := true, laidLooks := .later }
def RingNeedsUptoCardSaid : Prop := Claim7.holds Tryd.pinned (.plain (OpenSpec.upto ringNeedsSpec)) ringNeedsUptoCard

/-- THE SECOND FORM's CARD OF 'casematelaw16.RingBent'. -/
def ringBentUptoCard : Claim7 := { stood := { row := ringBentUptoRow, standIns := [], harness := (true, "556875b8baa302f8d7eaef28d350b7b791ebe95192fc3d6b190f9f386f9f70f2"), looks := true }, kinds := [], alts := [], laidByText := true, laidKinds := [.data, .pinned], laidTests := true, laidLooks := .later }
def RingBentUptoCardSaid : Prop := Claim7.holds Tryd.pinned (.plain (OpenSpec.upto ringBentSpec)) ringBentUptoCard
end Rows
end Go.Proofs.YtalmimmcfjolkaaDoor
