/-
  The library's two functions answer as their documentation says, where its tables are as its text lays them.
  What every row of this seat shares: the two listed tables give 'Tabs'; a world for the witness, which lays them.
-/
import Derived.Test.YtbfdpibjicjagaaGreatDoorGLb
import Derived.Test.YtbfdpibjicjagaaGreatDoorShelf
import Derived.Test.YtbfdpibjicjagaaGreatDoorCards
import Derived.Test.YtbfdpibjicjagaaGreatDoorTie
import Derived.Lib.LaidIn
import Derived.Lib.LaidU8T
import Derived.PinnedBridge
import Derived.Deep.DeepHandedRow
import Derived.Deep.DeepWitnessRowRef
import Derived.ProofKit
import Derived.SizedLaws
import Derived.OpenShut
namespace Go.Proofs.YtbfdpibjicjagaaGreatDoor.lbl
open Go.RowKit Go.Lib
theorem validOk : ValidOk := fun s w hs hT => Tryz.valid_string s w hs hT.2
end Go.Proofs.YtbfdpibjicjagaaGreatDoor.lbl
namespace Go.Proofs.YtbfdpibjicjagaaGreatDoor.lbl
open Go.ChangeShapes Go.WideShapes Go.ChangeAt Go.RowKit Go.Lib Go.Shelf
abbrev laidL : List (String × DataW Unit) := [("unicode/utf8.acceptRanges", Rows.laid_unicode_utf8_acceptRanges), ("unicode/utf8.first", Rows.laid_unicode_utf8_first)]
theorem laidOut : laidOutB Tryz.prog = true := by kernel_rfl
theorem own : ownKnob Tryz.prog.godebug = none := by kernel_rfl
theorem accept_eq : (Rows.laid_unicode_utf8_acceptRanges : DataW Unit) = acceptData := by kernel_rfl
theorem tabs_of {W : World} (hL : laidMet Tryz.prog laidL W) : Tabs W := by
 have h3 : VarReads Tryz.prog W "unicode/utf8.first" firstData := by
  rw [← Pinned.utf8First_eq]
  exact Lib.laidMet.reads hL (.tail _ (.head _))
 have h4 : VarReads Tryz.prog W "unicode/utf8.acceptRanges" acceptData := by
  rw [← accept_eq]
  exact Lib.laidMet.reads hL (.head _)
 have h := utf8Tabs_of_readsT (U8Types.of196 Tryz.laysValid) ⟨by kernel_rfl, by kernel_rfl, by kernel_rfl, by kernel_rfl, by kernel_rfl, by kernel_rfl, by kernel_rfl⟩ h3 h4
 have hlt := World.block_lt_of_cell? W _ (h.2 0 (by decide)).1
 exact ⟨hlt, h⟩
noncomputable def laidWorld (os : Os) : World :=
 let w0 := World.holding Tryz.prog os ⟨#[], #[], []⟩
 let put (h : Array Obj) (g : Nat) (cs : Array Value) : Array Obj := h.modify g fun
  | .cells _ t frozen => .cells cs t frozen
  | o => o
 let h1 := put w0.heap 0 (Lib.firstTab.map fun z => Value.int .u8 z).toArray
 let h2 := put h1 1 ((List.range 16).flatMap fun i => [Value.int .u8 (Lib.accLo i), Value.int .u8 (Lib.accHi i)]).toArray
 { w0 with heap := h2 }
theorem laid_met (os : Os) (args : Array Value) : laidMet Tryz.prog laidL ((laidWorld os).forCall (fun _ _ => 0) ⟨#[], args, []⟩).memory :=
 (LaidIn.of_run (l := laidL) [1, 0] 8 (by kernel_rfl) (by kernel_rfl) (by kernel_rfl) (by kernel_rfl)).met
end Go.Proofs.YtbfdpibjicjagaaGreatDoor.lbl
