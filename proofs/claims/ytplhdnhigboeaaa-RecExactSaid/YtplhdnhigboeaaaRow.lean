/-
  What every row of a seat shares that lists no package-level variable: a world for the witness, which lays nothing.
-/
import Derived.Test.YtplhdnhigboeaaaChecked
import Derived.Deep.DeepHandedRow
import Derived.Deep.DeepWitnessRowRef
import Derived.ProofKit
import Derived.SizedLaws
import Derived.OpenShut
namespace Go.Proofs.Ytplhdnhigboeaaa.row
open Go.ChangeShapes Go.WideShapes Go.ChangeAt Go.RowKit

theorem laidOut : laidOutB Try.prog = true := by kernel_rfl
theorem own : ownKnob Try.prog.godebug = none := by kernel_rfl
noncomputable def laidWorld (os : Os) : World := World.holding Try.prog os ⟨#[], #[], []⟩
theorem laid_none (w : World) : laidMet Try.prog [] w := ⟨[], by simp [DataW.LaidVars], List.nodup_nil, fun _ _ h => by cases h⟩
theorem laid_met (os : Os) (args : Array Value) : laidMet Try.prog [] ((laidWorld os).forCall (fun _ _ => 0) ⟨#[], args, []⟩).memory := laid_none _
end Go.Proofs.Ytplhdnhigboeaaa.row
