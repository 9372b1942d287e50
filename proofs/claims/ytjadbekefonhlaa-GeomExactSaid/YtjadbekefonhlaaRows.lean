/-
  No cell of these rows narrows 'for every input' (looked for: loops, veiled, ifaces, maps, wideKeys, modest, calm, conditions, laid).
  DERIVED. THE GIVEN ROWS OF THIS SEAT. 6 by the template 'for every input the law returns true; each argument reads behind the call as it read before'; 0 by the template 'total and deterministic' (their statements: YtjadbekefonhlaaTotals.lean).
  GIVEN WITH THE SEED: the statements are not yours to turn. If you find one false, say at which input.
  Laid BY PROGRAM, IN A SANDBOX (cutbox-rows.mjs): the forced cells as the released guide's own fill.sh prints them over the translation 13a3a55fe76b9463… (all of the seat's roots in one cut). By AI agents, Wed Nov 11 2026. No macro, syntax, notation, axiom, sorry.
-/
import Derived.Test.YtjadbekefonhlaaChecked
import GoSem.Claim
import GoSem.ClaimJoined
import GoSem.ClaimMapViews
import Derived.JoinedTies
import Derived.KernelRfl
namespace Go.Proofs.Ytjadbekefonhlaa
/- THE CELL 'sum', in the pinned program and in every row, IS THE sha256 OF THE DUMP (.gsa) THAT YtjadbekefonhlaaProg.lean LOADS. Nothing in Lean hashes anything: it is a label: what it is worth is what the hold of that sum in a sandbox is worth. -/
noncomputable def Try.pinned : Pinned := { name := "ytjadbekefonhlaa", sum := "13a3a55fe76b946396836731bfa092ba66d9a54854e53fc0788f1de5540feeda", checked := Try.checked }
namespace Rows
def none {H : Type} : Left H := { results := [], args := [] }

/-- 'casematelaw07.GeomExact': WHATEVER THE INPUT: true; the input reads as it did. -/
def geomExactSpec : ChangeSpec := { name := "geomExact", fn := fun _ => fun
  | [d1, d2, d3, d4] => { results := [.lit (.bool true)], args := [d1, d2, d3, d4] }
  | _ => none }
def geomExactRow : OpenClaim := { program := "ytjadbekefonhlaa", sum := "13a3a55fe76b946396836731bfa092ba66d9a54854e53fc0788f1de5540feeda", func := "casemate/casematelaw07.GeomExact", spec := "geomExact", apart := false }
def GeomExactSaid : Prop := geomExactRow.holds Try.pinned (OpenSpec.ofChange geomExactSpec)

/-- ITS FALSE NEIGHBOUR: 'it returns false'. Refute it at one input. -/
def geomExactWrong : ChangeSpec := { name := "geomExact", fn := fun _ => fun
  | [d1, d2, d3, d4] => { results := [.lit (.bool false)], args := [d1, d2, d3, d4] }
  | _ => none }
def GeomExactWrongFalsely : Prop := geomExactRow.holds Try.pinned (OpenSpec.ofChange geomExactWrong)

/-- 'casematelaw07.GeomParts': WHATEVER THE INPUT: true; the input reads as it did. -/
def geomPartsSpec : ChangeSpec := { name := "geomParts", fn := fun _ => fun
  | [d1, d2, d3, d4, d5] => { results := [.lit (.bool true)], args := [d1, d2, d3, d4, d5] }
  | _ => none }
def geomPartsRow : OpenClaim := { program := "ytjadbekefonhlaa", sum := "13a3a55fe76b946396836731bfa092ba66d9a54854e53fc0788f1de5540feeda", func := "casemate/casematelaw07.GeomParts", spec := "geomParts", apart := false }
def GeomPartsSaid : Prop := geomPartsRow.holds Try.pinned (OpenSpec.ofChange geomPartsSpec)

/-- ITS FALSE NEIGHBOUR: 'it returns false'. Refute it at one input. -/
def geomPartsWrong : ChangeSpec := { name := "geomParts", fn := fun _ => fun
  | [d1, d2, d3, d4, d5] => { results := [.lit (.bool false)], args := [d1, d2, d3, d4, d5] }
  | _ => none }
def GeomPartsWrongFalsely : Prop := geomPartsRow.holds Try.pinned (OpenSpec.ofChange geomPartsWrong)

/-- 'casematelaw07.GeomSets': WHATEVER THE INPUT: true; the input reads as it did. -/
def geomSetsSpec : ChangeSpec := { name := "geomSets", fn := fun _ => fun
  | [d1, d2, d3, d4, d5, d6, d7] => { results := [.lit (.bool true)], args := [d1, d2, d3, d4, d5, d6, d7] }
  | _ => none }
def geomSetsRow : OpenClaim := { program := "ytjadbekefonhlaa", sum := "13a3a55fe76b946396836731bfa092ba66d9a54854e53fc0788f1de5540feeda", func := "casemate/casematelaw07.GeomSets", spec := "geomSets", apart := false }
def GeomSetsSaid : Prop := geomSetsRow.holds Try.pinned (OpenSpec.ofChange geomSetsSpec)

/-- ITS FALSE NEIGHBOUR: 'it returns false'. Refute it at one input. -/
def geomSetsWrong : ChangeSpec := { name := "geomSets", fn := fun _ => fun
  | [d1, d2, d3, d4, d5, d6, d7] => { results := [.lit (.bool false)], args := [d1, d2, d3, d4, d5, d6, d7] }
  | _ => none }
def GeomSetsWrongFalsely : Prop := geomSetsRow.holds Try.pinned (OpenSpec.ofChange geomSetsWrong)

/-- 'casematelaw07.GeomBlocks': WHATEVER THE INPUT: true; the input reads as it did. -/
def geomBlocksSpec : ChangeSpec := { name := "geomBlocks", fn := fun _ => fun
  | [d1, d2, d3, d4, d5, d6] => { results := [.lit (.bool true)], args := [d1, d2, d3, d4, d5, d6] }
  | _ => none }
def geomBlocksRow : OpenClaim := { program := "ytjadbekefonhlaa", sum := "13a3a55fe76b946396836731bfa092ba66d9a54854e53fc0788f1de5540feeda", func := "casemate/casematelaw07.GeomBlocks", spec := "geomBlocks", apart := false }
def GeomBlocksSaid : Prop := geomBlocksRow.holds Try.pinned (OpenSpec.ofChange geomBlocksSpec)

/-- ITS FALSE NEIGHBOUR: 'it returns false'. Refute it at one input. -/
def geomBlocksWrong : ChangeSpec := { name := "geomBlocks", fn := fun _ => fun
  | [d1, d2, d3, d4, d5, d6] => { results := [.lit (.bool false)], args := [d1, d2, d3, d4, d5, d6] }
  | _ => none }
def GeomBlocksWrongFalsely : Prop := geomBlocksRow.holds Try.pinned (OpenSpec.ofChange geomBlocksWrong)

/-- 'casematelaw07.GeomBent': WHATEVER THE INPUT: true; the input reads as it did. -/
def geomBentSpec : ChangeSpec := { name := "geomBent", fn := fun _ => fun
  | [d1, d2, d3, d4, d5, d6] => { results := [.lit (.bool true)], args := [d1, d2, d3, d4, d5, d6] }
  | _ => none }
def geomBentRow : OpenClaim := { program := "ytjadbekefonhlaa", sum := "13a3a55fe76b946396836731bfa092ba66d9a54854e53fc0788f1de5540feeda", func := "casemate/casematelaw07.GeomBent", spec := "geomBent", apart := false }
def GeomBentSaid : Prop := geomBentRow.holds Try.pinned (OpenSpec.ofChange geomBentSpec)

/-- ITS FALSE NEIGHBOUR: 'it returns false'. Refute it at one input. -/
def geomBentWrong : ChangeSpec := { name := "geomBent", fn := fun _ => fun
  | [d1, d2, d3, d4, d5, d6] => { results := [.lit (.bool false)], args := [d1, d2, d3, d4, d5, d6] }
  | _ => none }
def GeomBentWrongFalsely : Prop := geomBentRow.holds Try.pinned (OpenSpec.ofChange geomBentWrong)

/-- 'casematelaw07.GeomOrder': WHATEVER THE INPUT: true; the input reads as it did. -/
def geomOrderSpec : ChangeSpec := { name := "geomOrder", fn := fun _ => fun
  | [d1, d2, d3, d4, d5] => { results := [.lit (.bool true)], args := [d1, d2, d3, d4, d5] }
  | _ => none }
def geomOrderRow : OpenClaim := { program := "ytjadbekefonhlaa", sum := "13a3a55fe76b946396836731bfa092ba66d9a54854e53fc0788f1de5540feeda", func := "casemate/casematelaw07.GeomOrder", spec := "geomOrder", apart := false }
def GeomOrderSaid : Prop := geomOrderRow.holds Try.pinned (OpenSpec.ofChange geomOrderSpec)

/-- ITS FALSE NEIGHBOUR: 'it returns false'. Refute it at one input. -/
def geomOrderWrong : ChangeSpec := { name := "geomOrder", fn := fun _ => fun
  | [d1, d2, d3, d4, d5] => { results := [.lit (.bool false)], args := [d1, d2, d3, d4, d5] }
  | _ => none }
def GeomOrderWrongFalsely : Prop := geomOrderRow.holds Try.pinned (OpenSpec.ofChange geomOrderWrong)

/- THE SECOND FORM. 'bulk': how many values and letters a reading holds, each counted each time it is reached (what is shared counts as often as it is met; a slice's spare places count too). A statement '..UptoSaid' is the law's where the arguments, and the package variables that the reading takes, are together of bulk at most 1048576: NARROWER than '..Said'. Prove '..Said' where nothing that the law and all that it calls make is longer than what came in: it says more and counts as full. Else prove '..UptoSaid'. A law counts once. -/
mutual
def uptoBulk {H : Type} : DataW H → Nat
  | .lit (.string bytes) => bytes.length + 1
  | .lit _ => 1
  | .nil => 1
  | .ptr d => uptoBulk d + 1
  | .slice elems spare => uptoBulkAll elems + uptoBulkAll spare + 1
  | .agg parts => uptoBulkAll parts + 1
  | .iface _ d => uptoBulk d + 1
  | .map entries => uptoBulkEntries entries + 1
  | .held _ => 1
def uptoBulkAll {H : Type} : List (DataW H) → Nat
  | [] => 0
  | d :: r => uptoBulk d + uptoBulkAll r
def uptoBulkEntries {H : Type} : List (Lit × DataW H) → Nat
  | [] => 0
  | x :: r => uptoBulkEntry x + uptoBulkEntries r
def uptoBulkEntry {H : Type} : Lit × DataW H → Nat
  | (.string bytes, d) => bytes.length + uptoBulk d + 1
  | (_, d) => uptoBulk d + 1
 end
def uptoSmall : (H : Type) → List (DataW H) → Bool := fun _ ds => decide (uptoBulkAll ds ≤ 1048576)
def OpenSpec.upto (s : _root_.Go.ChangeSpec) : _root_.Go.OpenSpec := { _root_.Go.OpenSpec.ofChange s with cond := some uptoSmall }

/-- 'casematelaw07.GeomExact', WHERE WHAT IT READS IS OF BULK AT MOST 1048576: true; the input reads as it did. -/
def geomExactUptoRow : OpenClaim := { program := "ytjadbekefonhlaa", sum := "13a3a55fe76b946396836731bfa092ba66d9a54854e53fc0788f1de5540feeda", func := "casemate/casematelaw07.GeomExact", spec := "geomExact", apart := false, narrowed := true }
def GeomExactUptoSaid : Prop := geomExactUptoRow.holds Try.pinned (OpenSpec.upto geomExactSpec)

/-- 'casematelaw07.GeomParts', WHERE WHAT IT READS IS OF BULK AT MOST 1048576: true; the input reads as it did. -/
def geomPartsUptoRow : OpenClaim := { program := "ytjadbekefonhlaa", sum := "13a3a55fe76b946396836731bfa092ba66d9a54854e53fc0788f1de5540feeda", func := "casemate/casematelaw07.GeomParts", spec := "geomParts", apart := false, narrowed := true }
def GeomPartsUptoSaid : Prop := geomPartsUptoRow.holds Try.pinned (OpenSpec.upto geomPartsSpec)

/-- 'casematelaw07.GeomSets', WHERE WHAT IT READS IS OF BULK AT MOST 1048576: true; the input reads as it did. -/
def geomSetsUptoRow : OpenClaim := { program := "ytjadbekefonhlaa", sum := "13a3a55fe76b946396836731bfa092ba66d9a54854e53fc0788f1de5540feeda", func := "casemate/casematelaw07.GeomSets", spec := "geomSets", apart := false, narrowed := true }
def GeomSetsUptoSaid : Prop := geomSetsUptoRow.holds Try.pinned (OpenSpec.upto geomSetsSpec)

/-- 'casematelaw07.GeomBlocks', WHERE WHAT IT READS IS OF BULK AT MOST 1048576: true; the input reads as it did. -/
def geomBlocksUptoRow : OpenClaim := { program := "ytjadbekefonhlaa", sum := "13a3a55fe76b946396836731bfa092ba66d9a54854e53fc0788f1de5540feeda", func := "casemate/casematelaw07.GeomBlocks", spec := "geomBlocks", apart := false, narrowed := true }
def GeomBlocksUptoSaid : Prop := geomBlocksUptoRow.holds Try.pinned (OpenSpec.upto geomBlocksSpec)

/-- 'casematelaw07.GeomBent', WHERE WHAT IT READS IS OF BULK AT MOST 1048576: true; the input reads as it did. -/
def geomBentUptoRow : OpenClaim := { program := "ytjadbekefonhlaa", sum := "13a3a55fe76b946396836731bfa092ba66d9a54854e53fc0788f1de5540feeda", func := "casemate/casematelaw07.GeomBent", spec := "geomBent", apart := false, narrowed := true }
def GeomBentUptoSaid : Prop := geomBentUptoRow.holds Try.pinned (OpenSpec.upto geomBentSpec)

/-- 'casematelaw07.GeomOrder', WHERE WHAT IT READS IS OF BULK AT MOST 1048576: true; the input reads as it did. -/
def geomOrderUptoRow : OpenClaim := { program := "ytjadbekefonhlaa", sum := "13a3a55fe76b946396836731bfa092ba66d9a54854e53fc0788f1de5540feeda", func := "casemate/casematelaw07.GeomOrder", spec := "geomOrder", apart := false, narrowed := true }
def GeomOrderUptoSaid : Prop := geomOrderUptoRow.holds Try.pinned (OpenSpec.upto geomOrderSpec)

end Rows
end Go.Proofs.Ytjadbekefonhlaa
