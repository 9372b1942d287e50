/-
  No cell of these rows narrows 'for every input' (looked for: loops, veiled, ifaces, maps, wideKeys, modest, calm, conditions, laid).
  DERIVED. THE GIVEN ROWS OF THIS SEAT. 7 by the template 'for every input the law returns true; each argument reads behind the call as it read before'; 0 by the template 'total and deterministic' (their statements: YtajgkfcflbmkdaaTotals.lean).
  GIVEN WITH THE SEED: the statements are not yours to turn. If you find one false, say at which input.
  Laid BY PROGRAM, IN A SANDBOX (cutbox-rows.mjs): the forced cells as the released guide's own fill.sh prints them over the translation 243227b56a129daa… (all of the seat's roots in one cut). By AI agents, Wed Nov 11 2026. No macro, syntax, notation, axiom, sorry.
-/
import Derived.Test.YtajgkfcflbmkdaaChecked
import GoSem.Claim
import GoSem.ClaimJoined
import GoSem.ClaimMapViews
import Derived.JoinedTies
import Derived.KernelRfl
namespace Go.Proofs.Ytajgkfcflbmkdaa
/- THE CELL 'sum', in the pinned program and in every row, IS THE sha256 OF THE DUMP (.gsa) THAT YtajgkfcflbmkdaaProg.lean LOADS. Nothing in Lean hashes anything: it is a label: what it is worth is what the hold of that sum in a sandbox is worth. -/
noncomputable def Try.pinned : Pinned := { name := "ytajgkfcflbmkdaa", sum := "243227b56a129daad1ecf5e5ad6f0d2d08661c9eb812cd9c93c38558f69426f4", checked := Try.checked }
namespace Rows
def none {H : Type} : Left H := { results := [], args := [] }

/-- 'casematelaw05.SealExact': WHATEVER THE INPUT: true; the input reads as it did. -/
def sealExactSpec : ChangeSpec := { name := "sealExact", fn := fun _ => fun
  | [d1, d2, d3, d4] => { results := [.lit (.bool true)], args := [d1, d2, d3, d4] }
  | _ => none }
def sealExactRow : OpenClaim := { program := "ytajgkfcflbmkdaa", sum := "243227b56a129daad1ecf5e5ad6f0d2d08661c9eb812cd9c93c38558f69426f4", func := "casemate/casematelaw05.SealExact", spec := "sealExact", apart := false }
def SealExactSaid : Prop := sealExactRow.holds Try.pinned (OpenSpec.ofChange sealExactSpec)

/-- ITS FALSE NEIGHBOUR: 'it returns false'. Refute it at one input. -/
def sealExactWrong : ChangeSpec := { name := "sealExact", fn := fun _ => fun
  | [d1, d2, d3, d4] => { results := [.lit (.bool false)], args := [d1, d2, d3, d4] }
  | _ => none }
def SealExactWrongFalsely : Prop := sealExactRow.holds Try.pinned (OpenSpec.ofChange sealExactWrong)

/-- 'casematelaw05.SealBack': WHATEVER THE INPUT: true; the input reads as it did. -/
def sealBackSpec : ChangeSpec := { name := "sealBack", fn := fun _ => fun
  | [d1, d2, d3] => { results := [.lit (.bool true)], args := [d1, d2, d3] }
  | _ => none }
def sealBackRow : OpenClaim := { program := "ytajgkfcflbmkdaa", sum := "243227b56a129daad1ecf5e5ad6f0d2d08661c9eb812cd9c93c38558f69426f4", func := "casemate/casematelaw05.SealBack", spec := "sealBack", apart := false }
def SealBackSaid : Prop := sealBackRow.holds Try.pinned (OpenSpec.ofChange sealBackSpec)

/-- ITS FALSE NEIGHBOUR: 'it returns false'. Refute it at one input. -/
def sealBackWrong : ChangeSpec := { name := "sealBack", fn := fun _ => fun
  | [d1, d2, d3] => { results := [.lit (.bool false)], args := [d1, d2, d3] }
  | _ => none }
def SealBackWrongFalsely : Prop := sealBackRow.holds Try.pinned (OpenSpec.ofChange sealBackWrong)

/-- 'casematelaw05.SealFlipped': WHATEVER THE INPUT: true; the input reads as it did. -/
def sealFlippedSpec : ChangeSpec := { name := "sealFlipped", fn := fun _ => fun
  | [d1, d2, d3] => { results := [.lit (.bool true)], args := [d1, d2, d3] }
  | _ => none }
def sealFlippedRow : OpenClaim := { program := "ytajgkfcflbmkdaa", sum := "243227b56a129daad1ecf5e5ad6f0d2d08661c9eb812cd9c93c38558f69426f4", func := "casemate/casematelaw05.SealFlipped", spec := "sealFlipped", apart := false }
def SealFlippedSaid : Prop := sealFlippedRow.holds Try.pinned (OpenSpec.ofChange sealFlippedSpec)

/-- ITS FALSE NEIGHBOUR: 'it returns false'. Refute it at one input. -/
def sealFlippedWrong : ChangeSpec := { name := "sealFlipped", fn := fun _ => fun
  | [d1, d2, d3] => { results := [.lit (.bool false)], args := [d1, d2, d3] }
  | _ => none }
def SealFlippedWrongFalsely : Prop := sealFlippedRow.holds Try.pinned (OpenSpec.ofChange sealFlippedWrong)

/-- 'casematelaw05.SealCuts': WHATEVER THE INPUT: true; the input reads as it did. -/
def sealCutsSpec : ChangeSpec := { name := "sealCuts", fn := fun _ => fun
  | [d1, d2] => { results := [.lit (.bool true)], args := [d1, d2] }
  | _ => none }
def sealCutsRow : OpenClaim := { program := "ytajgkfcflbmkdaa", sum := "243227b56a129daad1ecf5e5ad6f0d2d08661c9eb812cd9c93c38558f69426f4", func := "casemate/casematelaw05.SealCuts", spec := "sealCuts", apart := false }
def SealCutsSaid : Prop := sealCutsRow.holds Try.pinned (OpenSpec.ofChange sealCutsSpec)

/-- ITS FALSE NEIGHBOUR: 'it returns false'. Refute it at one input. -/
def sealCutsWrong : ChangeSpec := { name := "sealCuts", fn := fun _ => fun
  | [d1, d2] => { results := [.lit (.bool false)], args := [d1, d2] }
  | _ => none }
def SealCutsWrongFalsely : Prop := sealCutsRow.holds Try.pinned (OpenSpec.ofChange sealCutsWrong)

/-- 'casematelaw05.SealFields': WHATEVER THE INPUT: true; the input reads as it did. -/
def sealFieldsSpec : ChangeSpec := { name := "sealFields", fn := fun _ => fun
  | [d1, d2, d3] => { results := [.lit (.bool true)], args := [d1, d2, d3] }
  | _ => none }
def sealFieldsRow : OpenClaim := { program := "ytajgkfcflbmkdaa", sum := "243227b56a129daad1ecf5e5ad6f0d2d08661c9eb812cd9c93c38558f69426f4", func := "casemate/casematelaw05.SealFields", spec := "sealFields", apart := false }
def SealFieldsSaid : Prop := sealFieldsRow.holds Try.pinned (OpenSpec.ofChange sealFieldsSpec)

/-- ITS FALSE NEIGHBOUR: 'it returns false'. Refute it at one input. -/
def sealFieldsWrong : ChangeSpec := { name := "sealFields", fn := fun _ => fun
  | [d1, d2, d3] => { results := [.lit (.bool false)], args := [d1, d2, d3] }
  | _ => none }
def SealFieldsWrongFalsely : Prop := sealFieldsRow.holds Try.pinned (OpenSpec.ofChange sealFieldsWrong)

/-- 'casematelaw05.SealEdges': WHATEVER THE INPUT: true; the input reads as it did. -/
def sealEdgesSpec : ChangeSpec := { name := "sealEdges", fn := fun _ => fun
  | [d1, d2] => { results := [.lit (.bool true)], args := [d1, d2] }
  | _ => none }
def sealEdgesRow : OpenClaim := { program := "ytajgkfcflbmkdaa", sum := "243227b56a129daad1ecf5e5ad6f0d2d08661c9eb812cd9c93c38558f69426f4", func := "casemate/casematelaw05.SealEdges", spec := "sealEdges", apart := false }
def SealEdgesSaid : Prop := sealEdgesRow.holds Try.pinned (OpenSpec.ofChange sealEdgesSpec)

/-- ITS FALSE NEIGHBOUR: 'it returns false'. Refute it at one input. -/
def sealEdgesWrong : ChangeSpec := { name := "sealEdges", fn := fun _ => fun
  | [d1, d2] => { results := [.lit (.bool false)], args := [d1, d2] }
  | _ => none }
def SealEdgesWrongFalsely : Prop := sealEdgesRow.holds Try.pinned (OpenSpec.ofChange sealEdgesWrong)

/-- 'casematelaw05.SealTurns': WHATEVER THE INPUT: true; the input reads as it did. -/
def sealTurnsSpec : ChangeSpec := { name := "sealTurns", fn := fun _ => fun
  | [d1, d2, d3] => { results := [.lit (.bool true)], args := [d1, d2, d3] }
  | _ => none }
def sealTurnsRow : OpenClaim := { program := "ytajgkfcflbmkdaa", sum := "243227b56a129daad1ecf5e5ad6f0d2d08661c9eb812cd9c93c38558f69426f4", func := "casemate/casematelaw05.SealTurns", spec := "sealTurns", apart := false }
def SealTurnsSaid : Prop := sealTurnsRow.holds Try.pinned (OpenSpec.ofChange sealTurnsSpec)

/-- ITS FALSE NEIGHBOUR: 'it returns false'. Refute it at one input. -/
def sealTurnsWrong : ChangeSpec := { name := "sealTurns", fn := fun _ => fun
  | [d1, d2, d3] => { results := [.lit (.bool false)], args := [d1, d2, d3] }
  | _ => none }
def SealTurnsWrongFalsely : Prop := sealTurnsRow.holds Try.pinned (OpenSpec.ofChange sealTurnsWrong)

/- THE SECOND FORM. 'bulk': how many values and letters a reading holds, each counted each time it is reached (what is shared counts as often as it is met; a slice's spare places count too). A statement '..UptoSaid' is the law's where the arguments, and the package variables that the reading takes, are together of bulk at most 1048576: NARROWER than '..Said'. Prove '..Said' where nothing that the law and all that it calls make is longer than what came in: it says more and counts as full. Else prove '..UptoSaid'. A law counts once. -/
mutual
def uptoBulk {H : Type} : DataW H → Nat
  | .lit (.string bytes) => bytes.length + 1
  | .lit _ => 1
  | .nil => 1
  | .ptr d => uptoBulk d + 1
  | .slice elems spare => uptoBulkAll elems + uptoBulkAll spare + 1
  | .agg parts => uptoBulkAll parts + 1
  | .iface _ d => uptoBulk d + 1
  | .map entries => uptoBulkEntries entries + 1
  | .held _ => 1
def uptoBulkAll {H : Type} : List (DataW H) → Nat
  | [] => 0
  | d :: r => uptoBulk d + uptoBulkAll r
def uptoBulkEntries {H : Type} : List (Lit × DataW H) → Nat
  | [] => 0
  | x :: r => uptoBulkEntry x + uptoBulkEntries r
def uptoBulkEntry {H : Type} : Lit × DataW H → Nat
  | (.string bytes, d) => bytes.length + uptoBulk d + 1
  | (_, d) => uptoBulk d + 1
 end
def uptoSmall : (H : Type) → List (DataW H) → Bool := fun _ ds => decide (uptoBulkAll ds ≤ 1048576)
def OpenSpec.upto (s : _root_.Go.ChangeSpec) : _root_.Go.OpenSpec := { _root_.Go.OpenSpec.ofChange s with cond := some uptoSmall }

/-- 'casematelaw05.SealExact', WHERE WHAT IT READS IS OF BULK AT MOST 1048576: true; the input reads as it did. -/
def sealExactUptoRow : OpenClaim := { program := "ytajgkfcflbmkdaa", sum := "243227b56a129daad1ecf5e5ad6f0d2d08661c9eb812cd9c93c38558f69426f4", func := "casemate/casematelaw05.SealExact", spec := "sealExact", apart := false, narrowed := true }
def SealExactUptoSaid : Prop := sealExactUptoRow.holds Try.pinned (OpenSpec.upto sealExactSpec)

/-- 'casematelaw05.SealBack', WHERE WHAT IT READS IS OF BULK AT MOST 1048576: true; the input reads as it did. -/
def sealBackUptoRow : OpenClaim := { program := "ytajgkfcflbmkdaa", sum := "243227b56a129daad1ecf5e5ad6f0d2d08661c9eb812cd9c93c38558f69426f4", func := "casemate/casematelaw05.SealBack", spec := "sealBack", apart := false, narrowed := true }
def SealBackUptoSaid : Prop := sealBackUptoRow.holds Try.pinned (OpenSpec.upto sealBackSpec)

/-- 'casematelaw05.SealFlipped', WHERE WHAT IT READS IS OF BULK AT MOST 1048576: true; the input reads as it did. -/
def sealFlippedUptoRow : OpenClaim := { program := "ytajgkfcflbmkdaa", sum := "243227b56a129daad1ecf5e5ad6f0d2d08661c9eb812cd9c93c38558f69426f4", func := "casemate/casematelaw05.SealFlipped", spec := "sealFlipped", apart := false, narrowed := true }
def SealFlippedUptoSaid : Prop := sealFlippedUptoRow.holds Try.pinned (OpenSpec.upto sealFlippedSpec)

/-- 'casematelaw05.SealCuts', WHERE WHAT IT READS IS OF BULK AT MOST 1048576: true; the input reads as it did. -/
def sealCutsUptoRow : OpenClaim := { program := "ytajgkfcflbmkdaa", sum := "243227b56a129daad1ecf5e5ad6f0d2d08661c9eb812cd9c93c38558f69426f4", func := "casemate/casematelaw05.SealCuts", spec := "sealCuts", apart := false, narrowed := true }
def SealCutsUptoSaid : Prop := sealCutsUptoRow.holds Try.pinned (OpenSpec.upto sealCutsSpec)

/-- 'casematelaw05.SealFields', WHERE WHAT IT READS IS OF BULK AT MOST 1048576: true; the input reads as it did. -/
def sealFieldsUptoRow : OpenClaim := { program := "ytajgkfcflbmkdaa", sum := "243227b56a129daad1ecf5e5ad6f0d2d08661c9eb812cd9c93c38558f69426f4", func := "casemate/casematelaw05.SealFields", spec := "sealFields", apart := false, narrowed := true }
def SealFieldsUptoSaid : Prop := sealFieldsUptoRow.holds Try.pinned (OpenSpec.upto sealFieldsSpec)

/-- 'casematelaw05.SealEdges', WHERE WHAT IT READS IS OF BULK AT MOST 1048576: true; the input reads as it did. -/
def sealEdgesUptoRow : OpenClaim := { program := "ytajgkfcflbmkdaa", sum := "243227b56a129daad1ecf5e5ad6f0d2d08661c9eb812cd9c93c38558f69426f4", func := "casemate/casematelaw05.SealEdges", spec := "sealEdges", apart := false, narrowed := true }
def SealEdgesUptoSaid : Prop := sealEdgesUptoRow.holds Try.pinned (OpenSpec.upto sealEdgesSpec)

/-- 'casematelaw05.SealTurns', WHERE WHAT IT READS IS OF BULK AT MOST 1048576: true; the input reads as it did. -/
def sealTurnsUptoRow : OpenClaim := { program := "ytajgkfcflbmkdaa", sum := "243227b56a129daad1ecf5e5ad6f0d2d08661c9eb812cd9c93c38558f69426f4", func := "casemate/casematelaw05.SealTurns", spec := "sealTurns", apart := false, narrowed := true }
def SealTurnsUptoSaid : Prop := sealTurnsUptoRow.holds Try.pinned (OpenSpec.upto sealTurnsSpec)

end Rows
end Go.Proofs.Ytajgkfcflbmkdaa
