/-
  No cell of these rows narrows 'for every input' (looked for: loops, veiled, ifaces, maps, wideKeys, modest, calm, conditions, laid).
  DERIVED. THE GIVEN ROWS OF THIS SEAT. 7 by the template 'for every input the law returns true; each argument reads behind the call as it read before'; 0 by the template 'total and deterministic' (their statements: YtehbecpijomhcaaTotals.lean).
  GIVEN WITH THE SEED: the statements are not yours to turn. If you find one false, say at which input.
  Laid BY PROGRAM, IN A SANDBOX (cutbox-rows.mjs): the forced cells as the released guide's own fill.sh prints them over the translation 3b9d4b7e9316b73b… (all of the seat's roots in one cut). By AI agents, Wed Nov 11 2026. No macro, syntax, notation, axiom, sorry.
-/
import Derived.Test.YtehbecpijomhcaaChecked
import GoSem.Claim
import GoSem.ClaimJoined
import GoSem.ClaimMapViews
import Derived.JoinedTies
import Derived.KernelRfl
namespace Go.Proofs.Ytehbecpijomhcaa
/- THE CELL 'sum', in the pinned program and in every row, IS THE sha256 OF THE DUMP (.gsa) THAT YtehbecpijomhcaaProg.lean LOADS. Nothing in Lean hashes anything: it is a label: what it is worth is what the hold of that sum in a sandbox is worth. -/
noncomputable def Try.pinned : Pinned := { name := "ytehbecpijomhcaa", sum := "3b9d4b7e9316b73bbb180ca29ccc430563086ff787ebfea4cb88bf5a34f15d9f", checked := Try.checked }
namespace Rows
def none {H : Type} : Left H := { results := [], args := [] }

/-- 'casematelaw02.SumExact': WHATEVER THE INPUT: true; the input reads as it did. -/
def sumExactSpec : ChangeSpec := { name := "sumExact", fn := fun _ => fun
  | [d1, d2, d3] => { results := [.lit (.bool true)], args := [d1, d2, d3] }
  | _ => none }
def sumExactRow : OpenClaim := { program := "ytehbecpijomhcaa", sum := "3b9d4b7e9316b73bbb180ca29ccc430563086ff787ebfea4cb88bf5a34f15d9f", func := "casemate/casematelaw02.SumExact", spec := "sumExact", apart := false }
def SumExactSaid : Prop := sumExactRow.holds Try.pinned (OpenSpec.ofChange sumExactSpec)

/-- ITS FALSE NEIGHBOUR: 'it returns false'. Refute it at one input. -/
def sumExactWrong : ChangeSpec := { name := "sumExact", fn := fun _ => fun
  | [d1, d2, d3] => { results := [.lit (.bool false)], args := [d1, d2, d3] }
  | _ => none }
def SumExactWrongFalsely : Prop := sumExactRow.holds Try.pinned (OpenSpec.ofChange sumExactWrong)

/-- 'casematelaw02.SumParts': WHATEVER THE INPUT: true; the input reads as it did. -/
def sumPartsSpec : ChangeSpec := { name := "sumParts", fn := fun _ => fun
  | [d1, d2] => { results := [.lit (.bool true)], args := [d1, d2] }
  | _ => none }
def sumPartsRow : OpenClaim := { program := "ytehbecpijomhcaa", sum := "3b9d4b7e9316b73bbb180ca29ccc430563086ff787ebfea4cb88bf5a34f15d9f", func := "casemate/casematelaw02.SumParts", spec := "sumParts", apart := false }
def SumPartsSaid : Prop := sumPartsRow.holds Try.pinned (OpenSpec.ofChange sumPartsSpec)

/-- ITS FALSE NEIGHBOUR: 'it returns false'. Refute it at one input. -/
def sumPartsWrong : ChangeSpec := { name := "sumParts", fn := fun _ => fun
  | [d1, d2] => { results := [.lit (.bool false)], args := [d1, d2] }
  | _ => none }
def SumPartsWrongFalsely : Prop := sumPartsRow.holds Try.pinned (OpenSpec.ofChange sumPartsWrong)

/-- 'casematelaw02.SumBurst': WHATEVER THE INPUT: true; the input reads as it did. -/
def sumBurstSpec : ChangeSpec := { name := "sumBurst", fn := fun _ => fun
  | [d1, d2, d3, d4] => { results := [.lit (.bool true)], args := [d1, d2, d3, d4] }
  | _ => none }
def sumBurstRow : OpenClaim := { program := "ytehbecpijomhcaa", sum := "3b9d4b7e9316b73bbb180ca29ccc430563086ff787ebfea4cb88bf5a34f15d9f", func := "casemate/casematelaw02.SumBurst", spec := "sumBurst", apart := false }
def SumBurstSaid : Prop := sumBurstRow.holds Try.pinned (OpenSpec.ofChange sumBurstSpec)

/-- ITS FALSE NEIGHBOUR: 'it returns false'. Refute it at one input. -/
def sumBurstWrong : ChangeSpec := { name := "sumBurst", fn := fun _ => fun
  | [d1, d2, d3, d4] => { results := [.lit (.bool false)], args := [d1, d2, d3, d4] }
  | _ => none }
def SumBurstWrongFalsely : Prop := sumBurstRow.holds Try.pinned (OpenSpec.ofChange sumBurstWrong)

/-- 'casematelaw02.SumFour': WHATEVER THE INPUT: true; the input reads as it did. -/
def sumFourSpec : ChangeSpec := { name := "sumFour", fn := fun _ => fun
  | [d1, d2, d3, d4, d5, d6, d7, d8] => { results := [.lit (.bool true)], args := [d1, d2, d3, d4, d5, d6, d7, d8] }
  | _ => none }
def sumFourRow : OpenClaim := { program := "ytehbecpijomhcaa", sum := "3b9d4b7e9316b73bbb180ca29ccc430563086ff787ebfea4cb88bf5a34f15d9f", func := "casemate/casematelaw02.SumFour", spec := "sumFour", apart := false }
def SumFourSaid : Prop := sumFourRow.holds Try.pinned (OpenSpec.ofChange sumFourSpec)

/-- ITS FALSE NEIGHBOUR: 'it returns false'. Refute it at one input. -/
def sumFourWrong : ChangeSpec := { name := "sumFour", fn := fun _ => fun
  | [d1, d2, d3, d4, d5, d6, d7, d8] => { results := [.lit (.bool false)], args := [d1, d2, d3, d4, d5, d6, d7, d8] }
  | _ => none }
def SumFourWrongFalsely : Prop := sumFourRow.holds Try.pinned (OpenSpec.ofChange sumFourWrong)

/-- 'casematelaw02.SumMix': WHATEVER THE INPUT: true; the input reads as it did. -/
def sumMixSpec : ChangeSpec := { name := "sumMix", fn := fun _ => fun
  | [d1, d2, d3] => { results := [.lit (.bool true)], args := [d1, d2, d3] }
  | _ => none }
def sumMixRow : OpenClaim := { program := "ytehbecpijomhcaa", sum := "3b9d4b7e9316b73bbb180ca29ccc430563086ff787ebfea4cb88bf5a34f15d9f", func := "casemate/casematelaw02.SumMix", spec := "sumMix", apart := false }
def SumMixSaid : Prop := sumMixRow.holds Try.pinned (OpenSpec.ofChange sumMixSpec)

/-- ITS FALSE NEIGHBOUR: 'it returns false'. Refute it at one input. -/
def sumMixWrong : ChangeSpec := { name := "sumMix", fn := fun _ => fun
  | [d1, d2, d3] => { results := [.lit (.bool false)], args := [d1, d2, d3] }
  | _ => none }
def SumMixWrongFalsely : Prop := sumMixRow.holds Try.pinned (OpenSpec.ofChange sumMixWrong)

/-- 'casematelaw02.SumTables': WHATEVER THE INPUT: true; the input reads as it did. -/
def sumTablesSpec : ChangeSpec := { name := "sumTables", fn := fun _ => fun
  | [d1, d2] => { results := [.lit (.bool true)], args := [d1, d2] }
  | _ => none }
def sumTablesRow : OpenClaim := { program := "ytehbecpijomhcaa", sum := "3b9d4b7e9316b73bbb180ca29ccc430563086ff787ebfea4cb88bf5a34f15d9f", func := "casemate/casematelaw02.SumTables", spec := "sumTables", apart := false }
def SumTablesSaid : Prop := sumTablesRow.holds Try.pinned (OpenSpec.ofChange sumTablesSpec)

/-- ITS FALSE NEIGHBOUR: 'it returns false'. Refute it at one input. -/
def sumTablesWrong : ChangeSpec := { name := "sumTables", fn := fun _ => fun
  | [d1, d2] => { results := [.lit (.bool false)], args := [d1, d2] }
  | _ => none }
def SumTablesWrongFalsely : Prop := sumTablesRow.holds Try.pinned (OpenSpec.ofChange sumTablesWrong)

/-- 'casematelaw02.SumAlone': WHATEVER THE INPUT: true; the input reads as it did. -/
def sumAloneSpec : ChangeSpec := { name := "sumAlone", fn := fun _ => fun
  | [d] => { results := [.lit (.bool true)], args := [d] }
  | _ => none }
def sumAloneRow : OpenClaim := { program := "ytehbecpijomhcaa", sum := "3b9d4b7e9316b73bbb180ca29ccc430563086ff787ebfea4cb88bf5a34f15d9f", func := "casemate/casematelaw02.SumAlone", spec := "sumAlone", apart := false }
def SumAloneSaid : Prop := sumAloneRow.holds Try.pinned (OpenSpec.ofChange sumAloneSpec)

/-- ITS FALSE NEIGHBOUR: 'it returns false'. Refute it at one input. -/
def sumAloneWrong : ChangeSpec := { name := "sumAlone", fn := fun _ => fun
  | [d] => { results := [.lit (.bool false)], args := [d] }
  | _ => none }
def SumAloneWrongFalsely : Prop := sumAloneRow.holds Try.pinned (OpenSpec.ofChange sumAloneWrong)

/- THE SECOND FORM. 'bulk': how many values and letters a reading holds, each counted each time it is reached (what is shared counts as often as it is met; a slice's spare places count too). A statement '..UptoSaid' is the law's where the arguments, and the package variables that the reading takes, are together of bulk at most 1048576: NARROWER than '..Said'. Prove '..Said' where nothing that the law and all that it calls make is longer than what came in: it says more and counts as full. Else prove '..UptoSaid'. A law counts once. -/
mutual
def uptoBulk {H : Type} : DataW H → Nat
  | .lit (.string bytes) => bytes.length + 1
  | .lit _ => 1
  | .nil => 1
  | .ptr d => uptoBulk d + 1
  | .slice elems spare => uptoBulkAll elems + uptoBulkAll spare + 1
  | .agg parts => uptoBulkAll parts + 1
  | .iface _ d => uptoBulk d + 1
  | .map entries => uptoBulkEntries entries + 1
  | .held _ => 1
def uptoBulkAll {H : Type} : List (DataW H) → Nat
  | [] => 0
  | d :: r => uptoBulk d + uptoBulkAll r
def uptoBulkEntries {H : Type} : List (Lit × DataW H) → Nat
  | [] => 0
  | x :: r => uptoBulkEntry x + uptoBulkEntries r
def uptoBulkEntry {H : Type} : Lit × DataW H → Nat
  | (.string bytes, d) => bytes.length + uptoBulk d + 1
  | (_, d) => uptoBulk d + 1
 end
def uptoSmall : (H : Type) → List (DataW H) → Bool := fun _ ds => decide (uptoBulkAll ds ≤ 1048576)
def OpenSpec.upto (s : _root_.Go.ChangeSpec) : _root_.Go.OpenSpec := { _root_.Go.OpenSpec.ofChange s with cond := some uptoSmall }

/-- 'casematelaw02.SumExact', WHERE WHAT IT READS IS OF BULK AT MOST 1048576: true; the input reads as it did. -/
def sumExactUptoRow : OpenClaim := { program := "ytehbecpijomhcaa", sum := "3b9d4b7e9316b73bbb180ca29ccc430563086ff787ebfea4cb88bf5a34f15d9f", func := "casemate/casematelaw02.SumExact", spec := "sumExact", apart := false, narrowed := true }
def SumExactUptoSaid : Prop := sumExactUptoRow.holds Try.pinned (OpenSpec.upto sumExactSpec)

/-- 'casematelaw02.SumParts', WHERE WHAT IT READS IS OF BULK AT MOST 1048576: true; the input reads as it did. -/
def sumPartsUptoRow : OpenClaim := { program := "ytehbecpijomhcaa", sum := "3b9d4b7e9316b73bbb180ca29ccc430563086ff787ebfea4cb88bf5a34f15d9f", func := "casemate/casematelaw02.SumParts", spec := "sumParts", apart := false, narrowed := true }
def SumPartsUptoSaid : Prop := sumPartsUptoRow.holds Try.pinned (OpenSpec.upto sumPartsSpec)

/-- 'casematelaw02.SumBurst', WHERE WHAT IT READS IS OF BULK AT MOST 1048576: true; the input reads as it did. -/
def sumBurstUptoRow : OpenClaim := { program := "ytehbecpijomhcaa", sum := "3b9d4b7e9316b73bbb180ca29ccc430563086ff787ebfea4cb88bf5a34f15d9f", func := "casemate/casematelaw02.SumBurst", spec := "sumBurst", apart := false, narrowed := true }
def SumBurstUptoSaid : Prop := sumBurstUptoRow.holds Try.pinned (OpenSpec.upto sumBurstSpec)

/-- 'casematelaw02.SumFour', WHERE WHAT IT READS IS OF BULK AT MOST 1048576: true; the input reads as it did. -/
def sumFourUptoRow : OpenClaim := { program := "ytehbecpijomhcaa", sum := "3b9d4b7e9316b73bbb180ca29ccc430563086ff787ebfea4cb88bf5a34f15d9f", func := "casemate/casematelaw02.SumFour", spec := "sumFour", apart := false, narrowed := true }
def SumFourUptoSaid : Prop := sumFourUptoRow.holds Try.pinned (OpenSpec.upto sumFourSpec)

/-- 'casematelaw02.SumMix', WHERE WHAT IT READS IS OF BULK AT MOST 1048576: true; the input reads as it did. -/
def sumMixUptoRow : OpenClaim := { program := "ytehbecpijomhcaa", sum := "3b9d4b7e9316b73bbb180ca29ccc430563086ff787ebfea4cb88bf5a34f15d9f", func := "casemate/casematelaw02.SumMix", spec := "sumMix", apart := false, narrowed := true }
def SumMixUptoSaid : Prop := sumMixUptoRow.holds Try.pinned (OpenSpec.upto sumMixSpec)

/-- 'casematelaw02.SumTables', WHERE WHAT IT READS IS OF BULK AT MOST 1048576: true; the input reads as it did. -/
def sumTablesUptoRow : OpenClaim := { program := "ytehbecpijomhcaa", sum := "3b9d4b7e9316b73bbb180ca29ccc430563086ff787ebfea4cb88bf5a34f15d9f", func := "casemate/casematelaw02.SumTables", spec := "sumTables", apart := false, narrowed := true }
def SumTablesUptoSaid : Prop := sumTablesUptoRow.holds Try.pinned (OpenSpec.upto sumTablesSpec)

/-- 'casematelaw02.SumAlone', WHERE WHAT IT READS IS OF BULK AT MOST 1048576: true; the input reads as it did. -/
def sumAloneUptoRow : OpenClaim := { program := "ytehbecpijomhcaa", sum := "3b9d4b7e9316b73bbb180ca29ccc430563086ff787ebfea4cb88bf5a34f15d9f", func := "casemate/casematelaw02.SumAlone", spec := "sumAlone", apart := false, narrowed := true }
def SumAloneUptoSaid : Prop := sumAloneUptoRow.holds Try.pinned (OpenSpec.upto sumAloneSpec)

end Rows
end Go.Proofs.Ytehbecpijomhcaa
