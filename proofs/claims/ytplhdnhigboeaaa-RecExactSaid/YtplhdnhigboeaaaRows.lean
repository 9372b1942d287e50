/-
  No cell of these rows narrows 'for every input' (looked for: loops, veiled, ifaces, maps, wideKeys, modest, calm, conditions, laid).
  DERIVED. THE GIVEN ROWS OF THIS SEAT. 6 by the template 'for every input the law returns true; each argument reads behind the call as it read before'; 0 by the template 'total and deterministic' (their statements: YtplhdnhigboeaaaTotals.lean).
  GIVEN WITH THE SEED: the statements are not yours to turn. If you find one false, say at which input.
  Laid BY PROGRAM, IN A SANDBOX (cutbox-rows.mjs): the forced cells as the released guide's own fill.sh prints them over the translation fc8338e7e4622175… (all of the seat's roots in one cut). By AI agents, Wed Nov 11 2026. No macro, syntax, notation, axiom, sorry.
-/
import Derived.Test.YtplhdnhigboeaaaChecked
import GoSem.Claim
import GoSem.ClaimJoined
import GoSem.ClaimMapViews
import Derived.JoinedTies
import Derived.KernelRfl
namespace Go.Proofs.Ytplhdnhigboeaaa
/- THE CELL 'sum', in the pinned program and in every row, IS THE sha256 OF THE DUMP (.gsa) THAT YtplhdnhigboeaaaProg.lean LOADS. Nothing in Lean hashes anything: it is a label: what it is worth is what the hold of that sum in a sandbox is worth. -/
noncomputable def Try.pinned : Pinned := { name := "ytplhdnhigboeaaa", sum := "fc8338e7e46221751b6c15af4988b97cee4fb3ff30905ef525d7d931da04d90f", checked := Try.checked }
namespace Rows
def none {H : Type} : Left H := { results := [], args := [] }

/-- 'casematelaw15.RecExact': WHATEVER THE INPUT: true; the input reads as it did. -/
def recExactSpec : ChangeSpec := { name := "recExact", fn := fun _ => fun
  | [d1, d2, d3, d4, d5, d6, d7, d8] => { results := [.lit (.bool true)], args := [d1, d2, d3, d4, d5, d6, d7, d8] }
  | _ => none }
def recExactRow : OpenClaim := { program := "ytplhdnhigboeaaa", sum := "fc8338e7e46221751b6c15af4988b97cee4fb3ff30905ef525d7d931da04d90f", func := "casemate/casematelaw15.RecExact", spec := "recExact", unfollowed := true, recurses := true, apart := false }
def RecExactSaid : Prop := recExactRow.holds Try.pinned (OpenSpec.ofChange recExactSpec)

/-- ITS FALSE NEIGHBOUR: 'it returns false'. Refute it at one input. -/
def recExactWrong : ChangeSpec := { name := "recExact", fn := fun _ => fun
  | [d1, d2, d3, d4, d5, d6, d7, d8] => { results := [.lit (.bool false)], args := [d1, d2, d3, d4, d5, d6, d7, d8] }
  | _ => none }
def RecExactWrongFalsely : Prop := recExactRow.holds Try.pinned (OpenSpec.ofChange recExactWrong)

/-- 'casematelaw15.RecBack': WHATEVER THE INPUT: true; the input reads as it did. -/
def recBackSpec : ChangeSpec := { name := "recBack", fn := fun _ => fun
  | [d1, d2, d3, d4] => { results := [.lit (.bool true)], args := [d1, d2, d3, d4] }
  | _ => none }
def recBackRow : OpenClaim := { program := "ytplhdnhigboeaaa", sum := "fc8338e7e46221751b6c15af4988b97cee4fb3ff30905ef525d7d931da04d90f", func := "casemate/casematelaw15.RecBack", spec := "recBack", unfollowed := true, recurses := true, apart := false }
def RecBackSaid : Prop := recBackRow.holds Try.pinned (OpenSpec.ofChange recBackSpec)

/-- ITS FALSE NEIGHBOUR: 'it returns false'. Refute it at one input. -/
def recBackWrong : ChangeSpec := { name := "recBack", fn := fun _ => fun
  | [d1, d2, d3, d4] => { results := [.lit (.bool false)], args := [d1, d2, d3, d4] }
  | _ => none }
def RecBackWrongFalsely : Prop := recBackRow.holds Try.pinned (OpenSpec.ofChange recBackWrong)

/-- 'casematelaw15.RecTxns': WHATEVER THE INPUT: true; the input reads as it did. -/
def recTxnsSpec : ChangeSpec := { name := "recTxns", fn := fun _ => fun
  | [d1, d2, d3, d4] => { results := [.lit (.bool true)], args := [d1, d2, d3, d4] }
  | _ => none }
def recTxnsRow : OpenClaim := { program := "ytplhdnhigboeaaa", sum := "fc8338e7e46221751b6c15af4988b97cee4fb3ff30905ef525d7d931da04d90f", func := "casemate/casematelaw15.RecTxns", spec := "recTxns", unfollowed := true, recurses := true, apart := false }
def RecTxnsSaid : Prop := recTxnsRow.holds Try.pinned (OpenSpec.ofChange recTxnsSpec)

/-- ITS FALSE NEIGHBOUR: 'it returns false'. Refute it at one input. -/
def recTxnsWrong : ChangeSpec := { name := "recTxns", fn := fun _ => fun
  | [d1, d2, d3, d4] => { results := [.lit (.bool false)], args := [d1, d2, d3, d4] }
  | _ => none }
def RecTxnsWrongFalsely : Prop := recTxnsRow.holds Try.pinned (OpenSpec.ofChange recTxnsWrong)

/-- 'casematelaw15.RecCells': WHATEVER THE INPUT: true; the input reads as it did. -/
def recCellsSpec : ChangeSpec := { name := "recCells", fn := fun _ => fun
  | [d1, d2, d3] => { results := [.lit (.bool true)], args := [d1, d2, d3] }
  | _ => none }
def recCellsRow : OpenClaim := { program := "ytplhdnhigboeaaa", sum := "fc8338e7e46221751b6c15af4988b97cee4fb3ff30905ef525d7d931da04d90f", func := "casemate/casematelaw15.RecCells", spec := "recCells", unfollowed := true, recurses := true, apart := false }
def RecCellsSaid : Prop := recCellsRow.holds Try.pinned (OpenSpec.ofChange recCellsSpec)

/-- ITS FALSE NEIGHBOUR: 'it returns false'. Refute it at one input. -/
def recCellsWrong : ChangeSpec := { name := "recCells", fn := fun _ => fun
  | [d1, d2, d3] => { results := [.lit (.bool false)], args := [d1, d2, d3] }
  | _ => none }
def RecCellsWrongFalsely : Prop := recCellsRow.holds Try.pinned (OpenSpec.ofChange recCellsWrong)

/-- 'casematelaw15.RecBent': WHATEVER THE INPUT: true; the input reads as it did. -/
def recBentSpec : ChangeSpec := { name := "recBent", fn := fun _ => fun
  | [d1, d2, d3] => { results := [.lit (.bool true)], args := [d1, d2, d3] }
  | _ => none }
def recBentRow : OpenClaim := { program := "ytplhdnhigboeaaa", sum := "fc8338e7e46221751b6c15af4988b97cee4fb3ff30905ef525d7d931da04d90f", func := "casemate/casematelaw15.RecBent", spec := "recBent", unfollowed := true, recurses := true, apart := false }
def RecBentSaid : Prop := recBentRow.holds Try.pinned (OpenSpec.ofChange recBentSpec)

/-- ITS FALSE NEIGHBOUR: 'it returns false'. Refute it at one input. -/
def recBentWrong : ChangeSpec := { name := "recBent", fn := fun _ => fun
  | [d1, d2, d3] => { results := [.lit (.bool false)], args := [d1, d2, d3] }
  | _ => none }
def RecBentWrongFalsely : Prop := recBentRow.holds Try.pinned (OpenSpec.ofChange recBentWrong)

/-- 'casematelaw15.RecBlanks': WHATEVER THE INPUT: true; the input reads as it did. -/
def recBlanksSpec : ChangeSpec := { name := "recBlanks", fn := fun _ => fun
  | [d1, d2, d3] => { results := [.lit (.bool true)], args := [d1, d2, d3] }
  | _ => none }
def recBlanksRow : OpenClaim := { program := "ytplhdnhigboeaaa", sum := "fc8338e7e46221751b6c15af4988b97cee4fb3ff30905ef525d7d931da04d90f", func := "casemate/casematelaw15.RecBlanks", spec := "recBlanks", unfollowed := true, recurses := true, apart := false }
def RecBlanksSaid : Prop := recBlanksRow.holds Try.pinned (OpenSpec.ofChange recBlanksSpec)

/-- ITS FALSE NEIGHBOUR: 'it returns false'. Refute it at one input. -/
def recBlanksWrong : ChangeSpec := { name := "recBlanks", fn := fun _ => fun
  | [d1, d2, d3] => { results := [.lit (.bool false)], args := [d1, d2, d3] }
  | _ => none }
def RecBlanksWrongFalsely : Prop := recBlanksRow.holds Try.pinned (OpenSpec.ofChange recBlanksWrong)

/- THE SECOND FORM. 'bulk': how many values and letters a reading holds, each counted each time it is reached (what is shared counts as often as it is met; a slice's spare places count too). A statement '..UptoSaid' is the law's where the arguments, and the package variables that the reading takes, are together of bulk at most 1048576: NARROWER than '..Said'. Prove '..Said' where nothing that the law and all that it calls make is longer than what came in: it says more and counts as full. Else prove '..UptoSaid'. A law counts once. -/
mutual
def uptoBulk {H : Type} : DataW H → Nat
  | .lit (.string bytes) => bytes.length + 1
  | .lit _ => 1
  | .nil => 1
  | .ptr d => uptoBulk d + 1
  | .slice elems spare => uptoBulkAll elems + uptoBulkAll spare + 1
  | .agg parts => uptoBulkAll parts + 1
  | .iface _ d => uptoBulk d + 1
  | .map entries => uptoBulkEntries entries + 1
  | .held _ => 1
def uptoBulkAll {H : Type} : List (DataW H) → Nat
  | [] => 0
  | d :: r => uptoBulk d + uptoBulkAll r
def uptoBulkEntries {H : Type} : List (Lit × DataW H) → Nat
  | [] => 0
  | x :: r => uptoBulkEntry x + uptoBulkEntries r
def uptoBulkEntry {H : Type} : Lit × DataW H → Nat
  | (.string bytes, d) => bytes.length + uptoBulk d + 1
  | (_, d) => uptoBulk d + 1
 end
def uptoSmall : (H : Type) → List (DataW H) → Bool := fun _ ds => decide (uptoBulkAll ds ≤ 1048576)
def OpenSpec.upto (s : _root_.Go.ChangeSpec) : _root_.Go.OpenSpec := { _root_.Go.OpenSpec.ofChange s with cond := some uptoSmall }

/-- 'casematelaw15.RecExact', WHERE WHAT IT READS IS OF BULK AT MOST 1048576: true; the input reads as it did. -/
def recExactUptoRow : OpenClaim := { program := "ytplhdnhigboeaaa", sum := "fc8338e7e46221751b6c15af4988b97cee4fb3ff30905ef525d7d931da04d90f", func := "casemate/casematelaw15.RecExact", spec := "recExact", unfollowed := true, recurses := true, apart := false, narrowed := true }
def RecExactUptoSaid : Prop := recExactUptoRow.holds Try.pinned (OpenSpec.upto recExactSpec)

/-- 'casematelaw15.RecBack', WHERE WHAT IT READS IS OF BULK AT MOST 1048576: true; the input reads as it did. -/
def recBackUptoRow : OpenClaim := { program := "ytplhdnhigboeaaa", sum := "fc8338e7e46221751b6c15af4988b97cee4fb3ff30905ef525d7d931da04d90f", func := "casemate/casematelaw15.RecBack", spec := "recBack", unfollowed := true, recurses := true, apart := false, narrowed := true }
def RecBackUptoSaid : Prop := recBackUptoRow.holds Try.pinned (OpenSpec.upto recBackSpec)

/-- 'casematelaw15.RecTxns', WHERE WHAT IT READS IS OF BULK AT MOST 1048576: true; the input reads as it did. -/
def recTxnsUptoRow : OpenClaim := { program := "ytplhdnhigboeaaa", sum := "fc8338e7e46221751b6c15af4988b97cee4fb3ff30905ef525d7d931da04d90f", func := "casemate/casematelaw15.RecTxns", spec := "recTxns", unfollowed := true, recurses := true, apart := false, narrowed := true }
def RecTxnsUptoSaid : Prop := recTxnsUptoRow.holds Try.pinned (OpenSpec.upto recTxnsSpec)

/-- 'casematelaw15.RecCells', WHERE WHAT IT READS IS OF BULK AT MOST 1048576: true; the input reads as it did. -/
def recCellsUptoRow : OpenClaim := { program := "ytplhdnhigboeaaa", sum := "fc8338e7e46221751b6c15af4988b97cee4fb3ff30905ef525d7d931da04d90f", func := "casemate/casematelaw15.RecCells", spec := "recCells", unfollowed := true, recurses := true, apart := false, narrowed := true }
def RecCellsUptoSaid : Prop := recCellsUptoRow.holds Try.pinned (OpenSpec.upto recCellsSpec)

/-- 'casematelaw15.RecBent', WHERE WHAT IT READS IS OF BULK AT MOST 1048576: true; the input reads as it did. -/
def recBentUptoRow : OpenClaim := { program := "ytplhdnhigboeaaa", sum := "fc8338e7e46221751b6c15af4988b97cee4fb3ff30905ef525d7d931da04d90f", func := "casemate/casematelaw15.RecBent", spec := "recBent", unfollowed := true, recurses := true, apart := false, narrowed := true }
def RecBentUptoSaid : Prop := recBentUptoRow.holds Try.pinned (OpenSpec.upto recBentSpec)

/-- 'casematelaw15.RecBlanks', WHERE WHAT IT READS IS OF BULK AT MOST 1048576: true; the input reads as it did. -/
def recBlanksUptoRow : OpenClaim := { program := "ytplhdnhigboeaaa", sum := "fc8338e7e46221751b6c15af4988b97cee4fb3ff30905ef525d7d931da04d90f", func := "casemate/casematelaw15.RecBlanks", spec := "recBlanks", unfollowed := true, recurses := true, apart := false, narrowed := true }
def RecBlanksUptoSaid : Prop := recBlanksUptoRow.holds Try.pinned (OpenSpec.upto recBlanksSpec)

end Rows
end Go.Proofs.Ytplhdnhigboeaaa
