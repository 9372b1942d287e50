/-
  NARROWER THAN 'FOR EVERY INPUT', by the rows' own cells (each row's printed sentence says how): NewestExact: laid · NewestLeft: laid · NewestGens: laid · NewestMoved: laid.
  DERIVED. THE GIVEN ROWS OF THIS SEAT. 4 by the template 'for every input the law returns true; each argument reads behind the call as it read before'; 0 by the template 'total and deterministic' (their statements: YtdjleimndolonaaDoorTotals.lean).
  GIVEN WITH THE SEED: the statements are not yours to turn. If you find one false, say at which input.
  Laid BY PROGRAM, IN A SANDBOX (cutbox-rows.mjs): the forced cells as the released guide's own fill.sh prints them over the translation 3d18e50a36e2c052… (all of the seat's roots in one cut). By AI agents, Wed Nov 11 2026. No macro, syntax, notation, axiom, sorry.
-/
import Derived.Test.YtdjleimndolonaaDoorChecked
import GoSem.PinnedTables
import GoSem.Claim
import GoSem.ClaimJoined
import GoSem.ClaimMapViews
import Derived.JoinedTies
import Derived.KernelRfl
namespace Go.Proofs.YtdjleimndolonaaDoor
/- THE CELL 'sum', in the pinned program and in every row, IS THE sha256 OF THE DUMP (.gsa) THAT YtdjleimndolonaaDoorProg.lean LOADS. Nothing in Lean hashes anything: it is a label: what it is worth is what the hold of that sum in a sandbox is worth. -/
noncomputable def Tryd.pinned : Pinned := { name := "ytdjleimndolonaadoor", sum := "3d18e50a36e2c0522ca30ddae5c72da2f9307215fb212967012be7201d34109c", checked := Tryd.checked }
namespace Rows
def none {H : Type} : Left H := { results := [], args := [] }

/- WHAT THE LISTED PACKAGE-LEVEL VARIABLES READ AS WHEN THE CALL BEGINS. Each datum BY PROGRAM (the guide's laid-datum.mjs) off the statement by which the dump's own 'gosem.cut.vars' lays the variable. In a bare row this is a premise. The card (YtdjleimndolonaaDoorCards.lean) ties it to the program's text. -/
def laid_unicode_utf8_acceptRanges {H : Type} : DataW H := .agg [.agg [.lit (.int .u8 128), .lit (.int .u8 191)], .agg [.lit (.int .u8 160), .lit (.int .u8 191)], .agg [.lit (.int .u8 128), .lit (.int .u8 159)], .agg [.lit (.int .u8 144), .lit (.int .u8 191)], .agg [.lit (.int .u8 128), .lit (.int .u8 143)], .agg [.lit (.int .u8 0), .lit (.int .u8 0)], .agg [.lit (.int .u8 0), .lit (.int .u8 0)], .agg [.lit (.int .u8 0), .lit (.int .u8 0)], .agg [.lit (.int .u8 0), .lit (.int .u8 0)], .agg [.lit (.int .u8 0), .lit (.int .u8 0)], .agg [.lit (.int .u8 0), .lit (.int .u8 0)], .agg [.lit (.int .u8 0), .lit (.int .u8 0)], .agg [.lit (.int .u8 0), .lit (.int .u8 0)], .agg [.lit (.int .u8 0), .lit (.int .u8 0)], .agg [.lit (.int .u8 0), .lit (.int .u8 0)], .agg [.lit (.int .u8 0), .lit (.int .u8 0)]]
/-- One of Go's own tables, pinned by name: the form's constant. -/
def laid_unicode_utf8_first : DataW Unit := Go.Pinned.utf8First

/-- 'casematelaw09.NewestExact': WHATEVER THE INPUT: true; the input reads as it did. -/
def newestExactSpec : ChangeSpec := { name := "newestExact", fn := fun _ => fun
  | [d1, d2, d3, d4, d5, d6] => { results := [.lit (.bool true)], args := [d1, d2, d3, d4, d5, d6] }
  | _ => none }
def newestExactRow : OpenClaim := { program := "ytdjleimndolonaadoor", sum := "3d18e50a36e2c0522ca30ddae5c72da2f9307215fb212967012be7201d34109c", func := "casemate/casematelaw09.NewestExact", spec := "newestExact", named := ["unicode/utf8.first", "unicode/utf8.acceptRanges"], apart := false, laid := [("unicode/utf8.acceptRanges", laid_unicode_utf8_acceptRanges), ("unicode/utf8.first", laid_unicode_utf8_first)] }
def NewestExactSaid : Prop := newestExactRow.holds Tryd.pinned (OpenSpec.ofChange newestExactSpec)

/-- ITS FALSE NEIGHBOUR: 'it returns false'. Refute it at one input. -/
def newestExactWrong : ChangeSpec := { name := "newestExact", fn := fun _ => fun
  | [d1, d2, d3, d4, d5, d6] => { results := [.lit (.bool false)], args := [d1, d2, d3, d4, d5, d6] }
  | _ => none }
def NewestExactWrongFalsely : Prop := newestExactRow.holds Tryd.pinned (OpenSpec.ofChange newestExactWrong)

/-- 'casematelaw09.NewestLeft': WHATEVER THE INPUT: true; the input reads as it did. -/
def newestLeftSpec : ChangeSpec := { name := "newestLeft", fn := fun _ => fun
  | [d1, d2, d3, d4] => { results := [.lit (.bool true)], args := [d1, d2, d3, d4] }
  | _ => none }
def newestLeftRow : OpenClaim := { program := "ytdjleimndolonaadoor", sum := "3d18e50a36e2c0522ca30ddae5c72da2f9307215fb212967012be7201d34109c", func := "casemate/casematelaw09.NewestLeft", spec := "newestLeft", named := ["unicode/utf8.first", "unicode/utf8.acceptRanges"], apart := false, laid := [("unicode/utf8.acceptRanges", laid_unicode_utf8_acceptRanges), ("unicode/utf8.first", laid_unicode_utf8_first)] }
def NewestLeftSaid : Prop := newestLeftRow.holds Tryd.pinned (OpenSpec.ofChange newestLeftSpec)

/-- ITS FALSE NEIGHBOUR: 'it returns false'. Refute it at one input. -/
def newestLeftWrong : ChangeSpec := { name := "newestLeft", fn := fun _ => fun
  | [d1, d2, d3, d4] => { results := [.lit (.bool false)], args := [d1, d2, d3, d4] }
  | _ => none }
def NewestLeftWrongFalsely : Prop := newestLeftRow.holds Tryd.pinned (OpenSpec.ofChange newestLeftWrong)

/-- 'casematelaw09.NewestGens': WHATEVER THE INPUT: true; the input reads as it did. -/
def newestGensSpec : ChangeSpec := { name := "newestGens", fn := fun _ => fun
  | [d1, d2, d3, d4] => { results := [.lit (.bool true)], args := [d1, d2, d3, d4] }
  | _ => none }
def newestGensRow : OpenClaim := { program := "ytdjleimndolonaadoor", sum := "3d18e50a36e2c0522ca30ddae5c72da2f9307215fb212967012be7201d34109c", func := "casemate/casematelaw09.NewestGens", spec := "newestGens", named := ["unicode/utf8.first", "unicode/utf8.acceptRanges"], apart := false, laid := [("unicode/utf8.acceptRanges", laid_unicode_utf8_acceptRanges), ("unicode/utf8.first", laid_unicode_utf8_first)] }
def NewestGensSaid : Prop := newestGensRow.holds Tryd.pinned (OpenSpec.ofChange newestGensSpec)

/-- ITS FALSE NEIGHBOUR: 'it returns false'. Refute it at one input. -/
def newestGensWrong : ChangeSpec := { name := "newestGens", fn := fun _ => fun
  | [d1, d2, d3, d4] => { results := [.lit (.bool false)], args := [d1, d2, d3, d4] }
  | _ => none }
def NewestGensWrongFalsely : Prop := newestGensRow.holds Tryd.pinned (OpenSpec.ofChange newestGensWrong)

/-- 'casematelaw09.NewestMoved': WHATEVER THE INPUT: true; the input reads as it did. -/
def newestMovedSpec : ChangeSpec := { name := "newestMoved", fn := fun _ => fun
  | [d1, d2, d3, d4] => { results := [.lit (.bool true)], args := [d1, d2, d3, d4] }
  | _ => none }
def newestMovedRow : OpenClaim := { program := "ytdjleimndolonaadoor", sum := "3d18e50a36e2c0522ca30ddae5c72da2f9307215fb212967012be7201d34109c", func := "casemate/casematelaw09.NewestMoved", spec := "newestMoved", named := ["unicode/utf8.first", "unicode/utf8.acceptRanges"], apart := false, laid := [("unicode/utf8.acceptRanges", laid_unicode_utf8_acceptRanges), ("unicode/utf8.first", laid_unicode_utf8_first)] }
def NewestMovedSaid : Prop := newestMovedRow.holds Tryd.pinned (OpenSpec.ofChange newestMovedSpec)

/-- ITS FALSE NEIGHBOUR: 'it returns false'. Refute it at one input. -/
def newestMovedWrong : ChangeSpec := { name := "newestMoved", fn := fun _ => fun
  | [d1, d2, d3, d4] => { results := [.lit (.bool false)], args := [d1, d2, d3, d4] }
  | _ => none }
def NewestMovedWrongFalsely : Prop := newestMovedRow.holds Tryd.pinned (OpenSpec.ofChange newestMovedWrong)

/- THE SECOND FORM. 'bulk': how many values and letters a reading holds, each counted each time it is reached (what is shared counts as often as it is met; a slice's spare places count too). A statement '..UptoSaid' is the law's where the arguments, and the package variables that the reading takes, are together of bulk at most 1048576: NARROWER than '..Said'. Prove '..Said' where nothing that the law and all that it calls make is longer than what came in: it says more and counts as full. Else prove '..UptoSaid'. A law counts once. -/
mutual
def uptoBulk {H : Type} : DataW H → Nat
  | .lit (.string bytes) => bytes.length + 1
  | .lit _ => 1
  | .nil => 1
  | .ptr d => uptoBulk d + 1
  | .slice elems spare => uptoBulkAll elems + uptoBulkAll spare + 1
  | .agg parts => uptoBulkAll parts + 1
  | .iface _ d => uptoBulk d + 1
  | .map entries => uptoBulkEntries entries + 1
  | .held _ => 1
def uptoBulkAll {H : Type} : List (DataW H) → Nat
  | [] => 0
  | d :: r => uptoBulk d + uptoBulkAll r
def uptoBulkEntries {H : Type} : List (Lit × DataW H) → Nat
  | [] => 0
  | x :: r => uptoBulkEntry x + uptoBulkEntries r
def uptoBulkEntry {H : Type} : Lit × DataW H → Nat
  | (.string bytes, d) => bytes.length + uptoBulk d + 1
  | (_, d) => uptoBulk d + 1
 end
def uptoSmall : (H : Type) → List (DataW H) → Bool := fun _ ds => decide (uptoBulkAll ds ≤ 1048576)
def OpenSpec.upto (s : _root_.Go.ChangeSpec) : _root_.Go.OpenSpec := { _root_.Go.OpenSpec.ofChange s with cond := some uptoSmall }

/-- 'casematelaw09.NewestExact', WHERE WHAT IT READS IS OF BULK AT MOST 1048576: true; the input reads as it did. -/
def newestExactUptoRow : OpenClaim := { program := "ytdjleimndolonaadoor", sum := "3d18e50a36e2c0522ca30ddae5c72da2f9307215fb212967012be7201d34109c", func := "casemate/casematelaw09.NewestExact", spec := "newestExact", named := ["unicode/utf8.first", "unicode/utf8.acceptRanges"], apart := false, laid := [("unicode/utf8.acceptRanges", laid_unicode_utf8_acceptRanges), ("unicode/utf8.first", laid_unicode_utf8_first)], narrowed := true }
def NewestExactUptoSaid : Prop := newestExactUptoRow.holds Tryd.pinned (OpenSpec.upto newestExactSpec)

/-- 'casematelaw09.NewestLeft', WHERE WHAT IT READS IS OF BULK AT MOST 1048576: true; the input reads as it did. -/
def newestLeftUptoRow : OpenClaim := { program := "ytdjleimndolonaadoor", sum := "3d18e50a36e2c0522ca30ddae5c72da2f9307215fb212967012be7201d34109c", func := "casemate/casematelaw09.NewestLeft", spec := "newestLeft", named := ["unicode/utf8.first", "unicode/utf8.acceptRanges"], apart := false, laid := [("unicode/utf8.acceptRanges", laid_unicode_utf8_acceptRanges), ("unicode/utf8.first", laid_unicode_utf8_first)], narrowed := true }
def NewestLeftUptoSaid : Prop := newestLeftUptoRow.holds Tryd.pinned (OpenSpec.upto newestLeftSpec)

/-- 'casematelaw09.NewestGens', WHERE WHAT IT READS IS OF BULK AT MOST 1048576: true; the input reads as it did. -/
def newestGensUptoRow : OpenClaim := { program := "ytdjleimndolonaadoor", sum := "3d18e50a36e2c0522ca30ddae5c72da2f9307215fb212967012be7201d34109c", func := "casemate/casematelaw09.NewestGens", spec := "newestGens", named := ["unicode/utf8.first", "unicode/utf8.acceptRanges"], apart := false, laid := [("unicode/utf8.acceptRanges", laid_unicode_utf8_acceptRanges), ("unicode/utf8.first", laid_unicode_utf8_first)], narrowed := true }
def NewestGensUptoSaid : Prop := newestGensUptoRow.holds Tryd.pinned (OpenSpec.upto newestGensSpec)

/-- 'casematelaw09.NewestMoved', WHERE WHAT IT READS IS OF BULK AT MOST 1048576: true; the input reads as it did. -/
def newestMovedUptoRow : OpenClaim := { program := "ytdjleimndolonaadoor", sum := "3d18e50a36e2c0522ca30ddae5c72da2f9307215fb212967012be7201d34109c", func := "casemate/casematelaw09.NewestMoved", spec := "newestMoved", named := ["unicode/utf8.first", "unicode/utf8.acceptRanges"], apart := false, laid := [("unicode/utf8.acceptRanges", laid_unicode_utf8_acceptRanges), ("unicode/utf8.first", laid_unicode_utf8_first)], narrowed := true }
def NewestMovedUptoSaid : Prop := newestMovedUptoRow.holds Tryd.pinned (OpenSpec.upto newestMovedSpec)

end Rows
end Go.Proofs.YtdjleimndolonaaDoor
