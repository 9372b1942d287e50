/-
  NARROWER THAN 'FOR EVERY INPUT', by the rows' own cells (each row's printed sentence says how): AnchorExact: laid · AnchorBack: laid · AnchorFirst: laid · AnchorBent: laid · AnchorSizes: laid · AnchorOthers: laid.
  DERIVED. THE GIVEN ROWS OF THIS SEAT. 6 by the template 'for every input the law returns true; each argument reads behind the call as it read before'; 0 by the template 'total and deterministic' (their statements: YtkpbfhjpmhgmoaaDoorTotals.lean).
  GIVEN WITH THE SEED: the statements are not yours to turn. If you find one false, say at which input.
  Laid BY PROGRAM, IN A SANDBOX (cutbox-rows.mjs): the forced cells as the released guide's own fill.sh prints them over the translation 8106cc9dab005a30… (all of the seat's roots in one cut). By AI agents, Wed Nov 11 2026. No macro, syntax, notation, axiom, sorry.
-/
import Derived.Test.YtkpbfhjpmhgmoaaDoorChecked
import GoSem.PinnedTables
import GoSem.Claim
import GoSem.ClaimJoined
import GoSem.ClaimMapViews
import Derived.JoinedTies
import Derived.KernelRfl
namespace Go.Proofs.YtkpbfhjpmhgmoaaDoor
/- THE CELL 'sum', in the pinned program and in every row, IS THE sha256 OF THE DUMP (.gsa) THAT YtkpbfhjpmhgmoaaDoorProg.lean LOADS. Nothing in Lean hashes anything: it is a label: what it is worth is what the hold of that sum in a sandbox is worth. -/
noncomputable def Tryd.pinned : Pinned := { name := "ytkpbfhjpmhgmoaadoor", sum := "8106cc9dab005a30627194471e226eedba5250222208f60d57d2efc7fe536a5d", checked := Tryd.checked }
namespace Rows
def none {H : Type} : Left H := { results := [], args := [] }

/- WHAT THE LISTED PACKAGE-LEVEL VARIABLES READ AS WHEN THE CALL BEGINS. Each datum BY PROGRAM (the guide's laid-datum.mjs) off the statement by which the dump's own 'gosem.cut.vars' lays the variable. In a bare row this is a premise. The card (YtkpbfhjpmhgmoaaDoorCards.lean) ties it to the program's text. -/
def laid_unicode_utf8_acceptRanges {H : Type} : DataW H := .agg [.agg [.lit (.int .u8 128), .lit (.int .u8 191)], .agg [.lit (.int .u8 160), .lit (.int .u8 191)], .agg [.lit (.int .u8 128), .lit (.int .u8 159)], .agg [.lit (.int .u8 144), .lit (.int .u8 191)], .agg [.lit (.int .u8 128), .lit (.int .u8 143)], .agg [.lit (.int .u8 0), .lit (.int .u8 0)], .agg [.lit (.int .u8 0), .lit (.int .u8 0)], .agg [.lit (.int .u8 0), .lit (.int .u8 0)], .agg [.lit (.int .u8 0), .lit (.int .u8 0)], .agg [.lit (.int .u8 0), .lit (.int .u8 0)], .agg [.lit (.int .u8 0), .lit (.int .u8 0)], .agg [.lit (.int .u8 0), .lit (.int .u8 0)], .agg [.lit (.int .u8 0), .lit (.int .u8 0)], .agg [.lit (.int .u8 0), .lit (.int .u8 0)], .agg [.lit (.int .u8 0), .lit (.int .u8 0)], .agg [.lit (.int .u8 0), .lit (.int .u8 0)]]
/-- One of Go's own tables, pinned by name: the form's constant. -/
def laid_unicode_utf8_first : DataW Unit := Go.Pinned.utf8First

/-- 'casematelaw08.AnchorExact': WHATEVER THE INPUT: true; the input reads as it did. -/
def anchorExactSpec : ChangeSpec := { name := "anchorExact", fn := fun _ => fun
  | [d1, d2, d3, d4] => { results := [.lit (.bool true)], args := [d1, d2, d3, d4] }
  | _ => none }
def anchorExactRow : OpenClaim := { program := "ytkpbfhjpmhgmoaadoor", sum := "8106cc9dab005a30627194471e226eedba5250222208f60d57d2efc7fe536a5d", func := "casemate/casematelaw08.AnchorExact", spec := "anchorExact", named := ["unicode/utf8.first", "unicode/utf8.acceptRanges"], apart := false, laid := [("unicode/utf8.acceptRanges", laid_unicode_utf8_acceptRanges), ("unicode/utf8.first", laid_unicode_utf8_first)] }
def AnchorExactSaid : Prop := anchorExactRow.holds Tryd.pinned (OpenSpec.ofChange anchorExactSpec)

/-- ITS FALSE NEIGHBOUR: 'it returns false'. Refute it at one input. -/
def anchorExactWrong : ChangeSpec := { name := "anchorExact", fn := fun _ => fun
  | [d1, d2, d3, d4] => { results := [.lit (.bool false)], args := [d1, d2, d3, d4] }
  | _ => none }
def AnchorExactWrongFalsely : Prop := anchorExactRow.holds Tryd.pinned (OpenSpec.ofChange anchorExactWrong)

/-- 'casematelaw08.AnchorBack': WHATEVER THE INPUT: true; the input reads as it did. -/
def anchorBackSpec : ChangeSpec := { name := "anchorBack", fn := fun _ => fun
  | [d1, d2, d3, d4] => { results := [.lit (.bool true)], args := [d1, d2, d3, d4] }
  | _ => none }
def anchorBackRow : OpenClaim := { program := "ytkpbfhjpmhgmoaadoor", sum := "8106cc9dab005a30627194471e226eedba5250222208f60d57d2efc7fe536a5d", func := "casemate/casematelaw08.AnchorBack", spec := "anchorBack", named := ["unicode/utf8.first", "unicode/utf8.acceptRanges"], apart := false, laid := [("unicode/utf8.acceptRanges", laid_unicode_utf8_acceptRanges), ("unicode/utf8.first", laid_unicode_utf8_first)] }
def AnchorBackSaid : Prop := anchorBackRow.holds Tryd.pinned (OpenSpec.ofChange anchorBackSpec)

/-- ITS FALSE NEIGHBOUR: 'it returns false'. Refute it at one input. -/
def anchorBackWrong : ChangeSpec := { name := "anchorBack", fn := fun _ => fun
  | [d1, d2, d3, d4] => { results := [.lit (.bool false)], args := [d1, d2, d3, d4] }
  | _ => none }
def AnchorBackWrongFalsely : Prop := anchorBackRow.holds Tryd.pinned (OpenSpec.ofChange anchorBackWrong)

/-- 'casematelaw08.AnchorFirst': WHATEVER THE INPUT: true; the input reads as it did. -/
def anchorFirstSpec : ChangeSpec := { name := "anchorFirst", fn := fun _ => fun
  | [d1, d2, d3, d4, d5, d6] => { results := [.lit (.bool true)], args := [d1, d2, d3, d4, d5, d6] }
  | _ => none }
def anchorFirstRow : OpenClaim := { program := "ytkpbfhjpmhgmoaadoor", sum := "8106cc9dab005a30627194471e226eedba5250222208f60d57d2efc7fe536a5d", func := "casemate/casematelaw08.AnchorFirst", spec := "anchorFirst", named := ["unicode/utf8.first", "unicode/utf8.acceptRanges"], apart := false, laid := [("unicode/utf8.acceptRanges", laid_unicode_utf8_acceptRanges), ("unicode/utf8.first", laid_unicode_utf8_first)] }
def AnchorFirstSaid : Prop := anchorFirstRow.holds Tryd.pinned (OpenSpec.ofChange anchorFirstSpec)

/-- ITS FALSE NEIGHBOUR: 'it returns false'. Refute it at one input. -/
def anchorFirstWrong : ChangeSpec := { name := "anchorFirst", fn := fun _ => fun
  | [d1, d2, d3, d4, d5, d6] => { results := [.lit (.bool false)], args := [d1, d2, d3, d4, d5, d6] }
  | _ => none }
def AnchorFirstWrongFalsely : Prop := anchorFirstRow.holds Tryd.pinned (OpenSpec.ofChange anchorFirstWrong)

/-- 'casematelaw08.AnchorBent': WHATEVER THE INPUT: true; the input reads as it did. -/
def anchorBentSpec : ChangeSpec := { name := "anchorBent", fn := fun _ => fun
  | [d1, d2, d3, d4] => { results := [.lit (.bool true)], args := [d1, d2, d3, d4] }
  | _ => none }
def anchorBentRow : OpenClaim := { program := "ytkpbfhjpmhgmoaadoor", sum := "8106cc9dab005a30627194471e226eedba5250222208f60d57d2efc7fe536a5d", func := "casemate/casematelaw08.AnchorBent", spec := "anchorBent", named := ["unicode/utf8.first", "unicode/utf8.acceptRanges"], apart := false, laid := [("unicode/utf8.acceptRanges", laid_unicode_utf8_acceptRanges), ("unicode/utf8.first", laid_unicode_utf8_first)] }
def AnchorBentSaid : Prop := anchorBentRow.holds Tryd.pinned (OpenSpec.ofChange anchorBentSpec)

/-- ITS FALSE NEIGHBOUR: 'it returns false'. Refute it at one input. -/
def anchorBentWrong : ChangeSpec := { name := "anchorBent", fn := fun _ => fun
  | [d1, d2, d3, d4] => { results := [.lit (.bool false)], args := [d1, d2, d3, d4] }
  | _ => none }
def AnchorBentWrongFalsely : Prop := anchorBentRow.holds Tryd.pinned (OpenSpec.ofChange anchorBentWrong)

/-- 'casematelaw08.AnchorSizes': WHATEVER THE INPUT: true; the input reads as it did. -/
def anchorSizesSpec : ChangeSpec := { name := "anchorSizes", fn := fun _ => fun
  | [d1, d2] => { results := [.lit (.bool true)], args := [d1, d2] }
  | _ => none }
def anchorSizesRow : OpenClaim := { program := "ytkpbfhjpmhgmoaadoor", sum := "8106cc9dab005a30627194471e226eedba5250222208f60d57d2efc7fe536a5d", func := "casemate/casematelaw08.AnchorSizes", spec := "anchorSizes", named := ["unicode/utf8.first", "unicode/utf8.acceptRanges"], apart := false, laid := [("unicode/utf8.acceptRanges", laid_unicode_utf8_acceptRanges), ("unicode/utf8.first", laid_unicode_utf8_first)] }
def AnchorSizesSaid : Prop := anchorSizesRow.holds Tryd.pinned (OpenSpec.ofChange anchorSizesSpec)

/-- ITS FALSE NEIGHBOUR: 'it returns false'. Refute it at one input. -/
def anchorSizesWrong : ChangeSpec := { name := "anchorSizes", fn := fun _ => fun
  | [d1, d2] => { results := [.lit (.bool false)], args := [d1, d2] }
  | _ => none }
def AnchorSizesWrongFalsely : Prop := anchorSizesRow.holds Tryd.pinned (OpenSpec.ofChange anchorSizesWrong)

/-- 'casematelaw08.AnchorOthers': WHATEVER THE INPUT: true; the input reads as it did. -/
def anchorOthersSpec : ChangeSpec := { name := "anchorOthers", fn := fun _ => fun
  | [d1, d2, d3] => { results := [.lit (.bool true)], args := [d1, d2, d3] }
  | _ => none }
def anchorOthersRow : OpenClaim := { program := "ytkpbfhjpmhgmoaadoor", sum := "8106cc9dab005a30627194471e226eedba5250222208f60d57d2efc7fe536a5d", func := "casemate/casematelaw08.AnchorOthers", spec := "anchorOthers", named := ["unicode/utf8.first", "unicode/utf8.acceptRanges"], apart := false, laid := [("unicode/utf8.acceptRanges", laid_unicode_utf8_acceptRanges), ("unicode/utf8.first", laid_unicode_utf8_first)] }
def AnchorOthersSaid : Prop := anchorOthersRow.holds Tryd.pinned (OpenSpec.ofChange anchorOthersSpec)

/-- ITS FALSE NEIGHBOUR: 'it returns false'. Refute it at one input. -/
def anchorOthersWrong : ChangeSpec := { name := "anchorOthers", fn := fun _ => fun
  | [d1, d2, d3] => { results := [.lit (.bool false)], args := [d1, d2, d3] }
  | _ => none }
def AnchorOthersWrongFalsely : Prop := anchorOthersRow.holds Tryd.pinned (OpenSpec.ofChange anchorOthersWrong)

/- THE SECOND FORM. 'bulk': how many values and letters a reading holds, each counted each time it is reached (what is shared counts as often as it is met; a slice's spare places count too). A statement '..UptoSaid' is the law's where the arguments, and the package variables that the reading takes, are together of bulk at most 1048576: NARROWER than '..Said'. Prove '..Said' where nothing that the law and all that it calls make is longer than what came in: it says more and counts as full. Else prove '..UptoSaid'. A law counts once. -/
mutual
def uptoBulk {H : Type} : DataW H → Nat
  | .lit (.string bytes) => bytes.length + 1
  | .lit _ => 1
  | .nil => 1
  | .ptr d => uptoBulk d + 1
  | .slice elems spare => uptoBulkAll elems + uptoBulkAll spare + 1
  | .agg parts => uptoBulkAll parts + 1
  | .iface _ d => uptoBulk d + 1
  | .map entries => uptoBulkEntries entries + 1
  | .held _ => 1
def uptoBulkAll {H : Type} : List (DataW H) → Nat
  | [] => 0
  | d :: r => uptoBulk d + uptoBulkAll r
def uptoBulkEntries {H : Type} : List (Lit × DataW H) → Nat
  | [] => 0
  | x :: r => uptoBulkEntry x + uptoBulkEntries r
def uptoBulkEntry {H : Type} : Lit × DataW H → Nat
  | (.string bytes, d) => bytes.length + uptoBulk d + 1
  | (_, d) => uptoBulk d + 1
 end
def uptoSmall : (H : Type) → List (DataW H) → Bool := fun _ ds => decide (uptoBulkAll ds ≤ 1048576)
def OpenSpec.upto (s : _root_.Go.ChangeSpec) : _root_.Go.OpenSpec := { _root_.Go.OpenSpec.ofChange s with cond := some uptoSmall }

/-- 'casematelaw08.AnchorExact', WHERE WHAT IT READS IS OF BULK AT MOST 1048576: true; the input reads as it did. -/
def anchorExactUptoRow : OpenClaim := { program := "ytkpbfhjpmhgmoaadoor", sum := "8106cc9dab005a30627194471e226eedba5250222208f60d57d2efc7fe536a5d", func := "casemate/casematelaw08.AnchorExact", spec := "anchorExact", named := ["unicode/utf8.first", "unicode/utf8.acceptRanges"], apart := false, laid := [("unicode/utf8.acceptRanges", laid_unicode_utf8_acceptRanges), ("unicode/utf8.first", laid_unicode_utf8_first)], narrowed := true }
def AnchorExactUptoSaid : Prop := anchorExactUptoRow.holds Tryd.pinned (OpenSpec.upto anchorExactSpec)

/-- 'casematelaw08.AnchorBack', WHERE WHAT IT READS IS OF BULK AT MOST 1048576: true; the input reads as it did. -/
def anchorBackUptoRow : OpenClaim := { program := "ytkpbfhjpmhgmoaadoor", sum := "8106cc9dab005a30627194471e226eedba5250222208f60d57d2efc7fe536a5d", func := "casemate/casematelaw08.AnchorBack", spec := "anchorBack", named := ["unicode/utf8.first", "unicode/utf8.acceptRanges"], apart := false, laid := [("unicode/utf8.acceptRanges", laid_unicode_utf8_acceptRanges), ("unicode/utf8.first", laid_unicode_utf8_first)], narrowed := true }
def AnchorBackUptoSaid : Prop := anchorBackUptoRow.holds Tryd.pinned (OpenSpec.upto anchorBackSpec)

/-- 'casematelaw08.AnchorFirst', WHERE WHAT IT READS IS OF BULK AT MOST 1048576: true; the input reads as it did. -/
def anchorFirstUptoRow : OpenClaim := { program := "ytkpbfhjpmhgmoaadoor", sum := "8106cc9dab005a30627194471e226eedba5250222208f60d57d2efc7fe536a5d", func := "casemate/casematelaw08.AnchorFirst", spec := "anchorFirst", named := ["unicode/utf8.first", "unicode/utf8.acceptRanges"], apart := false, laid := [("unicode/utf8.acceptRanges", laid_unicode_utf8_acceptRanges), ("unicode/utf8.first", laid_unicode_utf8_first)], narrowed := true }
def AnchorFirstUptoSaid : Prop := anchorFirstUptoRow.holds Tryd.pinned (OpenSpec.upto anchorFirstSpec)

/-- 'casematelaw08.AnchorBent', WHERE WHAT IT READS IS OF BULK AT MOST 1048576: true; the input reads as it did. -/
def anchorBentUptoRow : OpenClaim := { program := "ytkpbfhjpmhgmoaadoor", sum := "8106cc9dab005a30627194471e226eedba5250222208f60d57d2efc7fe536a5d", func := "casemate/casematelaw08.AnchorBent", spec := "anchorBent", named := ["unicode/utf8.first", "unicode/utf8.acceptRanges"], apart := false, laid := [("unicode/utf8.acceptRanges", laid_unicode_utf8_acceptRanges), ("unicode/utf8.first", laid_unicode_utf8_first)], narrowed := true }
def AnchorBentUptoSaid : Prop := anchorBentUptoRow.holds Tryd.pinned (OpenSpec.upto anchorBentSpec)

/-- 'casematelaw08.AnchorSizes', WHERE WHAT IT READS IS OF BULK AT MOST 1048576: true; the input reads as it did. -/
def anchorSizesUptoRow : OpenClaim := { program := "ytkpbfhjpmhgmoaadoor", sum := "8106cc9dab005a30627194471e226eedba5250222208f60d57d2efc7fe536a5d", func := "casemate/casematelaw08.AnchorSizes", spec := "anchorSizes", named := ["unicode/utf8.first", "unicode/utf8.acceptRanges"], apart := false, laid := [("unicode/utf8.acceptRanges", laid_unicode_utf8_acceptRanges), ("unicode/utf8.first", laid_unicode_utf8_first)], narrowed := true }
def AnchorSizesUptoSaid : Prop := anchorSizesUptoRow.holds Tryd.pinned (OpenSpec.upto anchorSizesSpec)

/-- 'casematelaw08.AnchorOthers', WHERE WHAT IT READS IS OF BULK AT MOST 1048576: true; the input reads as it did. -/
def anchorOthersUptoRow : OpenClaim := { program := "ytkpbfhjpmhgmoaadoor", sum := "8106cc9dab005a30627194471e226eedba5250222208f60d57d2efc7fe536a5d", func := "casemate/casematelaw08.AnchorOthers", spec := "anchorOthers", named := ["unicode/utf8.first", "unicode/utf8.acceptRanges"], apart := false, laid := [("unicode/utf8.acceptRanges", laid_unicode_utf8_acceptRanges), ("unicode/utf8.first", laid_unicode_utf8_first)], narrowed := true }
def AnchorOthersUptoSaid : Prop := anchorOthersUptoRow.holds Tryd.pinned (OpenSpec.upto anchorOthersSpec)

end Rows
end Go.Proofs.YtkpbfhjpmhgmoaaDoor
