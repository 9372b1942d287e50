/-
  NARROWER THAN 'FOR EVERY INPUT', by the rows' own cells (each row's printed sentence says how): ScanExact: laid · ScanFinds: laid · ScanCut: laid · ScanHoles: laid · ScanMended: laid · ScanRight: laid · ScanElder: laid.
  DERIVED. THE GIVEN ROWS OF THIS SEAT. 7 by the template 'for every input the law returns true; each argument reads behind the call as it read before'; 0 by the template 'total and deterministic' (their statements: YtbfdpibjicjagaaGreatDoorTotals.lean).
  GIVEN WITH THE SEED: the statements are not yours to turn. If you find one false, say at which input.
  Laid BY PROGRAM, IN A SANDBOX (cutbox-rows.mjs): the forced cells as the released guide's own fill.sh prints them over the translation 2f11d7b80512ce36… (all of the seat's roots in one cut). By AI agents, Wed Nov 11 2026. No macro, syntax, notation, axiom, sorry.
-/
import Derived.Test.YtbfdpibjicjagaaGreatDoorChecked
import GoSem.PinnedTables
import GoSem.Claim
import GoSem.ClaimJoined
import GoSem.ClaimMapViews
import Derived.JoinedTies
import Derived.KernelRfl
namespace Go.Proofs.YtbfdpibjicjagaaGreatDoor
/- THE CELL 'sum', in the pinned program and in every row, IS THE sha256 OF THE DUMP (.gsa) THAT YtbfdpibjicjagaaGreatDoorProg.lean LOADS. Nothing in Lean hashes anything: it is a label: what it is worth is what the hold of that sum in a sandbox is worth. -/
noncomputable def Tryz.pinned : Pinned := { name := "ytbfdpibjicjagaagreatdoor", sum := "2f11d7b80512ce3649b34e923b4ece63a80ede0a0b919bc2286a5a92220beabb", checked := Tryz.checked }
namespace Rows
def none {H : Type} : Left H := { results := [], args := [] }

/- WHAT THE LISTED PACKAGE-LEVEL VARIABLES READ AS WHEN THE CALL BEGINS. Each datum BY PROGRAM (the guide's laid-datum.mjs) off the statement by which the dump's own 'gosem.cut.vars' lays the variable. In a bare row this is a premise. The card (YtbfdpibjicjagaaGreatDoorCards.lean) ties it to the program's text. -/
def laid_unicode_utf8_acceptRanges {H : Type} : DataW H := .agg [.agg [.lit (.int .u8 128), .lit (.int .u8 191)], .agg [.lit (.int .u8 160), .lit (.int .u8 191)], .agg [.lit (.int .u8 128), .lit (.int .u8 159)], .agg [.lit (.int .u8 144), .lit (.int .u8 191)], .agg [.lit (.int .u8 128), .lit (.int .u8 143)], .agg [.lit (.int .u8 0), .lit (.int .u8 0)], .agg [.lit (.int .u8 0), .lit (.int .u8 0)], .agg [.lit (.int .u8 0), .lit (.int .u8 0)], .agg [.lit (.int .u8 0), .lit (.int .u8 0)], .agg [.lit (.int .u8 0), .lit (.int .u8 0)], .agg [.lit (.int .u8 0), .lit (.int .u8 0)], .agg [.lit (.int .u8 0), .lit (.int .u8 0)], .agg [.lit (.int .u8 0), .lit (.int .u8 0)], .agg [.lit (.int .u8 0), .lit (.int .u8 0)], .agg [.lit (.int .u8 0), .lit (.int .u8 0)], .agg [.lit (.int .u8 0), .lit (.int .u8 0)]]
/-- One of Go's own tables, pinned by name: the form's constant. -/
def laid_unicode_utf8_first : DataW Unit := Go.Pinned.utf8First

/-- 'casematelaw18.ScanExact': WHATEVER THE INPUT: true; the input reads as it did. -/
def scanExactSpec : ChangeSpec := { name := "scanExact", fn := fun _ => fun
  | [d1, d2, d3, d4] => { results := [.lit (.bool true)], args := [d1, d2, d3, d4] }
  | _ => none }
def scanExactRow : OpenClaim := { program := "ytbfdpibjicjagaagreatdoor", sum := "2f11d7b80512ce3649b34e923b4ece63a80ede0a0b919bc2286a5a92220beabb", func := "casemate/casematelaw18.ScanExact", spec := "scanExact", unfollowed := true, recurses := true, named := ["unicode/utf8.first", "unicode/utf8.acceptRanges"], apart := false, laid := [("unicode/utf8.acceptRanges", laid_unicode_utf8_acceptRanges), ("unicode/utf8.first", laid_unicode_utf8_first)] }
def ScanExactSaid : Prop := scanExactRow.holds Tryz.pinned (OpenSpec.ofChange scanExactSpec)

/-- ITS FALSE NEIGHBOUR: 'it returns false'. Refute it at one input. -/
def scanExactWrong : ChangeSpec := { name := "scanExact", fn := fun _ => fun
  | [d1, d2, d3, d4] => { results := [.lit (.bool false)], args := [d1, d2, d3, d4] }
  | _ => none }
def ScanExactWrongFalsely : Prop := scanExactRow.holds Tryz.pinned (OpenSpec.ofChange scanExactWrong)

/-- 'casematelaw18.ScanFinds': WHATEVER THE INPUT: true; the input reads as it did. -/
def scanFindsSpec : ChangeSpec := { name := "scanFinds", fn := fun _ => fun
  | [d1, d2, d3, d4, d5, d6] => { results := [.lit (.bool true)], args := [d1, d2, d3, d4, d5, d6] }
  | _ => none }
def scanFindsRow : OpenClaim := { program := "ytbfdpibjicjagaagreatdoor", sum := "2f11d7b80512ce3649b34e923b4ece63a80ede0a0b919bc2286a5a92220beabb", func := "casemate/casematelaw18.ScanFinds", spec := "scanFinds", unfollowed := true, recurses := true, named := ["unicode/utf8.first", "unicode/utf8.acceptRanges"], apart := false, laid := [("unicode/utf8.acceptRanges", laid_unicode_utf8_acceptRanges), ("unicode/utf8.first", laid_unicode_utf8_first)] }
def ScanFindsSaid : Prop := scanFindsRow.holds Tryz.pinned (OpenSpec.ofChange scanFindsSpec)

/-- ITS FALSE NEIGHBOUR: 'it returns false'. Refute it at one input. -/
def scanFindsWrong : ChangeSpec := { name := "scanFinds", fn := fun _ => fun
  | [d1, d2, d3, d4, d5, d6] => { results := [.lit (.bool false)], args := [d1, d2, d3, d4, d5, d6] }
  | _ => none }
def ScanFindsWrongFalsely : Prop := scanFindsRow.holds Tryz.pinned (OpenSpec.ofChange scanFindsWrong)

/-- 'casematelaw18.ScanCut': WHATEVER THE INPUT: true; the input reads as it did. -/
def scanCutSpec : ChangeSpec := { name := "scanCut", fn := fun _ => fun
  | [d1, d2, d3, d4, d5] => { results := [.lit (.bool true)], args := [d1, d2, d3, d4, d5] }
  | _ => none }
def scanCutRow : OpenClaim := { program := "ytbfdpibjicjagaagreatdoor", sum := "2f11d7b80512ce3649b34e923b4ece63a80ede0a0b919bc2286a5a92220beabb", func := "casemate/casematelaw18.ScanCut", spec := "scanCut", unfollowed := true, recurses := true, named := ["unicode/utf8.first", "unicode/utf8.acceptRanges"], apart := false, laid := [("unicode/utf8.acceptRanges", laid_unicode_utf8_acceptRanges), ("unicode/utf8.first", laid_unicode_utf8_first)] }
def ScanCutSaid : Prop := scanCutRow.holds Tryz.pinned (OpenSpec.ofChange scanCutSpec)

/-- ITS FALSE NEIGHBOUR: 'it returns false'. Refute it at one input. -/
def scanCutWrong : ChangeSpec := { name := "scanCut", fn := fun _ => fun
  | [d1, d2, d3, d4, d5] => { results := [.lit (.bool false)], args := [d1, d2, d3, d4, d5] }
  | _ => none }
def ScanCutWrongFalsely : Prop := scanCutRow.holds Tryz.pinned (OpenSpec.ofChange scanCutWrong)

/-- 'casematelaw18.ScanHoles': WHATEVER THE INPUT: true; the input reads as it did. -/
def scanHolesSpec : ChangeSpec := { name := "scanHoles", fn := fun _ => fun
  | [d1, d2, d3, d4, d5, d6, d7] => { results := [.lit (.bool true)], args := [d1, d2, d3, d4, d5, d6, d7] }
  | _ => none }
def scanHolesRow : OpenClaim := { program := "ytbfdpibjicjagaagreatdoor", sum := "2f11d7b80512ce3649b34e923b4ece63a80ede0a0b919bc2286a5a92220beabb", func := "casemate/casematelaw18.ScanHoles", spec := "scanHoles", unfollowed := true, recurses := true, named := ["unicode/utf8.first", "unicode/utf8.acceptRanges"], apart := false, laid := [("unicode/utf8.acceptRanges", laid_unicode_utf8_acceptRanges), ("unicode/utf8.first", laid_unicode_utf8_first)] }
def ScanHolesSaid : Prop := scanHolesRow.holds Tryz.pinned (OpenSpec.ofChange scanHolesSpec)

/-- ITS FALSE NEIGHBOUR: 'it returns false'. Refute it at one input. -/
def scanHolesWrong : ChangeSpec := { name := "scanHoles", fn := fun _ => fun
  | [d1, d2, d3, d4, d5, d6, d7] => { results := [.lit (.bool false)], args := [d1, d2, d3, d4, d5, d6, d7] }
  | _ => none }
def ScanHolesWrongFalsely : Prop := scanHolesRow.holds Tryz.pinned (OpenSpec.ofChange scanHolesWrong)

/-- 'casematelaw18.ScanMended': WHATEVER THE INPUT: true; the input reads as it did. -/
def scanMendedSpec : ChangeSpec := { name := "scanMended", fn := fun _ => fun
  | [d1, d2, d3, d4] => { results := [.lit (.bool true)], args := [d1, d2, d3, d4] }
  | _ => none }
def scanMendedRow : OpenClaim := { program := "ytbfdpibjicjagaagreatdoor", sum := "2f11d7b80512ce3649b34e923b4ece63a80ede0a0b919bc2286a5a92220beabb", func := "casemate/casematelaw18.ScanMended", spec := "scanMended", unfollowed := true, recurses := true, named := ["unicode/utf8.first", "unicode/utf8.acceptRanges"], apart := false, laid := [("unicode/utf8.acceptRanges", laid_unicode_utf8_acceptRanges), ("unicode/utf8.first", laid_unicode_utf8_first)] }
def ScanMendedSaid : Prop := scanMendedRow.holds Tryz.pinned (OpenSpec.ofChange scanMendedSpec)

/-- ITS FALSE NEIGHBOUR: 'it returns false'. Refute it at one input. -/
def scanMendedWrong : ChangeSpec := { name := "scanMended", fn := fun _ => fun
  | [d1, d2, d3, d4] => { results := [.lit (.bool false)], args := [d1, d2, d3, d4] }
  | _ => none }
def ScanMendedWrongFalsely : Prop := scanMendedRow.holds Tryz.pinned (OpenSpec.ofChange scanMendedWrong)

/-- 'casematelaw18.ScanRight': WHATEVER THE INPUT: true; the input reads as it did. -/
def scanRightSpec : ChangeSpec := { name := "scanRight", fn := fun _ => fun
  | [d1, d2, d3, d4] => { results := [.lit (.bool true)], args := [d1, d2, d3, d4] }
  | _ => none }
def scanRightRow : OpenClaim := { program := "ytbfdpibjicjagaagreatdoor", sum := "2f11d7b80512ce3649b34e923b4ece63a80ede0a0b919bc2286a5a92220beabb", func := "casemate/casematelaw18.ScanRight", spec := "scanRight", unfollowed := true, recurses := true, named := ["unicode/utf8.first", "unicode/utf8.acceptRanges"], apart := false, laid := [("unicode/utf8.acceptRanges", laid_unicode_utf8_acceptRanges), ("unicode/utf8.first", laid_unicode_utf8_first)] }
def ScanRightSaid : Prop := scanRightRow.holds Tryz.pinned (OpenSpec.ofChange scanRightSpec)

/-- ITS FALSE NEIGHBOUR: 'it returns false'. Refute it at one input. -/
def scanRightWrong : ChangeSpec := { name := "scanRight", fn := fun _ => fun
  | [d1, d2, d3, d4] => { results := [.lit (.bool false)], args := [d1, d2, d3, d4] }
  | _ => none }
def ScanRightWrongFalsely : Prop := scanRightRow.holds Tryz.pinned (OpenSpec.ofChange scanRightWrong)

/-- 'casematelaw18.ScanElder': WHATEVER THE INPUT: true; the input reads as it did. -/
def scanElderSpec : ChangeSpec := { name := "scanElder", fn := fun _ => fun
  | [d1, d2, d3, d4, d5] => { results := [.lit (.bool true)], args := [d1, d2, d3, d4, d5] }
  | _ => none }
def scanElderRow : OpenClaim := { program := "ytbfdpibjicjagaagreatdoor", sum := "2f11d7b80512ce3649b34e923b4ece63a80ede0a0b919bc2286a5a92220beabb", func := "casemate/casematelaw18.ScanElder", spec := "scanElder", unfollowed := true, recurses := true, named := ["unicode/utf8.first", "unicode/utf8.acceptRanges"], apart := false, laid := [("unicode/utf8.acceptRanges", laid_unicode_utf8_acceptRanges), ("unicode/utf8.first", laid_unicode_utf8_first)] }
def ScanElderSaid : Prop := scanElderRow.holds Tryz.pinned (OpenSpec.ofChange scanElderSpec)

/-- ITS FALSE NEIGHBOUR: 'it returns false'. Refute it at one input. -/
def scanElderWrong : ChangeSpec := { name := "scanElder", fn := fun _ => fun
  | [d1, d2, d3, d4, d5] => { results := [.lit (.bool false)], args := [d1, d2, d3, d4, d5] }
  | _ => none }
def ScanElderWrongFalsely : Prop := scanElderRow.holds Tryz.pinned (OpenSpec.ofChange scanElderWrong)

/- THE SECOND FORM. 'bulk': how many values and letters a reading holds, each counted each time it is reached (what is shared counts as often as it is met; a slice's spare places count too). A statement '..UptoSaid' is the law's where the arguments, and the package variables that the reading takes, are together of bulk at most 1048576: NARROWER than '..Said'. Prove '..Said' where nothing that the law and all that it calls make is longer than what came in: it says more and counts as full. Else prove '..UptoSaid'. A law counts once. -/
mutual
def uptoBulk {H : Type} : DataW H → Nat
  | .lit (.string bytes) => bytes.length + 1
  | .lit _ => 1
  | .nil => 1
  | .ptr d => uptoBulk d + 1
  | .slice elems spare => uptoBulkAll elems + uptoBulkAll spare + 1
  | .agg parts => uptoBulkAll parts + 1
  | .iface _ d => uptoBulk d + 1
  | .map entries => uptoBulkEntries entries + 1
  | .held _ => 1
def uptoBulkAll {H : Type} : List (DataW H) → Nat
  | [] => 0
  | d :: r => uptoBulk d + uptoBulkAll r
def uptoBulkEntries {H : Type} : List (Lit × DataW H) → Nat
  | [] => 0
  | x :: r => uptoBulkEntry x + uptoBulkEntries r
def uptoBulkEntry {H : Type} : Lit × DataW H → Nat
  | (.string bytes, d) => bytes.length + uptoBulk d + 1
  | (_, d) => uptoBulk d + 1
 end
def uptoSmall : (H : Type) → List (DataW H) → Bool := fun _ ds => decide (uptoBulkAll ds ≤ 1048576)
def OpenSpec.upto (s : _root_.Go.ChangeSpec) : _root_.Go.OpenSpec := { _root_.Go.OpenSpec.ofChange s with cond := some uptoSmall }

/-- 'casematelaw18.ScanExact', WHERE WHAT IT READS IS OF BULK AT MOST 1048576: true; the input reads as it did. -/
def scanExactUptoRow : OpenClaim := { program := "ytbfdpibjicjagaagreatdoor", sum := "2f11d7b80512ce3649b34e923b4ece63a80ede0a0b919bc2286a5a92220beabb", func := "casemate/casematelaw18.ScanExact", spec := "scanExact", unfollowed := true, recurses := true, named := ["unicode/utf8.first", "unicode/utf8.acceptRanges"], apart := false, laid := [("unicode/utf8.acceptRanges", laid_unicode_utf8_acceptRanges), ("unicode/utf8.first", laid_unicode_utf8_first)], narrowed := true }
def ScanExactUptoSaid : Prop := scanExactUptoRow.holds Tryz.pinned (OpenSpec.upto scanExactSpec)

/-- 'casematelaw18.ScanFinds', WHERE WHAT IT READS IS OF BULK AT MOST 1048576: true; the input reads as it did. -/
def scanFindsUptoRow : OpenClaim := { program := "ytbfdpibjicjagaagreatdoor", sum := "2f11d7b80512ce3649b34e923b4ece63a80ede0a0b919bc2286a5a92220beabb", func := "casemate/casematelaw18.ScanFinds", spec := "scanFinds", unfollowed := true, recurses := true, named := ["unicode/utf8.first", "unicode/utf8.acceptRanges"], apart := false, laid := [("unicode/utf8.acceptRanges", laid_unicode_utf8_acceptRanges), ("unicode/utf8.first", laid_unicode_utf8_first)], narrowed := true }
def ScanFindsUptoSaid : Prop := scanFindsUptoRow.holds Tryz.pinned (OpenSpec.upto scanFindsSpec)

/-- 'casematelaw18.ScanCut', WHERE WHAT IT READS IS OF BULK AT MOST 1048576: true; the input reads as it did. -/
def scanCutUptoRow : OpenClaim := { program := "ytbfdpibjicjagaagreatdoor", sum := "2f11d7b80512ce3649b34e923b4ece63a80ede0a0b919bc2286a5a92220beabb", func := "casemate/casematelaw18.ScanCut", spec := "scanCut", unfollowed := true, recurses := true, named := ["unicode/utf8.first", "unicode/utf8.acceptRanges"], apart := false, laid := [("unicode/utf8.acceptRanges", laid_unicode_utf8_acceptRanges), ("unicode/utf8.first", laid_unicode_utf8_first)], narrowed := true }
def ScanCutUptoSaid : Prop := scanCutUptoRow.holds Tryz.pinned (OpenSpec.upto scanCutSpec)

/-- 'casematelaw18.ScanHoles', WHERE WHAT IT READS IS OF BULK AT MOST 1048576: true; the input reads as it did. -/
def scanHolesUptoRow : OpenClaim := { program := "ytbfdpibjicjagaagreatdoor", sum := "2f11d7b80512ce3649b34e923b4ece63a80ede0a0b919bc2286a5a92220beabb", func := "casemate/casematelaw18.ScanHoles", spec := "scanHoles", unfollowed := true, recurses := true, named := ["unicode/utf8.first", "unicode/utf8.acceptRanges"], apart := false, laid := [("unicode/utf8.acceptRanges", laid_unicode_utf8_acceptRanges), ("unicode/utf8.first", laid_unicode_utf8_first)], narrowed := true }
def ScanHolesUptoSaid : Prop := scanHolesUptoRow.holds Tryz.pinned (OpenSpec.upto scanHolesSpec)

/-- 'casematelaw18.ScanMended', WHERE WHAT IT READS IS OF BULK AT MOST 1048576: true; the input reads as it did. -/
def scanMendedUptoRow : OpenClaim := { program := "ytbfdpibjicjagaagreatdoor", sum := "2f11d7b80512ce3649b34e923b4ece63a80ede0a0b919bc2286a5a92220beabb", func := "casemate/casematelaw18.ScanMended", spec := "scanMended", unfollowed := true, recurses := true, named := ["unicode/utf8.first", "unicode/utf8.acceptRanges"], apart := false, laid := [("unicode/utf8.acceptRanges", laid_unicode_utf8_acceptRanges), ("unicode/utf8.first", laid_unicode_utf8_first)], narrowed := true }
def ScanMendedUptoSaid : Prop := scanMendedUptoRow.holds Tryz.pinned (OpenSpec.upto scanMendedSpec)

/-- 'casematelaw18.ScanRight', WHERE WHAT IT READS IS OF BULK AT MOST 1048576: true; the input reads as it did. -/
def scanRightUptoRow : OpenClaim := { program := "ytbfdpibjicjagaagreatdoor", sum := "2f11d7b80512ce3649b34e923b4ece63a80ede0a0b919bc2286a5a92220beabb", func := "casemate/casematelaw18.ScanRight", spec := "scanRight", unfollowed := true, recurses := true, named := ["unicode/utf8.first", "unicode/utf8.acceptRanges"], apart := false, laid := [("unicode/utf8.acceptRanges", laid_unicode_utf8_acceptRanges), ("unicode/utf8.first", laid_unicode_utf8_first)], narrowed := true }
def ScanRightUptoSaid : Prop := scanRightUptoRow.holds Tryz.pinned (OpenSpec.upto scanRightSpec)

/-- 'casematelaw18.ScanElder', WHERE WHAT IT READS IS OF BULK AT MOST 1048576: true; the input reads as it did. -/
def scanElderUptoRow : OpenClaim := { program := "ytbfdpibjicjagaagreatdoor", sum := "2f11d7b80512ce3649b34e923b4ece63a80ede0a0b919bc2286a5a92220beabb", func := "casemate/casematelaw18.ScanElder", spec := "scanElder", unfollowed := true, recurses := true, named := ["unicode/utf8.first", "unicode/utf8.acceptRanges"], apart := false, laid := [("unicode/utf8.acceptRanges", laid_unicode_utf8_acceptRanges), ("unicode/utf8.first", laid_unicode_utf8_first)], narrowed := true }
def ScanElderUptoSaid : Prop := scanElderUptoRow.holds Tryz.pinned (OpenSpec.upto scanElderSpec)

end Rows
end Go.Proofs.YtbfdpibjicjagaaGreatDoor
