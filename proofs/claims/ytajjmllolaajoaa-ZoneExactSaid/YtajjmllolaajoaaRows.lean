/-
  No cell of these rows narrows 'for every input' (looked for: loops, veiled, ifaces, maps, wideKeys, modest, calm, conditions, laid).
  DERIVED. THE GIVEN ROWS OF THIS SEAT. 6 by the template 'for every input the law returns true; each argument reads behind the call as it read before'; 0 by the template 'total and deterministic' (their statements: YtajjmllolaajoaaTotals.lean).
  GIVEN WITH THE SEED: the statements are not yours to turn. If you find one false, say at which input.
  Laid BY PROGRAM, IN A SANDBOX (cutbox-rows.mjs): the forced cells as the released guide's own fill.sh prints them over the translation e94dfbc44406c96b… (all of the seat's roots in one cut). By AI agents, Wed Nov 11 2026. No macro, syntax, notation, axiom, sorry.
-/
import Derived.Test.YtajjmllolaajoaaChecked
import GoSem.Claim
import GoSem.ClaimJoined
import GoSem.ClaimMapViews
import Derived.JoinedTies
import Derived.KernelRfl
namespace Go.Proofs.Ytajjmllolaajoaa
/- THE CELL 'sum', in the pinned program and in every row, IS THE sha256 OF THE DUMP (.gsa) THAT YtajjmllolaajoaaProg.lean LOADS. Nothing in Lean hashes anything: it is a label: what it is worth is what the hold of that sum in a sandbox is worth. -/
noncomputable def Try.pinned : Pinned := { name := "ytajjmllolaajoaa", sum := "e94dfbc44406c96bf1a2a95c0c4f44a4c0894084a21764ec1d326498c7f37eaa", checked := Try.checked }
namespace Rows
def none {H : Type} : Left H := { results := [], args := [] }

/-- 'casematelaw13.ZoneExact': WHATEVER THE INPUT: true; the input reads as it did. -/
def zoneExactSpec : ChangeSpec := { name := "zoneExact", fn := fun _ => fun
  | [d1, d2, d3, d4] => { results := [.lit (.bool true)], args := [d1, d2, d3, d4] }
  | _ => none }
def zoneExactRow : OpenClaim := { program := "ytajjmllolaajoaa", sum := "e94dfbc44406c96bf1a2a95c0c4f44a4c0894084a21764ec1d326498c7f37eaa", func := "casemate/casematelaw13.ZoneExact", spec := "zoneExact", apart := false }
def ZoneExactSaid : Prop := zoneExactRow.holds Try.pinned (OpenSpec.ofChange zoneExactSpec)

/-- ITS FALSE NEIGHBOUR: 'it returns false'. Refute it at one input. -/
def zoneExactWrong : ChangeSpec := { name := "zoneExact", fn := fun _ => fun
  | [d1, d2, d3, d4] => { results := [.lit (.bool false)], args := [d1, d2, d3, d4] }
  | _ => none }
def ZoneExactWrongFalsely : Prop := zoneExactRow.holds Try.pinned (OpenSpec.ofChange zoneExactWrong)

/-- 'casematelaw13.ZoneOne': WHATEVER THE INPUT: true; the input reads as it did. -/
def zoneOneSpec : ChangeSpec := { name := "zoneOne", fn := fun _ => fun
  | [d1, d2, d3, d4, d5, d6] => { results := [.lit (.bool true)], args := [d1, d2, d3, d4, d5, d6] }
  | _ => none }
def zoneOneRow : OpenClaim := { program := "ytajjmllolaajoaa", sum := "e94dfbc44406c96bf1a2a95c0c4f44a4c0894084a21764ec1d326498c7f37eaa", func := "casemate/casematelaw13.ZoneOne", spec := "zoneOne", apart := false }
def ZoneOneSaid : Prop := zoneOneRow.holds Try.pinned (OpenSpec.ofChange zoneOneSpec)

/-- ITS FALSE NEIGHBOUR: 'it returns false'. Refute it at one input. -/
def zoneOneWrong : ChangeSpec := { name := "zoneOne", fn := fun _ => fun
  | [d1, d2, d3, d4, d5, d6] => { results := [.lit (.bool false)], args := [d1, d2, d3, d4, d5, d6] }
  | _ => none }
def ZoneOneWrongFalsely : Prop := zoneOneRow.holds Try.pinned (OpenSpec.ofChange zoneOneWrong)

/-- 'casematelaw13.ZoneTwo': WHATEVER THE INPUT: true; the input reads as it did. -/
def zoneTwoSpec : ChangeSpec := { name := "zoneTwo", fn := fun _ => fun
  | [d1, d2, d3, d4, d5, d6] => { results := [.lit (.bool true)], args := [d1, d2, d3, d4, d5, d6] }
  | _ => none }
def zoneTwoRow : OpenClaim := { program := "ytajjmllolaajoaa", sum := "e94dfbc44406c96bf1a2a95c0c4f44a4c0894084a21764ec1d326498c7f37eaa", func := "casemate/casematelaw13.ZoneTwo", spec := "zoneTwo", apart := false }
def ZoneTwoSaid : Prop := zoneTwoRow.holds Try.pinned (OpenSpec.ofChange zoneTwoSpec)

/-- ITS FALSE NEIGHBOUR: 'it returns false'. Refute it at one input. -/
def zoneTwoWrong : ChangeSpec := { name := "zoneTwo", fn := fun _ => fun
  | [d1, d2, d3, d4, d5, d6] => { results := [.lit (.bool false)], args := [d1, d2, d3, d4, d5, d6] }
  | _ => none }
def ZoneTwoWrongFalsely : Prop := zoneTwoRow.holds Try.pinned (OpenSpec.ofChange zoneTwoWrong)

/-- 'casematelaw13.ZoneAsks': WHATEVER THE INPUT: true; the input reads as it did. -/
def zoneAsksSpec : ChangeSpec := { name := "zoneAsks", fn := fun _ => fun
  | [d1, d2, d3, d4] => { results := [.lit (.bool true)], args := [d1, d2, d3, d4] }
  | _ => none }
def zoneAsksRow : OpenClaim := { program := "ytajjmllolaajoaa", sum := "e94dfbc44406c96bf1a2a95c0c4f44a4c0894084a21764ec1d326498c7f37eaa", func := "casemate/casematelaw13.ZoneAsks", spec := "zoneAsks", apart := false }
def ZoneAsksSaid : Prop := zoneAsksRow.holds Try.pinned (OpenSpec.ofChange zoneAsksSpec)

/-- ITS FALSE NEIGHBOUR: 'it returns false'. Refute it at one input. -/
def zoneAsksWrong : ChangeSpec := { name := "zoneAsks", fn := fun _ => fun
  | [d1, d2, d3, d4] => { results := [.lit (.bool false)], args := [d1, d2, d3, d4] }
  | _ => none }
def ZoneAsksWrongFalsely : Prop := zoneAsksRow.holds Try.pinned (OpenSpec.ofChange zoneAsksWrong)

/-- 'casematelaw13.ZoneLost': WHATEVER THE INPUT: true; the input reads as it did. -/
def zoneLostSpec : ChangeSpec := { name := "zoneLost", fn := fun _ => fun
  | [d1, d2, d3, d4, d5] => { results := [.lit (.bool true)], args := [d1, d2, d3, d4, d5] }
  | _ => none }
def zoneLostRow : OpenClaim := { program := "ytajjmllolaajoaa", sum := "e94dfbc44406c96bf1a2a95c0c4f44a4c0894084a21764ec1d326498c7f37eaa", func := "casemate/casematelaw13.ZoneLost", spec := "zoneLost", apart := false }
def ZoneLostSaid : Prop := zoneLostRow.holds Try.pinned (OpenSpec.ofChange zoneLostSpec)

/-- ITS FALSE NEIGHBOUR: 'it returns false'. Refute it at one input. -/
def zoneLostWrong : ChangeSpec := { name := "zoneLost", fn := fun _ => fun
  | [d1, d2, d3, d4, d5] => { results := [.lit (.bool false)], args := [d1, d2, d3, d4, d5] }
  | _ => none }
def ZoneLostWrongFalsely : Prop := zoneLostRow.holds Try.pinned (OpenSpec.ofChange zoneLostWrong)

/-- 'casematelaw13.ZoneSums': WHATEVER THE INPUT: true; the input reads as it did. -/
def zoneSumsSpec : ChangeSpec := { name := "zoneSums", fn := fun _ => fun
  | [d1, d2, d3] => { results := [.lit (.bool true)], args := [d1, d2, d3] }
  | _ => none }
def zoneSumsRow : OpenClaim := { program := "ytajjmllolaajoaa", sum := "e94dfbc44406c96bf1a2a95c0c4f44a4c0894084a21764ec1d326498c7f37eaa", func := "casemate/casematelaw13.ZoneSums", spec := "zoneSums", apart := false }
def ZoneSumsSaid : Prop := zoneSumsRow.holds Try.pinned (OpenSpec.ofChange zoneSumsSpec)

/-- ITS FALSE NEIGHBOUR: 'it returns false'. Refute it at one input. -/
def zoneSumsWrong : ChangeSpec := { name := "zoneSums", fn := fun _ => fun
  | [d1, d2, d3] => { results := [.lit (.bool false)], args := [d1, d2, d3] }
  | _ => none }
def ZoneSumsWrongFalsely : Prop := zoneSumsRow.holds Try.pinned (OpenSpec.ofChange zoneSumsWrong)

/- THE SECOND FORM. 'bulk': how many values and letters a reading holds, each counted each time it is reached (what is shared counts as often as it is met; a slice's spare places count too). A statement '..UptoSaid' is the law's where the arguments, and the package variables that the reading takes, are together of bulk at most 1048576: NARROWER than '..Said'. Prove '..Said' where nothing that the law and all that it calls make is longer than what came in: it says more and counts as full. Else prove '..UptoSaid'. A law counts once. -/
mutual
def uptoBulk {H : Type} : DataW H → Nat
  | .lit (.string bytes) => bytes.length + 1
  | .lit _ => 1
  | .nil => 1
  | .ptr d => uptoBulk d + 1
  | .slice elems spare => uptoBulkAll elems + uptoBulkAll spare + 1
  | .agg parts => uptoBulkAll parts + 1
  | .iface _ d => uptoBulk d + 1
  | .map entries => uptoBulkEntries entries + 1
  | .held _ => 1
def uptoBulkAll {H : Type} : List (DataW H) → Nat
  | [] => 0
  | d :: r => uptoBulk d + uptoBulkAll r
def uptoBulkEntries {H : Type} : List (Lit × DataW H) → Nat
  | [] => 0
  | x :: r => uptoBulkEntry x + uptoBulkEntries r
def uptoBulkEntry {H : Type} : Lit × DataW H → Nat
  | (.string bytes, d) => bytes.length + uptoBulk d + 1
  | (_, d) => uptoBulk d + 1
 end
def uptoSmall : (H : Type) → List (DataW H) → Bool := fun _ ds => decide (uptoBulkAll ds ≤ 1048576)
def OpenSpec.upto (s : _root_.Go.ChangeSpec) : _root_.Go.OpenSpec := { _root_.Go.OpenSpec.ofChange s with cond := some uptoSmall }

/-- 'casematelaw13.ZoneExact', WHERE WHAT IT READS IS OF BULK AT MOST 1048576: true; the input reads as it did. -/
def zoneExactUptoRow : OpenClaim := { program := "ytajjmllolaajoaa", sum := "e94dfbc44406c96bf1a2a95c0c4f44a4c0894084a21764ec1d326498c7f37eaa", func := "casemate/casematelaw13.ZoneExact", spec := "zoneExact", apart := false, narrowed := true }
def ZoneExactUptoSaid : Prop := zoneExactUptoRow.holds Try.pinned (OpenSpec.upto zoneExactSpec)

/-- 'casematelaw13.ZoneOne', WHERE WHAT IT READS IS OF BULK AT MOST 1048576: true; the input reads as it did. -/
def zoneOneUptoRow : OpenClaim := { program := "ytajjmllolaajoaa", sum := "e94dfbc44406c96bf1a2a95c0c4f44a4c0894084a21764ec1d326498c7f37eaa", func := "casemate/casematelaw13.ZoneOne", spec := "zoneOne", apart := false, narrowed := true }
def ZoneOneUptoSaid : Prop := zoneOneUptoRow.holds Try.pinned (OpenSpec.upto zoneOneSpec)

/-- 'casematelaw13.ZoneTwo', WHERE WHAT IT READS IS OF BULK AT MOST 1048576: true; the input reads as it did. -/
def zoneTwoUptoRow : OpenClaim := { program := "ytajjmllolaajoaa", sum := "e94dfbc44406c96bf1a2a95c0c4f44a4c0894084a21764ec1d326498c7f37eaa", func := "casemate/casematelaw13.ZoneTwo", spec := "zoneTwo", apart := false, narrowed := true }
def ZoneTwoUptoSaid : Prop := zoneTwoUptoRow.holds Try.pinned (OpenSpec.upto zoneTwoSpec)

/-- 'casematelaw13.ZoneAsks', WHERE WHAT IT READS IS OF BULK AT MOST 1048576: true; the input reads as it did. -/
def zoneAsksUptoRow : OpenClaim := { program := "ytajjmllolaajoaa", sum := "e94dfbc44406c96bf1a2a95c0c4f44a4c0894084a21764ec1d326498c7f37eaa", func := "casemate/casematelaw13.ZoneAsks", spec := "zoneAsks", apart := false, narrowed := true }
def ZoneAsksUptoSaid : Prop := zoneAsksUptoRow.holds Try.pinned (OpenSpec.upto zoneAsksSpec)

/-- 'casematelaw13.ZoneLost', WHERE WHAT IT READS IS OF BULK AT MOST 1048576: true; the input reads as it did. -/
def zoneLostUptoRow : OpenClaim := { program := "ytajjmllolaajoaa", sum := "e94dfbc44406c96bf1a2a95c0c4f44a4c0894084a21764ec1d326498c7f37eaa", func := "casemate/casematelaw13.ZoneLost", spec := "zoneLost", apart := false, narrowed := true }
def ZoneLostUptoSaid : Prop := zoneLostUptoRow.holds Try.pinned (OpenSpec.upto zoneLostSpec)

/-- 'casematelaw13.ZoneSums', WHERE WHAT IT READS IS OF BULK AT MOST 1048576: true; the input reads as it did. -/
def zoneSumsUptoRow : OpenClaim := { program := "ytajjmllolaajoaa", sum := "e94dfbc44406c96bf1a2a95c0c4f44a4c0894084a21764ec1d326498c7f37eaa", func := "casemate/casematelaw13.ZoneSums", spec := "zoneSums", apart := false, narrowed := true }
def ZoneSumsUptoSaid : Prop := zoneSumsUptoRow.holds Try.pinned (OpenSpec.upto zoneSumsSpec)

end Rows
end Go.Proofs.Ytajjmllolaajoaa
