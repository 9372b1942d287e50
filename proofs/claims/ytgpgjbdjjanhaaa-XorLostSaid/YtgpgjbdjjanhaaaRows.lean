/-
  No cell of these rows narrows 'for every input' (looked for: loops, veiled, ifaces, maps, wideKeys, modest, calm, conditions, laid).
  DERIVED. THE GIVEN ROWS OF THIS SEAT. 6 by the template 'for every input the law returns true; each argument reads behind the call as it read before'; 0 by the template 'total and deterministic' (their statements: YtgpgjbdjjanhaaaTotals.lean).
  GIVEN WITH THE SEED: the statements are not yours to turn. If you find one false, say at which input.
  Laid BY PROGRAM, IN A SANDBOX (cutbox-rows.mjs): the forced cells as the released guide's own fill.sh prints them over the translation 2afef32875c1465b… (all of the seat's roots in one cut). By AI agents, Wed Nov 11 2026. No macro, syntax, notation, axiom, sorry.
-/
import Derived.Test.YtgpgjbdjjanhaaaChecked
import GoSem.Claim
import GoSem.ClaimJoined
import GoSem.ClaimMapViews
import Derived.JoinedTies
import Derived.KernelRfl
namespace Go.Proofs.Ytgpgjbdjjanhaaa
/- THE CELL 'sum', in the pinned program and in every row, IS THE sha256 OF THE DUMP (.gsa) THAT YtgpgjbdjjanhaaaProg.lean LOADS. Nothing in Lean hashes anything: it is a label: what it is worth is what the hold of that sum in a sandbox is worth. -/
noncomputable def Try.pinned : Pinned := { name := "ytgpgjbdjjanhaaa", sum := "2afef32875c1465b144f9d0676888e268e21853edb6525d7adad5b731330bded", checked := Try.checked }
namespace Rows
def none {H : Type} : Left H := { results := [], args := [] }

/-- 'casematelaw03.XorExact': WHATEVER THE INPUT: true; the input reads as it did. -/
def xorExactSpec : ChangeSpec := { name := "xorExact", fn := fun _ => fun
  | [d1, d2, d3, d4, d5, d6] => { results := [.lit (.bool true)], args := [d1, d2, d3, d4, d5, d6] }
  | _ => none }
def xorExactRow : OpenClaim := { program := "ytgpgjbdjjanhaaa", sum := "2afef32875c1465b144f9d0676888e268e21853edb6525d7adad5b731330bded", func := "casemate/casematelaw03.XorExact", spec := "xorExact", apart := false }
def XorExactSaid : Prop := xorExactRow.holds Try.pinned (OpenSpec.ofChange xorExactSpec)

/-- ITS FALSE NEIGHBOUR: 'it returns false'. Refute it at one input. -/
def xorExactWrong : ChangeSpec := { name := "xorExact", fn := fun _ => fun
  | [d1, d2, d3, d4, d5, d6] => { results := [.lit (.bool false)], args := [d1, d2, d3, d4, d5, d6] }
  | _ => none }
def XorExactWrongFalsely : Prop := xorExactRow.holds Try.pinned (OpenSpec.ofChange xorExactWrong)

/-- 'casematelaw03.XorRest': WHATEVER THE INPUT: true; the input reads as it did. -/
def xorRestSpec : ChangeSpec := { name := "xorRest", fn := fun _ => fun
  | [d1, d2, d3] => { results := [.lit (.bool true)], args := [d1, d2, d3] }
  | _ => none }
def xorRestRow : OpenClaim := { program := "ytgpgjbdjjanhaaa", sum := "2afef32875c1465b144f9d0676888e268e21853edb6525d7adad5b731330bded", func := "casemate/casematelaw03.XorRest", spec := "xorRest", apart := false }
def XorRestSaid : Prop := xorRestRow.holds Try.pinned (OpenSpec.ofChange xorRestSpec)

/-- ITS FALSE NEIGHBOUR: 'it returns false'. Refute it at one input. -/
def xorRestWrong : ChangeSpec := { name := "xorRest", fn := fun _ => fun
  | [d1, d2, d3] => { results := [.lit (.bool false)], args := [d1, d2, d3] }
  | _ => none }
def XorRestWrongFalsely : Prop := xorRestRow.holds Try.pinned (OpenSpec.ofChange xorRestWrong)

/-- 'casematelaw03.XorTurn': WHATEVER THE INPUT: true; the input reads as it did. -/
def xorTurnSpec : ChangeSpec := { name := "xorTurn", fn := fun _ => fun
  | [d1, d2, d3, d4] => { results := [.lit (.bool true)], args := [d1, d2, d3, d4] }
  | _ => none }
def xorTurnRow : OpenClaim := { program := "ytgpgjbdjjanhaaa", sum := "2afef32875c1465b144f9d0676888e268e21853edb6525d7adad5b731330bded", func := "casemate/casematelaw03.XorTurn", spec := "xorTurn", apart := false }
def XorTurnSaid : Prop := xorTurnRow.holds Try.pinned (OpenSpec.ofChange xorTurnSpec)

/-- ITS FALSE NEIGHBOUR: 'it returns false'. Refute it at one input. -/
def xorTurnWrong : ChangeSpec := { name := "xorTurn", fn := fun _ => fun
  | [d1, d2, d3, d4] => { results := [.lit (.bool false)], args := [d1, d2, d3, d4] }
  | _ => none }
def XorTurnWrongFalsely : Prop := xorTurnRow.holds Try.pinned (OpenSpec.ofChange xorTurnWrong)

/-- 'casematelaw03.XorTwos': WHATEVER THE INPUT: true; the input reads as it did. -/
def xorTwosSpec : ChangeSpec := { name := "xorTwos", fn := fun _ => fun
  | [d1, d2] => { results := [.lit (.bool true)], args := [d1, d2] }
  | _ => none }
def xorTwosRow : OpenClaim := { program := "ytgpgjbdjjanhaaa", sum := "2afef32875c1465b144f9d0676888e268e21853edb6525d7adad5b731330bded", func := "casemate/casematelaw03.XorTwos", spec := "xorTwos", apart := false }
def XorTwosSaid : Prop := xorTwosRow.holds Try.pinned (OpenSpec.ofChange xorTwosSpec)

/-- ITS FALSE NEIGHBOUR: 'it returns false'. Refute it at one input. -/
def xorTwosWrong : ChangeSpec := { name := "xorTwos", fn := fun _ => fun
  | [d1, d2] => { results := [.lit (.bool false)], args := [d1, d2] }
  | _ => none }
def XorTwosWrongFalsely : Prop := xorTwosRow.holds Try.pinned (OpenSpec.ofChange xorTwosWrong)

/-- 'casematelaw03.XorOrder': WHATEVER THE INPUT: true; the input reads as it did. -/
def xorOrderSpec : ChangeSpec := { name := "xorOrder", fn := fun _ => fun
  | [d1, d2, d3] => { results := [.lit (.bool true)], args := [d1, d2, d3] }
  | _ => none }
def xorOrderRow : OpenClaim := { program := "ytgpgjbdjjanhaaa", sum := "2afef32875c1465b144f9d0676888e268e21853edb6525d7adad5b731330bded", func := "casemate/casematelaw03.XorOrder", spec := "xorOrder", apart := false }
def XorOrderSaid : Prop := xorOrderRow.holds Try.pinned (OpenSpec.ofChange xorOrderSpec)

/-- ITS FALSE NEIGHBOUR: 'it returns false'. Refute it at one input. -/
def xorOrderWrong : ChangeSpec := { name := "xorOrder", fn := fun _ => fun
  | [d1, d2, d3] => { results := [.lit (.bool false)], args := [d1, d2, d3] }
  | _ => none }
def XorOrderWrongFalsely : Prop := xorOrderRow.holds Try.pinned (OpenSpec.ofChange xorOrderWrong)

/-- 'casematelaw03.XorLost': WHATEVER THE INPUT: true; the input reads as it did. -/
def xorLostSpec : ChangeSpec := { name := "xorLost", fn := fun _ => fun
  | [d1, d2, d3] => { results := [.lit (.bool true)], args := [d1, d2, d3] }
  | _ => none }
def xorLostRow : OpenClaim := { program := "ytgpgjbdjjanhaaa", sum := "2afef32875c1465b144f9d0676888e268e21853edb6525d7adad5b731330bded", func := "casemate/casematelaw03.XorLost", spec := "xorLost", apart := false }
def XorLostSaid : Prop := xorLostRow.holds Try.pinned (OpenSpec.ofChange xorLostSpec)

/-- ITS FALSE NEIGHBOUR: 'it returns false'. Refute it at one input. -/
def xorLostWrong : ChangeSpec := { name := "xorLost", fn := fun _ => fun
  | [d1, d2, d3] => { results := [.lit (.bool false)], args := [d1, d2, d3] }
  | _ => none }
def XorLostWrongFalsely : Prop := xorLostRow.holds Try.pinned (OpenSpec.ofChange xorLostWrong)

/- THE SECOND FORM. 'bulk': how many values and letters a reading holds, each counted each time it is reached (what is shared counts as often as it is met; a slice's spare places count too). A statement '..UptoSaid' is the law's where the arguments, and the package variables that the reading takes, are together of bulk at most 1048576: NARROWER than '..Said'. Prove '..Said' where nothing that the law and all that it calls make is longer than what came in: it says more and counts as full. Else prove '..UptoSaid'. A law counts once. -/
mutual
def uptoBulk {H : Type} : DataW H → Nat
  | .lit (.string bytes) => bytes.length + 1
  | .lit _ => 1
  | .nil => 1
  | .ptr d => uptoBulk d + 1
  | .slice elems spare => uptoBulkAll elems + uptoBulkAll spare + 1
  | .agg parts => uptoBulkAll parts + 1
  | .iface _ d => uptoBulk d + 1
  | .map entries => uptoBulkEntries entries + 1
  | .held _ => 1
def uptoBulkAll {H : Type} : List (DataW H) → Nat
  | [] => 0
  | d :: r => uptoBulk d + uptoBulkAll r
def uptoBulkEntries {H : Type} : List (Lit × DataW H) → Nat
  | [] => 0
  | x :: r => uptoBulkEntry x + uptoBulkEntries r
def uptoBulkEntry {H : Type} : Lit × DataW H → Nat
  | (.string bytes, d) => bytes.length + uptoBulk d + 1
  | (_, d) => uptoBulk d + 1
 end
def uptoSmall : (H : Type) → List (DataW H) → Bool := fun _ ds => decide (uptoBulkAll ds ≤ 1048576)
def OpenSpec.upto (s : _root_.Go.ChangeSpec) : _root_.Go.OpenSpec := { _root_.Go.OpenSpec.ofChange s with cond := some uptoSmall }

/-- 'casematelaw03.XorExact', WHERE WHAT IT READS IS OF BULK AT MOST 1048576: true; the input reads as it did. -/
def xorExactUptoRow : OpenClaim := { program := "ytgpgjbdjjanhaaa", sum := "2afef32875c1465b144f9d0676888e268e21853edb6525d7adad5b731330bded", func := "casemate/casematelaw03.XorExact", spec := "xorExact", apart := false, narrowed := true }
def XorExactUptoSaid : Prop := xorExactUptoRow.holds Try.pinned (OpenSpec.upto xorExactSpec)

/-- 'casematelaw03.XorRest', WHERE WHAT IT READS IS OF BULK AT MOST 1048576: true; the input reads as it did. -/
def xorRestUptoRow : OpenClaim := { program := "ytgpgjbdjjanhaaa", sum := "2afef32875c1465b144f9d0676888e268e21853edb6525d7adad5b731330bded", func := "casemate/casematelaw03.XorRest", spec := "xorRest", apart := false, narrowed := true }
def XorRestUptoSaid : Prop := xorRestUptoRow.holds Try.pinned (OpenSpec.upto xorRestSpec)

/-- 'casematelaw03.XorTurn', WHERE WHAT IT READS IS OF BULK AT MOST 1048576: true; the input reads as it did. -/
def xorTurnUptoRow : OpenClaim := { program := "ytgpgjbdjjanhaaa", sum := "2afef32875c1465b144f9d0676888e268e21853edb6525d7adad5b731330bded", func := "casemate/casematelaw03.XorTurn", spec := "xorTurn", apart := false, narrowed := true }
def XorTurnUptoSaid : Prop := xorTurnUptoRow.holds Try.pinned (OpenSpec.upto xorTurnSpec)

/-- 'casematelaw03.XorTwos', WHERE WHAT IT READS IS OF BULK AT MOST 1048576: true; the input reads as it did. -/
def xorTwosUptoRow : OpenClaim := { program := "ytgpgjbdjjanhaaa", sum := "2afef32875c1465b144f9d0676888e268e21853edb6525d7adad5b731330bded", func := "casemate/casematelaw03.XorTwos", spec := "xorTwos", apart := false, narrowed := true }
def XorTwosUptoSaid : Prop := xorTwosUptoRow.holds Try.pinned (OpenSpec.upto xorTwosSpec)

/-- 'casematelaw03.XorOrder', WHERE WHAT IT READS IS OF BULK AT MOST 1048576: true; the input reads as it did. -/
def xorOrderUptoRow : OpenClaim := { program := "ytgpgjbdjjanhaaa", sum := "2afef32875c1465b144f9d0676888e268e21853edb6525d7adad5b731330bded", func := "casemate/casematelaw03.XorOrder", spec := "xorOrder", apart := false, narrowed := true }
def XorOrderUptoSaid : Prop := xorOrderUptoRow.holds Try.pinned (OpenSpec.upto xorOrderSpec)

/-- 'casematelaw03.XorLost', WHERE WHAT IT READS IS OF BULK AT MOST 1048576: true; the input reads as it did. -/
def xorLostUptoRow : OpenClaim := { program := "ytgpgjbdjjanhaaa", sum := "2afef32875c1465b144f9d0676888e268e21853edb6525d7adad5b731330bded", func := "casemate/casematelaw03.XorLost", spec := "xorLost", apart := false, narrowed := true }
def XorLostUptoSaid : Prop := xorLostUptoRow.holds Try.pinned (OpenSpec.upto xorLostSpec)

end Rows
end Go.Proofs.Ytgpgjbdjjanhaaa
