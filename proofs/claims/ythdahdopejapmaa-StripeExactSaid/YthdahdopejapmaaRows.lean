/-
  No cell of these rows narrows 'for every input' (looked for: loops, veiled, ifaces, maps, wideKeys, modest, calm, conditions, laid).
  DERIVED. THE GIVEN ROWS OF THIS SEAT. 5 by the template 'for every input the law returns true; each argument reads behind the call as it read before'; 0 by the template 'total and deterministic' (their statements: YthdahdopejapmaaTotals.lean).
  GIVEN WITH THE SEED: the statements are not yours to turn. If you find one false, say at which input.
  Laid BY PROGRAM, IN A SANDBOX (cutbox-rows.mjs): the forced cells as the released guide's own fill.sh prints them over the translation e08075e4ece9e504… (all of the seat's roots in one cut). By AI agents, Wed Nov 11 2026. No macro, syntax, notation, axiom, sorry.
-/
import Derived.Test.YthdahdopejapmaaChecked
import GoSem.Claim
import GoSem.ClaimJoined
import GoSem.ClaimMapViews
import Derived.JoinedTies
import Derived.KernelRfl
namespace Go.Proofs.Ythdahdopejapmaa
/- THE CELL 'sum', in the pinned program and in every row, IS THE sha256 OF THE DUMP (.gsa) THAT YthdahdopejapmaaProg.lean LOADS. Nothing in Lean hashes anything: it is a label: what it is worth is what the hold of that sum in a sandbox is worth. -/
noncomputable def Try.pinned : Pinned := { name := "ythdahdopejapmaa", sum := "e08075e4ece9e504f8c87284c86d35438bf26e5e090d0862550351ae088d6004", checked := Try.checked }
namespace Rows
def none {H : Type} : Left H := { results := [], args := [] }

/-- 'casematelaw14.StripeExact': WHATEVER THE INPUT: true; the input reads as it did. -/
def stripeExactSpec : ChangeSpec := { name := "stripeExact", fn := fun _ => fun
  | [d1, d2, d3, d4, d5, d6, d7, d8] => { results := [.lit (.bool true)], args := [d1, d2, d3, d4, d5, d6, d7, d8] }
  | _ => none }
def stripeExactRow : OpenClaim := { program := "ythdahdopejapmaa", sum := "e08075e4ece9e504f8c87284c86d35438bf26e5e090d0862550351ae088d6004", func := "casemate/casematelaw14.StripeExact", spec := "stripeExact", unfollowed := true, recurses := true, apart := false }
def StripeExactSaid : Prop := stripeExactRow.holds Try.pinned (OpenSpec.ofChange stripeExactSpec)

/-- ITS FALSE NEIGHBOUR: 'it returns false'. Refute it at one input. -/
def stripeExactWrong : ChangeSpec := { name := "stripeExact", fn := fun _ => fun
  | [d1, d2, d3, d4, d5, d6, d7, d8] => { results := [.lit (.bool false)], args := [d1, d2, d3, d4, d5, d6, d7, d8] }
  | _ => none }
def StripeExactWrongFalsely : Prop := stripeExactRow.holds Try.pinned (OpenSpec.ofChange stripeExactWrong)

/-- 'casematelaw14.StripeKnown': WHATEVER THE INPUT: true; the input reads as it did. -/
def stripeKnownSpec : ChangeSpec := { name := "stripeKnown", fn := fun _ => fun
  | [d1, d2, d3, d4, d5, d6, d7, d8] => { results := [.lit (.bool true)], args := [d1, d2, d3, d4, d5, d6, d7, d8] }
  | _ => none }
def stripeKnownRow : OpenClaim := { program := "ythdahdopejapmaa", sum := "e08075e4ece9e504f8c87284c86d35438bf26e5e090d0862550351ae088d6004", func := "casemate/casematelaw14.StripeKnown", spec := "stripeKnown", unfollowed := true, recurses := true, apart := false }
def StripeKnownSaid : Prop := stripeKnownRow.holds Try.pinned (OpenSpec.ofChange stripeKnownSpec)

/-- ITS FALSE NEIGHBOUR: 'it returns false'. Refute it at one input. -/
def stripeKnownWrong : ChangeSpec := { name := "stripeKnown", fn := fun _ => fun
  | [d1, d2, d3, d4, d5, d6, d7, d8] => { results := [.lit (.bool false)], args := [d1, d2, d3, d4, d5, d6, d7, d8] }
  | _ => none }
def StripeKnownWrongFalsely : Prop := stripeKnownRow.holds Try.pinned (OpenSpec.ofChange stripeKnownWrong)

/-- 'casematelaw14.StripeStays': WHATEVER THE INPUT: true; the input reads as it did. -/
def stripeStaysSpec : ChangeSpec := { name := "stripeStays", fn := fun _ => fun
  | [d1, d2, d3, d4, d5, d6] => { results := [.lit (.bool true)], args := [d1, d2, d3, d4, d5, d6] }
  | _ => none }
def stripeStaysRow : OpenClaim := { program := "ythdahdopejapmaa", sum := "e08075e4ece9e504f8c87284c86d35438bf26e5e090d0862550351ae088d6004", func := "casemate/casematelaw14.StripeStays", spec := "stripeStays", unfollowed := true, recurses := true, apart := false }
def StripeStaysSaid : Prop := stripeStaysRow.holds Try.pinned (OpenSpec.ofChange stripeStaysSpec)

/-- ITS FALSE NEIGHBOUR: 'it returns false'. Refute it at one input. -/
def stripeStaysWrong : ChangeSpec := { name := "stripeStays", fn := fun _ => fun
  | [d1, d2, d3, d4, d5, d6] => { results := [.lit (.bool false)], args := [d1, d2, d3, d4, d5, d6] }
  | _ => none }
def StripeStaysWrongFalsely : Prop := stripeStaysRow.holds Try.pinned (OpenSpec.ofChange stripeStaysWrong)

/-- 'casematelaw14.StripeTwice': WHATEVER THE INPUT: true; the input reads as it did. -/
def stripeTwiceSpec : ChangeSpec := { name := "stripeTwice", fn := fun _ => fun
  | [d1, d2, d3, d4, d5, d6] => { results := [.lit (.bool true)], args := [d1, d2, d3, d4, d5, d6] }
  | _ => none }
def stripeTwiceRow : OpenClaim := { program := "ythdahdopejapmaa", sum := "e08075e4ece9e504f8c87284c86d35438bf26e5e090d0862550351ae088d6004", func := "casemate/casematelaw14.StripeTwice", spec := "stripeTwice", unfollowed := true, recurses := true, apart := false }
def StripeTwiceSaid : Prop := stripeTwiceRow.holds Try.pinned (OpenSpec.ofChange stripeTwiceSpec)

/-- ITS FALSE NEIGHBOUR: 'it returns false'. Refute it at one input. -/
def stripeTwiceWrong : ChangeSpec := { name := "stripeTwice", fn := fun _ => fun
  | [d1, d2, d3, d4, d5, d6] => { results := [.lit (.bool false)], args := [d1, d2, d3, d4, d5, d6] }
  | _ => none }
def StripeTwiceWrongFalsely : Prop := stripeTwiceRow.holds Try.pinned (OpenSpec.ofChange stripeTwiceWrong)

/-- 'casematelaw14.StripeImages': WHATEVER THE INPUT: true; the input reads as it did. -/
def stripeImagesSpec : ChangeSpec := { name := "stripeImages", fn := fun _ => fun
  | [d1, d2, d3, d4, d5, d6] => { results := [.lit (.bool true)], args := [d1, d2, d3, d4, d5, d6] }
  | _ => none }
def stripeImagesRow : OpenClaim := { program := "ythdahdopejapmaa", sum := "e08075e4ece9e504f8c87284c86d35438bf26e5e090d0862550351ae088d6004", func := "casemate/casematelaw14.StripeImages", spec := "stripeImages", unfollowed := true, recurses := true, apart := false }
def StripeImagesSaid : Prop := stripeImagesRow.holds Try.pinned (OpenSpec.ofChange stripeImagesSpec)

/-- ITS FALSE NEIGHBOUR: 'it returns false'. Refute it at one input. -/
def stripeImagesWrong : ChangeSpec := { name := "stripeImages", fn := fun _ => fun
  | [d1, d2, d3, d4, d5, d6] => { results := [.lit (.bool false)], args := [d1, d2, d3, d4, d5, d6] }
  | _ => none }
def StripeImagesWrongFalsely : Prop := stripeImagesRow.holds Try.pinned (OpenSpec.ofChange stripeImagesWrong)

/- THE SECOND FORM. 'bulk': how many values and letters a reading holds, each counted each time it is reached (what is shared counts as often as it is met; a slice's spare places count too). A statement '..UptoSaid' is the law's where the arguments, and the package variables that the reading takes, are together of bulk at most 1048576: NARROWER than '..Said'. Prove '..Said' where nothing that the law and all that it calls make is longer than what came in: it says more and counts as full. Else prove '..UptoSaid'. A law counts once. -/
mutual
def uptoBulk {H : Type} : DataW H → Nat
  | .lit (.string bytes) => bytes.length + 1
  | .lit _ => 1
  | .nil => 1
  | .ptr d => uptoBulk d + 1
  | .slice elems spare => uptoBulkAll elems + uptoBulkAll spare + 1
  | .agg parts => uptoBulkAll parts + 1
  | .iface _ d => uptoBulk d + 1
  | .map entries => uptoBulkEntries entries + 1
  | .held _ => 1
def uptoBulkAll {H : Type} : List (DataW H) → Nat
  | [] => 0
  | d :: r => uptoBulk d + uptoBulkAll r
def uptoBulkEntries {H : Type} : List (Lit × DataW H) → Nat
  | [] => 0
  | x :: r => uptoBulkEntry x + uptoBulkEntries r
def uptoBulkEntry {H : Type} : Lit × DataW H → Nat
  | (.string bytes, d) => bytes.length + uptoBulk d + 1
  | (_, d) => uptoBulk d + 1
 end
def uptoSmall : (H : Type) → List (DataW H) → Bool := fun _ ds => decide (uptoBulkAll ds ≤ 1048576)
def OpenSpec.upto (s : _root_.Go.ChangeSpec) : _root_.Go.OpenSpec := { _root_.Go.OpenSpec.ofChange s with cond := some uptoSmall }

/-- 'casematelaw14.StripeExact', WHERE WHAT IT READS IS OF BULK AT MOST 1048576: true; the input reads as it did. -/
def stripeExactUptoRow : OpenClaim := { program := "ythdahdopejapmaa", sum := "e08075e4ece9e504f8c87284c86d35438bf26e5e090d0862550351ae088d6004", func := "casemate/casematelaw14.StripeExact", spec := "stripeExact", unfollowed := true, recurses := true, apart := false, narrowed := true }
def StripeExactUptoSaid : Prop := stripeExactUptoRow.holds Try.pinned (OpenSpec.upto stripeExactSpec)

/-- 'casematelaw14.StripeKnown', WHERE WHAT IT READS IS OF BULK AT MOST 1048576: true; the input reads as it did. -/
def stripeKnownUptoRow : OpenClaim := { program := "ythdahdopejapmaa", sum := "e08075e4ece9e504f8c87284c86d35438bf26e5e090d0862550351ae088d6004", func := "casemate/casematelaw14.StripeKnown", spec := "stripeKnown", unfollowed := true, recurses := true, apart := false, narrowed := true }
def StripeKnownUptoSaid : Prop := stripeKnownUptoRow.holds Try.pinned (OpenSpec.upto stripeKnownSpec)

/-- 'casematelaw14.StripeStays', WHERE WHAT IT READS IS OF BULK AT MOST 1048576: true; the input reads as it did. -/
def stripeStaysUptoRow : OpenClaim := { program := "ythdahdopejapmaa", sum := "e08075e4ece9e504f8c87284c86d35438bf26e5e090d0862550351ae088d6004", func := "casemate/casematelaw14.StripeStays", spec := "stripeStays", unfollowed := true, recurses := true, apart := false, narrowed := true }
def StripeStaysUptoSaid : Prop := stripeStaysUptoRow.holds Try.pinned (OpenSpec.upto stripeStaysSpec)

/-- 'casematelaw14.StripeTwice', WHERE WHAT IT READS IS OF BULK AT MOST 1048576: true; the input reads as it did. -/
def stripeTwiceUptoRow : OpenClaim := { program := "ythdahdopejapmaa", sum := "e08075e4ece9e504f8c87284c86d35438bf26e5e090d0862550351ae088d6004", func := "casemate/casematelaw14.StripeTwice", spec := "stripeTwice", unfollowed := true, recurses := true, apart := false, narrowed := true }
def StripeTwiceUptoSaid : Prop := stripeTwiceUptoRow.holds Try.pinned (OpenSpec.upto stripeTwiceSpec)

/-- 'casematelaw14.StripeImages', WHERE WHAT IT READS IS OF BULK AT MOST 1048576: true; the input reads as it did. -/
def stripeImagesUptoRow : OpenClaim := { program := "ythdahdopejapmaa", sum := "e08075e4ece9e504f8c87284c86d35438bf26e5e090d0862550351ae088d6004", func := "casemate/casematelaw14.StripeImages", spec := "stripeImages", unfollowed := true, recurses := true, apart := false, narrowed := true }
def StripeImagesUptoSaid : Prop := stripeImagesUptoRow.holds Try.pinned (OpenSpec.upto stripeImagesSpec)

end Rows
end Go.Proofs.Ythdahdopejapmaa
