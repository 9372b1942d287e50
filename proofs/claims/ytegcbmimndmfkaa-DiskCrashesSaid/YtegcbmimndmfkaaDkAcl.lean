/-
  The law DiskCrashes. No condition.
-/
import Derived.Test.YtegcbmimndmfkaaDkAc
namespace Go.Proofs.Ytegcbmimndmfkaa.dsk
open Go.RowKit Go.Lib Go.ChangeShapes Go.WideShapes Go.ChangeAt Go.Joins

set_option maxRecDepth 100000 in
theorem crashes_long (n : Int) (A : Option Addr) (c q : Nat) (w : World) (h : 100 < q) :
    Calls Try.prog 4 #[.int .i64 n, .slice A q c] w fun e w' => e = .returned (.bool true) ∧ Below w.heap.size w w' := by
  have i1 : 100 < (q : Int) := by omega
  go_enter Try.func4, Try.ntmps4
  go_wp2
  go_ret
  exact ⟨rfl, Below.refl _ _⟩
theorem crashes_law (n : Int) (A : Option Addr) (c q : Nat) (f : Nat → ActR) (w : World) (hA : Acts w A q f) :
    Calls Try.prog 4 #[.int .i64 n, .slice A q c] w fun e w' => e = .returned (.bool true) ∧ Below w.heap.size w w' := by
  by_cases h1 : 100 < q
  · exact crashes_long n A c q w h1
  exact crashes_go n A c q f w hA (by omega)
section
variable {H : Type} {enc : TypeId × Value → H} {W : World}
theorem arg_acts {v : Value} {d : DataW H} {p : List MemPlace} {base : Nat} (hv : Value.okWide Try.prog W .any base 53 v) (h : DataW.Trod enc Try.prog W 0 (fun _ => true) true 53 v d p) :
    ∃ A n c f, v = .slice A n c ∧ n ≤ c ∧ c ≤ maxLen ∧ Acts W A n f := by
  obtain ⟨a, len, cap, rfl⟩ := okWide_slice Try.underlying53 hv
  obtain ⟨fuel, hf⟩ := h
  exact open_acts (show DataW.trod enc Try.prog W 0 (fun _ => true) true fuel 53 [.slice a len cap] = some _ from hf)
end
end Go.Proofs.Ytegcbmimndmfkaa.dsk
