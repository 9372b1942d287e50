/-
  The law DiskExact. No condition.
-/
import Derived.Test.YtegcbmimndmfkaaDkEx
import Derived.Test.YtegcbmimndmfkaaDiskArg
namespace Go.Proofs.Ytegcbmimndmfkaa.dsk
open Go.RowKit Go.Lib

theorem exact_law (d : DV) (a keep kind fr bit : Int) (A : Option Addr) (c : Nat) (l : List UInt8) (w : World) (hx : d.In w w.heap.size) (hl : Sl w w.heap.size A l) (hc : l.length ≤ c) (hm : c ≤ maxLen) (hkm : keep ≤ 9223372036854775807) :
    Calls Try.prog 3 #[d.v, .int .i64 a, .slice A l.length c, .int .i64 keep, .int .i64 kind, .int .i64 fr, .int .i64 bit] w fun e w' => e = .returned (.bool true) ∧ Below w.heap.size w w' :=
  exact_go d a keep kind fr bit ⟨A, c, l⟩ w hx ⟨hl, hc, hm⟩ hkm
end Go.Proofs.Ytegcbmimndmfkaa.dsk
