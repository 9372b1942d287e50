/-
  The law TableExact, whatever its arguments. Conditions: 'Ctt'.
-/
import Derived.Test.YtldknkikekaifaaTbLD
namespace Go.Proofs.Ytldknkikekaifaa.tbl
open Go.RowKit Go.Lib
theorem tableExact_law (z d s l a : Int) (x : TV) (A : Option Addr) (m cap : Nat) (b : List UInt8) (w : World) (hc : Ctt w) (hx : x.In w w.heap.size) (hbm : b.length = m) (hcap : m ≤ cap) (hmax : cap ≤ maxLen) (hA : Sl w w.heap.size A b) :
    Calls Try.prog 3 #[.agg #[.int .i64 z, .int .i64 d, .int .i64 s, .int .i64 l, .int .i64 a], x.v, .slice A m cap] w fun e w' => e = .returned (.bool true) ∧ Below w.heap.size w w' := by
  by_cases h1 : 20 < x.es.length
  · exact te_long z d s l a x _ A m cap w rfl h1
  by_cases h2 : 300 < m
  · exact te_long2 z d s l a x _ A m cap w rfl (by omega) h2
  exact te_go z d s l a x _ A m cap b w rfl hc hx (by omega) hbm (by omega) hcap hmax hA
end Go.Proofs.Ytldknkikekaifaa.tbl
