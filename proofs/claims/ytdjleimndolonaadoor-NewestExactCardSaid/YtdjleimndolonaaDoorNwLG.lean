/-
  The law NewestExact, whatever its arguments. Conditions: 'Cts'.
-/
import Derived.Test.YtdjleimndolonaaDoorNwLF
namespace Go.Proofs.YtdjleimndolonaaDoor.nwt
open Go.RowKit Go.Lib
open Go.Proofs.YtdjleimndolonaaDoor.anc (AV HeavyA)
theorem newestExact_law (z d s l a : Int) (A : Option Addr) (n c : Nat) (rs : List GotR) (r : GotR) (addr : Int) (x : AV) (i : Int) (w : World) (hc : Cts w) (hn : rs.length = n) (hA : SlV w w.heap.size A (gvs rs)) (hR : GIn w w.heap.size rs) (hr : BIn w w.heap.size r) (hx : x.In w w.heap.size) :
    Calls Tryd.prog 3 #[.agg #[.int .i64 z, .int .i64 d, .int .i64 s, .int .i64 l, .int .i64 a], .slice A n c, r.v, .int .i64 addr, x.v, .int .i64 i] w fun e w' => e = .returned (.bool true) ∧ Below w.heap.size w w' := by
  by_cases h1 : HeavyG (gds rs)
  · exact ne_heavy z d s l a A n c rs r.e r.A r.l.length r.c r.l addr x i w hn hA hR rfl hr.2.1 hr.2.2 hr.1 hx (.inl h1)
  by_cases h2 : HeavyG [(r.e, r.l)]
  · exact ne_heavy z d s l a A n c rs r.e r.A r.l.length r.c r.l addr x i w hn hA hR rfl hr.2.1 hr.2.2 hr.1 hx (.inr (.inl h2))
  by_cases h3 : HeavyA x.d
  · exact ne_heavy z d s l a A n c rs r.e r.A r.l.length r.c r.l addr x i w hn hA hR rfl hr.2.1 hr.2.2 hr.1 hx (.inr (.inr h3))
  exact ne_good z d s l a A n c rs r.e r.A r.l.length r.c r.l addr x i w hn hA hR rfl hr.2.1 hr.2.2 hr.1 hx hc h1 h2 h3
end Go.Proofs.YtdjleimndolonaaDoor.nwt
