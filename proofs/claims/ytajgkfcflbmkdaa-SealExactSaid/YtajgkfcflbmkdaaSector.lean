/-
  What an argument that is a sector is, read off the row's own words: two integers, a slice of bytes. Conditions: none.
-/
import Derived.Test.YtajgkfcflbmkdaaProg
import Derived.Test.YtajgkfcflbmkdaaSlices
import Derived.Lib.SmallJoins
namespace Go.Proofs.Ytajgkfcflbmkdaa
open Go.RowKit Go.ChangeShapes Go.WideShapes Go.ChangeAt Go.Joins

theorem open_sector {H : Type} {enc : TypeId × Value → H} {W : World} {v : Value} {d : DataW H} {p : List MemPlace} {base : Nat}
    (hv : Value.okWide Try.prog W .any base 24 v) (h : DataW.Trod enc Try.prog W 0 (fun _ => true) true 24 v d p) :
    ∃ (a s : Int) (A : Option Addr) (c : Nat) (l : List UInt8), v = .agg #[.int .i64 a, .int .i64 s, .slice A l.length c] ∧ (Lit.int .i64 a).wf = true ∧ (Lit.int .i64 s).wf = true ∧ l.length ≤ c ∧ c ≤ maxLen ∧ Sl W W.heap.size A l := by
  obtain ⟨v0, v1, v2, y0, y1, y2, n, rfl, -, -, h0, h1, h2⟩ := open_agg3 Try.underlying24 (by kernel_rfl) (by kernel_rfl) hv h
  obtain ⟨a, e0, -, wa⟩ := DataW.trod_int Try.underlying3 h0
  obtain ⟨s, e1, -, ws⟩ := DataW.trod_int Try.underlying3 h1
  obtain ⟨r, e2, hl, hm, hs⟩ := bytes_cells Try.underlying22 Try.underlying5 (by kernel_rfl) h2
  obtain rfl : v0 = _ := by simpa using e0
  obtain rfl : v1 = _ := by simpa using e1
  subst e2
  exact ⟨a, s, r.A, r.c, r.l, rfl, wa, ws, hl, hm, hs⟩
end Go.Proofs.Ytajgkfcflbmkdaa
