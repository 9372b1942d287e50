/-
  The document's bytes of a table. Conditions: entries that are right.
-/
import Derived.Test.YtajjmllolaajoaaTbR
import Derived.Test.YtajjmllolaajoaaPkD
namespace Go.Proofs.Ytajjmllolaajoaa.tbl
open Go.RowKit Go.Lib
open Go.Proofs.Ytajjmllolaajoaa.gmt (Ok five_new)
open Go.Proofs.Ytajjmllolaajoaa.pck (le num le_length)
open Go.Proofs.Ytajjmllolaajoaa.anc (flat_get flat_len slv_cell bl kal kst ks bm ka take_same take_other row_form row_below)

/-- Bytes of one's own, q of them. -/
def BytQ (base q : Nat) (l : List UInt8) (e : Ending) (w' : World) : Prop := ∃ (X : Option Addr) (c : Nat), e = .returned (.slice X q c) ∧ l.length = q ∧ Own w' base 5 (.slice X q c) l
theorem own_sl {W : World} {base q x : Nat} {e : TypeId} {X : Option Addr} {l : List UInt8} (h : Own W base e (.slice X q x) l) : Sl W W.heap.size X l := by
  obtain ⟨A, c, hv, -, -, hs, -⟩ := h.form
  simp only [Value.slice.injEq] at hv
  rw [hv.1]
  exact hs
end Go.Proofs.Ytajjmllolaajoaa.tbl
