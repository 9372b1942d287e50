/-
  What table bytes are, by the document. Conditions: a right geometry.
-/
import Derived.Test.YtajjmllolaajoaaTbU
namespace Go.Proofs.Ytajjmllolaajoaa.tbl
open Go.RowKit Go.Lib
open Go.Proofs.Ytajjmllolaajoaa.gmt (Ok five_new)
open Go.Proofs.Ytajjmllolaajoaa.pck (le num le_length num_one)
open Go.Proofs.Ytajjmllolaajoaa.anc (flat_get flat_len slv_cell bl kal kst ks bm ka take_same take_other row_form row_below src_home step_row)

/-- A table that is told, and whether it is one. -/
def RdT (base : Nat) (es : List Ent) (c : Bool) (e : Ending) (w' : World) : Prop := ∃ t : TV, e = .returned (.tuple #[t.v, .bool c]) ∧ t.es = es ∧ t.Own w' base
theorem lost_byte {b : List UInt8} {k : Nat} (h : k * 9 + 8 < b.length) : lostAt b k = b[k * 9 + 8].toNat := by
  unfold lostAt
  have hl : ((b.drop (k * 9 + 8)).take 1).length = 1 := by rw [List.length_take, List.length_drop]; omega
  rw [num_one _ hl]
  congr 1
  rw [List.getElem_take, List.getElem_drop]
end Go.Proofs.Ytajjmllolaajoaa.tbl
