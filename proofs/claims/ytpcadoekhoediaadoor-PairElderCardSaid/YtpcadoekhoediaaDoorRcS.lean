/-
  The document's own answer: is an image right (Image), a record (Rec). Conditions: a right geometry.
-/
import Derived.Test.YtpcadoekhoediaaDoorRcK
import Derived.Test.YtpcadoekhoediaaDoorGTa
import Derived.Test.YtpcadoekhoediaaDoorRcP
namespace Go.Proofs.YtpcadoekhoediaaDoor.lrc
open Go.RowKit Go.Lib
open Go.Proofs.YtpcadoekhoediaaDoor.gmt (Ok)
open Go.Proofs.YtpcadoekhoediaaDoor.anc (bl kal kst ks bm ka)
open Go.Proofs.YtpcadoekhoediaaDoor.tbl (C1 c1_new G5 g5_new)
open Go.Proofs.YtpcadoekhoediaaDoor.img

theorem bool_of (P : Prop) : ∃ b : Bool, b = true ↔ P := by
  by_cases h : P
  · exact ⟨true, iff_of_true rfl h⟩
  · exact ⟨false, iff_of_false Bool.false_ne_true h⟩
end Go.Proofs.YtpcadoekhoediaaDoor.lrc
