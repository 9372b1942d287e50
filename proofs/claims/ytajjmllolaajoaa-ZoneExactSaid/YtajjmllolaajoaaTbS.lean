/-
  The document's new table. Conditions: a right geometry.
-/
import Derived.Test.YtajjmllolaajoaaTbR
namespace Go.Proofs.Ytajjmllolaajoaa.tbl
open Go.RowKit Go.Lib
open Go.Proofs.Ytajjmllolaajoaa.gmt (Ok five_new)
open Go.Proofs.Ytajjmllolaajoaa.anc (flat_get flat_len slv_cell bl kal kst ks bm ka take_same take_other row_form row_below wpList_row src_home step_row)

def zer8 : List UInt8 := List.replicate 8 0
/-- A new table's entry. -/
def newE : Ent := ⟨0, (crc.sum zer8 : Nat), false⟩
def z8cells : Array Value := madeCells #[.int .u8 0] 8
theorem z8_run (W : World) : (Instr.makeSlice 31 (.int .i64 8) (.int .i64 8)).run Try.prog W = .ok (.slice (some ⟨W.heap.size, 0, none⟩) 8 8) (W.alloc (.cells z8cells 5)) := by
  obtain ⟨ht, _, i, hi, hz, h1, hb8⟩ := t8
  have hr := run_make (P := Try.prog) W 31 5 i (.int .u8 0) ht hi hz .i64 .i64 8 8 (by omega) (by omega) (by rw [hb8]; omega) (by omega)
  simpa [h1, z8cells, Value.cells] using hr
theorem zn_list (n : Nat) : (madeCells #[.int .u8 0] n).toList = cells8 (List.replicate n 0) := by
  unfold madeCells cells8
  apply List.ext_getElem
  · simp
  · intro i h2 h3
    simp [by8, Nat.mod_one]
theorem z8_list : z8cells.toList = cells8 zer8 := zn_list 8
theorem z8_sl (W : World) : Sl (W.alloc (.cells z8cells 5)) (W.alloc (.cells z8cells 5)).heap.size (some ⟨W.heap.size, 0, none⟩) zer8 := Sl.of_block (heap_alloc_new W _) z8_list (by simp)
end Go.Proofs.Ytajjmllolaajoaa.tbl
