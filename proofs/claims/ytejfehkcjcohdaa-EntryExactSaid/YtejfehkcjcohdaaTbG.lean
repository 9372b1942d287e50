/-
  Package table: Lost. Conditions: a right geometry, a right table.
-/
import Derived.Test.YtejfehkcjcohdaaTbF
import Derived.Deep.RegionHeld3
namespace Go.Proofs.Ytejfehkcjcohdaa.tbl
open Go.RowKit Go.Lib
open Go.Proofs.Ytejfehkcjcohdaa.gmt (Ok five_new check_ok check_no)
open Go.Proofs.Ytejfehkcjcohdaa.anc (flat_get flat_len slv_cell bl kal kst ks bm ka row_form row_below)

theorem lostN_yes {es : List Ent} {k : Nat} {e : Ent} (h : es[k]? = some e) (hl : e.ls = true) : lostN es (k + 1) = lostN es k ++ [(k : Int)] := by
  rw [lostN, h]
  simp [hl]
theorem lostN_not {es : List Ent} {k : Nat} {e : Ent} (h : es[k]? = some e) (hl : e.ls = false) : lostN es (k + 1) = lostN es k := by
  rw [lostN, h]
  simp [hl]
end Go.Proofs.Ytejfehkcjcohdaa.tbl
