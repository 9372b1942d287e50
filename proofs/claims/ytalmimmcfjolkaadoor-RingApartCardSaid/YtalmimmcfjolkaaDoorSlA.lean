/-
  The library's Concat of byte strings, and package seal's Make, each by its contract. Conditions: byte strings shorter than 2^20.
-/
import Derived.Test.YtalmimmcfjolkaaDoorSlMath
import Derived.Test.YtalmimmcfjolkaaDoorGSum
import Derived.Test.YtalmimmcfjolkaaDoorGPk
import Derived.Test.YtalmimmcfjolkaaDoorSlices
import Derived.Lib.AppendZerosOnto
import Derived.Deep.RegionHeld3
namespace Go.Proofs.YtalmimmcfjolkaaDoor.sel
open Go.RowKit Go.Lib
open Go.Proofs.YtalmimmcfjolkaaDoor.pck (Put AllFit Rowed bytesOf le le_length Fits own_far)

theorem bl (w : World) (o : Obj) : Below w.heap.size w (w.alloc o) := (Below.refl _ _).alloc (Nat.le_refl _) o
/-- append of k noughts onto nil. -/
theorem grow_run (k : Nat) (ty : TypeId) (w : World) (h0 : 0 < k) (hk : k ≤ 1048576) :
    ∃ (cap : Nat) (cur : Array Value), cap ≤ maxLen ∧ cur.size = cap ∧ (Builtin.append_ #[54, 3] ty #[.slice none 0 0, .int .i64 (k : Int)]).run Tryd.prog w = .ok (.slice (some ⟨w.heap.size, 0, none⟩) k cap) (w.drew.alloc (.cells cur 5)) := by
  obtain ⟨ht, _, i, hi, hz, h1, hb⟩ := t8
  have hr := run_append_grow_zeros (P := Tryd.prog) w 54 3 ty 5 i (.int .u8 0) .i64 .i64 ht Tryd.underlying3 hi hz none 0 0 [] (run_firstCells_none w.drew i.size 0 0 0) k h0 (by omega) (by omega) (by omega) (by rw [hb]; omega) (growslice_fits (by omega) (by rw [hb]; omega))
  rw [Nat.zero_add] at hr
  have hge := grownCap_ge w k 0 5
  refine ⟨_, _, grownCap_le_maxLen w k 0 5 (by unfold maxLen; omega), ?_, hr⟩
  have hz1 : (Value.int .u8 0).cells.size = 1 := rfl
  simp [size_zeroCells, hz1]
  omega
/-- All rows, one behind the other. -/
def flats (rs : List Row) : List UInt8 := rs.flatMap Row.l
theorem flats_next (rs : List Row) (k : Nat) (h : k < rs.length) : flats (rs.take (k + 1)) = flats (rs.take k) ++ (rs[k]).l := by
  unfold flats
  rw [List.take_succ_eq_append_getElem h, List.flatMap_append]
  simp
theorem flats_take_le (rs : List Row) (k : Nat) : (flats (rs.take k)).length ≤ (flats rs).length := by
  conv => rhs; rw [← List.take_append_drop k rs]
  unfold flats
  rw [List.flatMap_append, List.length_append]
  omega
end Go.Proofs.YtalmimmcfjolkaaDoor.sel
