/-
  Rows of integers: what they are as cells; package casematekeep's comparing and copying of them. Conditions: rows shorter than 2^20.
-/
import Derived.Test.YtbfdpibjicjagaaGreatDoorKeep
import Derived.Test.YtbfdpibjicjagaaGreatDoorOpen
import Derived.Test.YtbfdpibjicjagaaGreatDoorSlices
namespace Go.Proofs.YtbfdpibjicjagaaGreatDoor
open Go.RowKit Go.Lib
def ints (l : List Int) : List Value := l.map (Value.int .i64)
theorem ints_length (l : List Int) : (ints l).length = l.length := by simp [ints]
theorem ints_get (l : List Int) (j : Nat) (h : j < (ints l).length) : (ints l)[j] = .int .i64 (l[j]'(by rwa [ints_length] at h)) := by simp [ints]
theorem ints_append (a b : List Int) : ints (a ++ b) = ints a ++ ints b := by simp [ints]
theorem ints_one (l : List Int) : ∀ u ∈ ints l, u.oneCell' = true := by
 intro u hu
 obtain ⟨_, _, rfl⟩ := List.mem_map.1 hu
 rfl
theorem SlK.slv {w : World} {B : Nat} {A : Option Addr} {l : List Int} (h : SlK .i64 w B A l) : SlV w B A (ints l) := fun hl => by
 rw [ints_length] at hl
 obtain ⟨b, off, hA, hb, hc⟩ := h hl
 refine ⟨b, off, hA, hb, fun j hj => ?_⟩
 rw [ints_length] at hj
 rw [hc j hj, ints_get]
theorem i_info : (Tryz.prog.info? 3).map (fun i => (i.zero, i.size, i.bytes)) = some (some (.int .i64 0), 1, 8) := by kernel_rfl
theorem tvI : TV Tryz.prog 43 3 (.int .i64 0) 8 := by
 refine ⟨Tryz.underlying43, rfl, ?_⟩
 have h := i_info
 cases hi : Tryz.prog.info? 3 with
 | none => rw [hi] at h; cases h
 | some i =>
  rw [hi] at h
  simp only [Option.map_some, Option.some.injEq, Prod.mk.injEq] at h
  exact ⟨i, rfl, h.1, h.2.1, h.2.2⟩
end Go.Proofs.YtbfdpibjicjagaaGreatDoor
