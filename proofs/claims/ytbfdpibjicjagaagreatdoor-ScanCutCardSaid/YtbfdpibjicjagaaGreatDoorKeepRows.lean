/-
  Package casematekeep, as far as it is about lists of byte strings: Rows tells whether they are the same, TwinRows copies. Conditions: lists and byte strings shorter than 2^20.
-/
import Derived.Test.YtbfdpibjicjagaaGreatDoorKeep
import Derived.Test.YtbfdpibjicjagaaGreatDoorSlices
import Derived.Deep.RegionHeld3
namespace Go.Proofs.YtbfdpibjicjagaaGreatDoor
open Go.RowKit Go.Lib
theorem own_apart {w : World} {base base' : Nat} {e e' : TypeId} {v v' : Value} {l : List UInt8} {vs : List Value} (h : Own w base e v l) (k : OwnV w base' e' v' vs) (he : e ≠ e') : v.ownBlock = none ∨ v.ownBlock ≠ v'.ownBlock := by
 rcases h.2 with ⟨rfl, _⟩ | ⟨g, cap, cur, rfl, _, hg, _⟩
 ·exact .inl rfl
 ·right
  rcases k.2 with ⟨rfl, _⟩ | ⟨g', cap', cur', rfl, _, hg', _⟩
  ·simp [Value.ownBlock]
  ·intro hh
   simp only [Value.ownBlock, Option.some.injEq] at hh
   subst hh
   rw [hg] at hg'
   simp only [Option.some.injEq, Obj.cells.injEq] at hg'
   exact he hg'.2.1
end Go.Proofs.YtbfdpibjicjagaaGreatDoor
