/-
  anchor.firstHome, First: a new home, a new anchor. Each by its contract. Conditions: what label.Check answers is given; a label shorter than 2^47 bytes.
  anchor.First: a new volume's anchor, by its contract. Conditions: what label.Check and strings.Clone answer is given.
-/
import Derived.Test.YtbfdpibjicjagaaGreatDoorGAc
import Derived.Test.YtbfdpibjicjagaaGreatDoorAnF
import Derived.Test.YtbfdpibjicjagaaGreatDoorGLb
namespace Go.Proofs.YtbfdpibjicjagaaGreatDoor.anc
open Go.RowKit Go.Lib
open Go.Proofs.YtbfdpibjicjagaaGreatDoor.gmt (Ok five_new check_ok check_no)
theorem Tri.apart {W : World} {g : Nat} {a0 a1 a2 : Value} (h : Tri W g a0 a1 a2) {g' o : Nat} (hne : g ≠ g') (v : Value) : Tri (W.setCell ⟨g', o, none⟩ v) g a0 a1 a2 := by
 have hn : ∀ i, (⟨g, i, none⟩ : Addr) ≠ ⟨g', o, none⟩ := fun i h => hne (congrArg Addr.block h)
 refine ⟨?_, ?_, ?_, ?_, ?_, ?_⟩
 ·rw [World.cell?_setCell_other _ _ _ _ (hn _).symm]; exact h.c0
 ·rw [World.cell?_setCell_other _ _ _ _ (hn _).symm]; exact h.c1
 ·rw [World.cell?_setCell_other _ _ _ _ (hn _).symm]; exact h.c2
 ·rw [World.frozen?_setCell]; exact h.f0
 ·rw [World.frozen?_setCell]; exact h.f1
 ·rw [World.frozen?_setCell]; exact h.f2
end Go.Proofs.YtbfdpibjicjagaaGreatDoor.anc
namespace Go.Proofs.YtbfdpibjicjagaaGreatDoor.anc
open Go.RowKit Go.Lib
open Go.Proofs.YtbfdpibjicjagaaGreatDoor.gmt (Ok five_new check_ok check_no)
end Go.Proofs.YtbfdpibjicjagaaGreatDoor.anc
