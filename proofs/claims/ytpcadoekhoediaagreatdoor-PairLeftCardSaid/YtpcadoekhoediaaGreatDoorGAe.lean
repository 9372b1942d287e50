/-
  anchor.firstHome, First: a new home, a new anchor. Each by its contract. Conditions: what label.Check answers is given; a label shorter than 2^47 bytes.
  anchor.First: a new volume's anchor, by its contract. Conditions: what label.Check and strings.Clone answer is given.
-/
import Derived.Test.YtpcadoekhoediaaGreatDoorGAc
import Derived.Test.YtpcadoekhoediaaGreatDoorAnF
import Derived.Test.YtpcadoekhoediaaGreatDoorGLb
namespace Go.Proofs.YtpcadoekhoediaaGreatDoor.anc
open Go.RowKit Go.Lib
open Go.Proofs.YtpcadoekhoediaaGreatDoor.gmt (Ok five_new check_ok check_no)

theorem Tri.apart {W : World} {g : Nat} {a0 a1 a2 : Value} (h : Tri W g a0 a1 a2) {g' o : Nat} (hne : g ≠ g') (v : Value) : Tri (W.setCell ⟨g', o, none⟩ v) g a0 a1 a2 := by
  have hn : ∀ i, (⟨g, i, none⟩ : Addr) ≠ ⟨g', o, none⟩ := fun i h => hne (congrArg Addr.block h)
  refine ⟨?_, ?_, ?_, ?_, ?_, ?_⟩
  · rw [World.cell?_setCell_other _ _ _ _ (hn _).symm]; exact h.c0
  · rw [World.cell?_setCell_other _ _ _ _ (hn _).symm]; exact h.c1
  · rw [World.cell?_setCell_other _ _ _ _ (hn _).symm]; exact h.c2
  · rw [World.frozen?_setCell]; exact h.f0
  · rw [World.frozen?_setCell]; exact h.f1
  · rw [World.frozen?_setCell]; exact h.f2
/-- What firstHome answers. -/
def FirstH (base D : Nat) (e : Ending) (w' : World) : Prop := ∃ A c, e = .returned (.agg #[.slice A (D + 1) c, .int .i64 ((D : Int) + 1), .int .i64 0]) ∧ OwnV w' base 3 (.slice A (D + 1) c) (ints (upto (D + 1)))
end Go.Proofs.YtpcadoekhoediaaGreatDoor.anc

namespace Go.Proofs.YtpcadoekhoediaaGreatDoor.anc
open Go.RowKit Go.Lib
open Go.Proofs.YtpcadoekhoediaaGreatDoor.gmt (Ok five_new check_ok check_no)

/-- No anchor. -/
def noAV : AV := ⟨0, 0, 0, 0, 0, ⟨#[]⟩, none, 0, []⟩
theorem noAV_own (w : World) (base : Nat) : noAV.Own w base := ownH_nil w base
theorem noAV_d : noAV.d = noAnc := rfl
/-- What an anchor's maker answers: an anchor of one's own, and an error's number. -/
def AnsA (base : Nat) (x : Anc) (n : Int) (e : Ending) (w' : World) : Prop := ∃ y : AV, e = .returned (.tuple #[y.v, .int .i64 n]) ∧ y.d = x ∧ y.Own w' base

end Go.Proofs.YtpcadoekhoediaaGreatDoor.anc
