/-
  RecBent: a right image's record is none of another kind, at the commit's place, of one record, of a zone, a block that there is not, with a byte too few. Conditions: 'Crd'.
-/
import Derived.Test.YtpcadoekhoediaaGreatDoorRcQ
import Derived.Test.YtpcadoekhoediaaGreatDoorGGm
import Derived.Test.YtpcadoekhoediaaGreatDoorRcS
namespace Go.Proofs.YtpcadoekhoediaaGreatDoor.lrc
open Go.RowKit Go.Lib
open Go.Proofs.YtpcadoekhoediaaGreatDoor.gmt (Ok)
open Go.Proofs.YtpcadoekhoediaaGreatDoor.anc (bl kal kst ks bm ka)
open Go.Proofs.YtpcadoekhoediaaGreatDoor.tbl (C1 c1_new G5 g5_new)
open Go.Proofs.YtpcadoekhoediaaGreatDoor.img

/-- A record in a box that may be written. -/
structure F8 (W : World) (g : Nat) (a0 a1 a2 a3 a4 a5 a6 a7 : Value) : Prop where
  c : C8 W g a0 a1 a2 a3 a4 a5 a6 a7
  f : ∀ o, W.frozen? ⟨g, o, none⟩ = false
theorem f8_new (w : World) (a0 a1 a2 a3 a4 a5 a6 a7 : Value) (t : TypeId) : F8 (w.alloc (.cells #[a0, a1, a2, a3, a4, a5, a6, a7] t)) w.heap.size a0 a1 a2 a3 a4 a5 a6 a7 := ⟨c8_new w a0 a1 a2 a3 a4 a5 a6 a7 t, fun _ => World.frozen?_alloc_new _ _ _ _⟩
theorem cell_x {W : World} {g o o' : Nat} (v : Value) (h : o' ≠ o) : (W.setCell ⟨g, o, none⟩ v).cell? ⟨g, o', none⟩ = W.cell? ⟨g, o', none⟩ := World.cell?_setCell_other _ _ _ _ (by simp only [ne_eq, Addr.mk.injEq, not_and]; intro _ k; exact absurd k.symm h)
theorem C8.set0 {W : World} {g : Nat} {a0 a1 a2 a3 a4 a5 a6 a7 : Value} (h : C8 W g a0 a1 a2 a3 a4 a5 a6 a7) (v : Value) : C8 (W.setCell ⟨g, 0, none⟩ v) g v a1 a2 a3 a4 a5 a6 a7 := ⟨World.cell?_setCell_same _ _ _ h.c0, (cell_x v (by decide)).trans h.c1, (cell_x v (by decide)).trans h.c2, (cell_x v (by decide)).trans h.c3, (cell_x v (by decide)).trans h.c4, (cell_x v (by decide)).trans h.c5, (cell_x v (by decide)).trans h.c6, (cell_x v (by decide)).trans h.c7⟩
theorem C8.set3 {W : World} {g : Nat} {a0 a1 a2 a3 a4 a5 a6 a7 : Value} (h : C8 W g a0 a1 a2 a3 a4 a5 a6 a7) (v : Value) : C8 (W.setCell ⟨g, 3, none⟩ v) g a0 a1 a2 v a4 a5 a6 a7 := ⟨(cell_x v (by decide)).trans h.c0, (cell_x v (by decide)).trans h.c1, (cell_x v (by decide)).trans h.c2, World.cell?_setCell_same _ _ _ h.c3, (cell_x v (by decide)).trans h.c4, (cell_x v (by decide)).trans h.c5, (cell_x v (by decide)).trans h.c6, (cell_x v (by decide)).trans h.c7⟩
theorem C8.set4 {W : World} {g : Nat} {a0 a1 a2 a3 a4 a5 a6 a7 : Value} (h : C8 W g a0 a1 a2 a3 a4 a5 a6 a7) (v : Value) : C8 (W.setCell ⟨g, 4, none⟩ v) g a0 a1 a2 a3 v a5 a6 a7 := ⟨(cell_x v (by decide)).trans h.c0, (cell_x v (by decide)).trans h.c1, (cell_x v (by decide)).trans h.c2, (cell_x v (by decide)).trans h.c3, World.cell?_setCell_same _ _ _ h.c4, (cell_x v (by decide)).trans h.c5, (cell_x v (by decide)).trans h.c6, (cell_x v (by decide)).trans h.c7⟩
theorem C8.set5 {W : World} {g : Nat} {a0 a1 a2 a3 a4 a5 a6 a7 : Value} (h : C8 W g a0 a1 a2 a3 a4 a5 a6 a7) (v : Value) : C8 (W.setCell ⟨g, 5, none⟩ v) g a0 a1 a2 a3 a4 v a6 a7 := ⟨(cell_x v (by decide)).trans h.c0, (cell_x v (by decide)).trans h.c1, (cell_x v (by decide)).trans h.c2, (cell_x v (by decide)).trans h.c3, (cell_x v (by decide)).trans h.c4, World.cell?_setCell_same _ _ _ h.c5, (cell_x v (by decide)).trans h.c6, (cell_x v (by decide)).trans h.c7⟩
theorem C8.set6 {W : World} {g : Nat} {a0 a1 a2 a3 a4 a5 a6 a7 : Value} (h : C8 W g a0 a1 a2 a3 a4 a5 a6 a7) (v : Value) : C8 (W.setCell ⟨g, 6, none⟩ v) g a0 a1 a2 a3 a4 a5 v a7 := ⟨(cell_x v (by decide)).trans h.c0, (cell_x v (by decide)).trans h.c1, (cell_x v (by decide)).trans h.c2, (cell_x v (by decide)).trans h.c3, (cell_x v (by decide)).trans h.c4, (cell_x v (by decide)).trans h.c5, World.cell?_setCell_same _ _ _ h.c6, (cell_x v (by decide)).trans h.c7⟩
theorem C8.set7 {W : World} {g : Nat} {a0 a1 a2 a3 a4 a5 a6 a7 : Value} (h : C8 W g a0 a1 a2 a3 a4 a5 a6 a7) (v : Value) : C8 (W.setCell ⟨g, 7, none⟩ v) g a0 a1 a2 a3 a4 a5 a6 v := ⟨(cell_x v (by decide)).trans h.c0, (cell_x v (by decide)).trans h.c1, (cell_x v (by decide)).trans h.c2, (cell_x v (by decide)).trans h.c3, (cell_x v (by decide)).trans h.c4, (cell_x v (by decide)).trans h.c5, (cell_x v (by decide)).trans h.c6, World.cell?_setCell_same _ _ _ h.c7⟩
section
variable {z d : Int} {x : ImR}
theorem bent_ok (hi : ImOk z d x.z x.wh x.l) : RecOk z d (RcR.d ⟨1, 3, 0, 0, 3, x⟩) := .inr (.inr ⟨⟨⟨by show (0 : Int) ≤ 3; decide, by show (3 : Int) ≤ 4294967295; decide⟩, ⟨by show (0 : Int) ≤ 0; decide, by show (0 : Int) ≤ 4294967295; decide⟩, by show (2 : Int) ≤ 3; decide, by show (3 : Int) ≤ 30; decide⟩, rfl, ⟨by show (0 : Int) ≤ 0; decide, by show (0 : Int) ≤ 3 - 2; decide⟩, hi⟩)
/-- What makes a record none. -/
theorem rec_none {r : Rcd} (h0 : r.kd = 0 → r.sq = 3) (h2 : r.kd = 2 → r.ps ≠ r.nm - 1) (h1 : r.kd = 1 → r.ps = 2 ∧ r.nm = 3 ∨ r.nm = 1 ∨ ¬ ImOk z d r.z r.wh r.l) : ¬ RecOk z d r := by
  rintro (⟨g0, g1, -⟩ | ⟨-, g0, g1, -⟩ | ⟨⟨-, -, g2⟩, g0, g1, g3⟩)
  · have := h0 g0; omega
  · exact h2 g0 g1
  · rcases h1 g0 with h | h | h
    · omega
    · omega
    · exact h g3
theorem im_zone (l : List UInt8) (wh : Int) : ¬ ImOk z d z wh l := fun h => by have := h.1; omega
theorem im_what (hd : 1 ≤ d ∧ d ≤ 4) (l : List UInt8) (zn : Int) : ¬ ImOk z d zn d l := by
  rintro ⟨-, ⟨h, -⟩ | ⟨-, h, -⟩⟩ <;> omega
theorem im_short {m : Nat} (hi : ImOk z d x.z x.wh x.l) (hn : x.l.length = m + 1) : ¬ ImOk z d x.z x.wh (x.l.take m) := by
  have hl : (x.l.take m).length = m := by rw [List.length_take]; omega
  rintro ⟨-, ⟨h, g⟩ | ⟨h, -, g⟩⟩
  · rcases hi.2 with ⟨-, k⟩ | ⟨k, -⟩
    · have := g.1; have := k.1; omega
    · exact k h
  · rcases hi.2 with ⟨k, -⟩ | ⟨-, -, k⟩
    · exact h k
    · omega
end
end Go.Proofs.YtpcadoekhoediaaGreatDoor.lrc
