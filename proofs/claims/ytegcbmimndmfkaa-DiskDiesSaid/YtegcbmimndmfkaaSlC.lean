/-
  Package seal's Open, by its contract. Conditions: byte strings shorter than 2^20.
-/
import Derived.Test.YtegcbmimndmfkaaSlB
import Derived.StillTailTactics
import Derived.OneCell
namespace Go.Proofs.Ytegcbmimndmfkaa.sel
open Go.RowKit Go.Lib
open Go.Proofs.Ytegcbmimndmfkaa.crc (sum)
open Go.Proofs.Ytegcbmimndmfkaa.pck (Parted Unrowed unrow num le le_length own_far)

/-- What Open answers. -/
def Opened (base : Nat) (r : Opn) (e : Ending) (w' : World) : Prop := ∃ v, e = .returned (.tuple #[.agg #[.int .i64 r.addr, .int .i64 r.stamp, v], .int .i64 r.err]) ∧ Own w' base 5 v r.load
/-- What Open answers where it refuses. -/
def Refused (err : Int) (e : Ending) : Prop := e = .returned (.tuple #[.agg #[.int .i64 0, .int .i64 0, .slice none 0 0], .int .i64 err])

/-- Three cells of a block of one's own. -/
structure Three (W : World) (g : Nat) (a b c : Value) : Prop where
  c0 : W.cell? ⟨g, 0, none⟩ = some a
  c1 : W.cell? ⟨g, 1, none⟩ = some b
  c2 : W.cell? ⟨g, 2, none⟩ = some c
  f0 : W.frozen? ⟨g, 0, none⟩ = false
  f1 : W.frozen? ⟨g, 1, none⟩ = false
  f2 : W.frozen? ⟨g, 2, none⟩ = false
theorem three_new (w : World) (a b c : Value) (t : TypeId) : Three (w.alloc (.cells #[a, b, c] t)) w.heap.size a b c := by
  have h := heap_alloc_new w (.cells #[a, b, c] t)
  refine ⟨?_, ?_, ?_, ?_, ?_, ?_⟩
  · rw [cell_of_row _ _ 0 _ _ _ h]; rfl
  · rw [cell_of_row _ _ 1 _ _ _ h]; rfl
  · rw [cell_of_row _ _ 2 _ _ _ h]; rfl
  all_goals exact World.frozen?_alloc_new _ _ _ _
theorem Three.keep {W W' : World} {g B : Nat} {a b c : Value} (h : Three W g a b c) (hb : Below B W W') (hg : g < B) : Three W' g a b c :=
  ⟨(hb.cell (p := ⟨g, 0, none⟩) hg).trans h.c0, (hb.cell (p := ⟨g, 1, none⟩) hg).trans h.c1, (hb.cell (p := ⟨g, 2, none⟩) hg).trans h.c2,
   (hb.frozen (p := ⟨g, 0, none⟩) hg).trans h.f0, (hb.frozen (p := ⟨g, 1, none⟩) hg).trans h.f1, (hb.frozen (p := ⟨g, 2, none⟩) hg).trans h.f2⟩

theorem Three.set {W : World} {g : Nat} {a b c : Value} (h : Three W g a b c) (a' b' c' : Value) : Three (((W.setCell ⟨g, 0, none⟩ a').setCell ⟨g, 1, none⟩ b').setCell ⟨g, 2, none⟩ c') g a' b' c' := by
  have n01 : (⟨g, 0, none⟩ : Addr) ≠ ⟨g, 1, none⟩ := by simp
  have n02 : (⟨g, 0, none⟩ : Addr) ≠ ⟨g, 2, none⟩ := by simp
  have n12 : (⟨g, 1, none⟩ : Addr) ≠ ⟨g, 2, none⟩ := by simp
  refine ⟨?_, ?_, ?_, ?_, ?_, ?_⟩
  · rw [World.cell?_setCell_other _ _ _ _ n02.symm, World.cell?_setCell_other _ _ _ _ n01.symm]
    exact World.cell?_setCell_same _ _ _ h.c0
  · rw [World.cell?_setCell_other _ _ _ _ n12.symm]
    refine World.cell?_setCell_same _ _ _ (u := b) ?_
    rw [World.cell?_setCell_other _ _ _ _ n01]
    exact h.c1
  · refine World.cell?_setCell_same _ _ _ (u := c) ?_
    rw [World.cell?_setCell_other _ _ _ _ n12, World.cell?_setCell_other _ _ _ _ n02]
    exact h.c2
  · rw [World.frozen?_setCell, World.frozen?_setCell, World.frozen?_setCell]; exact h.f0
  · rw [World.frozen?_setCell, World.frozen?_setCell, World.frozen?_setCell]; exact h.f1
  · rw [World.frozen?_setCell, World.frozen?_setCell, World.frozen?_setCell]; exact h.f2
theorem Three.below {B : Nat} {a W : World} (h : Below B a W) {g : Nat} (hg : B ≤ g) (x y z : Value) : Below B a (((W.setCell ⟨g, 0, none⟩ x).setCell ⟨g, 1, none⟩ y).setCell ⟨g, 2, none⟩ z) :=
  ((h.setCell hg x).setCell hg y).setCell hg z

theorem Three.drew {W : World} {g : Nat} {a b c : Value} (h : Three W g a b c) : Three W.drew g a b c := ⟨h.c0, h.c1, h.c2, h.f0, h.f1, h.f2⟩
theorem own_three {W : World} {base g : Nat} {e : TypeId} {v : Value} {l : List UInt8} (h : Own W base e v l) (hg : g < base) (x y z : Value) : Own (((W.setCell ⟨g, 0, none⟩ x).setCell ⟨g, 1, none⟩ y).setCell ⟨g, 2, none⟩ z) base e v l := by
  have hne : v.ownBlock ≠ some g := fun k => by have := (World.ownsRow.lt h g k).1; omega
  exact ownsRow_setCell_other (ownsRow_setCell_other (ownsRow_setCell_other h hne x) hne y) hne z

theorem unrow_two_short {r : List UInt8} (h : r.length < 6) : unrow [2, 4] r = .error 4 := by
  have t2 : Int.toNat 2 = 2 := rfl
  have t4 : Int.toNat 4 = 4 := rfl
  rw [unrow, if_pos (.inr (.inl rfl)), t2]
  by_cases h2 : r.length < 2
  · rw [if_pos h2]
  · rw [if_neg h2, unrow, if_pos (.inr (.inr rfl)), t4, if_pos (by rw [List.length_drop]; omega)]
theorem unrow_two_long {r : List UInt8} (h : 6 ≤ r.length) : unrow [2, 4] r = .ok ([(num (r.take 2) : Int), (num ((r.drop 2).take 4) : Int)], r.drop 6) := by
  have t2 : Int.toNat 2 = 2 := rfl
  have t4 : Int.toNat 4 = 4 := rfl
  rw [unrow, if_pos (.inr (.inl rfl)), t2, if_neg (show ¬ r.length < 2 by omega), unrow, if_pos (.inr (.inr rfl)), t4, if_neg (by rw [List.length_drop]; omega)]
  simp [unrow]
/-- What Unrow answers, of an address, a stamp, and what follows. -/
def TwoNums (a s n : Nat) (e : Ending) (w' : World) : Prop := ∃ g c X x, e = .returned (.tuple #[.slice (some ⟨g, 0, none⟩) 2 c, .slice X n x, .int .i64 0]) ∧ w'.cell? ⟨g, 0, none⟩ = some (.int .i64 a) ∧ w'.cell? ⟨g, 1, none⟩ = some (.int .i64 s)
/-- What Unpart answers: both pieces, each somewhere. -/
def Pieces (base : Nat) (l r : List UInt8) (n k : Nat) (e : Ending) (w' : World) : Prop := ∃ V x U y, e = .returned (.tuple #[.slice V n x, .slice U k y, .int .i64 0]) ∧ Own w' base 5 (.slice V n x) l ∧ Lies w' U y r
theorem Refused.opened {base err : Nat} {e : Ending} {w : World} (h : Refused err e) : Opened base (no err) e w := ⟨_, h, own_nil _ _ _⟩
/-- What Open answers, its payload's place told. -/
def OpenedAt (base : Nat) (r : Opn) (e : Ending) (w' : World) : Prop := ∃ X q x, e = .returned (.tuple #[.agg #[.int .i64 r.addr, .int .i64 r.stamp, .slice X q x], .int .i64 r.err]) ∧ Own w' base 5 (.slice X q x) r.load
theorem Opened.at {base : Nat} {r : Opn} {e : Ending} {w : World} (h : Opened base r e w) : OpenedAt base r e w := by
  obtain ⟨v, rfl, ho⟩ := h
  obtain ⟨X, x, rfl, -, -, -, -⟩ := ho.form
  exact ⟨X, _, x, rfl, ho⟩
theorem inner {b : List UInt8} {m i k : Nat} (h : i + k ≤ m) : ((b.take m).drop i).take k = (b.drop i).take k := by
  rw [List.drop_take, List.take_take, Nat.min_eq_left (by omega)]
end Go.Proofs.Ytegcbmimndmfkaa.sel
