/-
  Rows of one's own of two element types are apart; rows of one's own kept over another's growth, over a cell stored below. Conditions: none.
-/
import Derived.Test.YtajjmllolaajoaaZnV
namespace Go.Proofs.Ytajjmllolaajoaa.zon
open Go.RowKit Go.Lib
open Go.Proofs.Ytajjmllolaajoaa.tbl (Ent OwnE)

theorem rows_apart {w : World} {b b' k k' n n' : Nat} {e e' : TypeId} {v v' : Value} {xs xs' : List Value} (h : w.ownsRow b e k v n xs) (h' : w.ownsRow b' e' k' v' n' xs') (he : e ≠ e') : v.ownBlock = none ∨ v.ownBlock ≠ v'.ownBlock := by
  rcases h.2 with ⟨rfl, _⟩ | ⟨g, cap, cur, rfl, _, hg, _⟩
  · exact .inl rfl
  · right
    rcases h'.2 with ⟨rfl, _⟩ | ⟨g', cap', cur', rfl, _, hg', _⟩
    · simp [Value.ownBlock]
    · intro hh
      simp only [Value.ownBlock, Option.some.injEq] at hh
      subst hh
      rw [hg] at hg'
      simp only [Option.some.injEq, Obj.cells.injEq] at hg'
      exact he hg'.2.1
theorem u8_ent : 5 ≠ 54 := by decide
theorem row_ent : 31 ≠ 54 := by decide
theorem ent_row : 54 ≠ 31 := by decide
theorem OwnRows.kept {w w' : World} {base b' k' n' : Nat} {e' : TypeId} {v v' : Value} {rs : List Row} {ls : List (List UInt8)} {xs' : List Value} (h : OwnRows w base v rs ls) (h' : w.ownsRow b' e' k' v' n' xs') (h1 : 31 ≠ e') (h2 : 5 ≠ e') (hg : w.grownBy w' v'.ownBlock) : OwnRows w' base v rs ls :=
  ⟨h.1.kept hg (rows_apart h.1 h' h1), h.2.1, fun r hr => (h.2.2 r hr).kept hg (rows_apart (h.2.2 r hr) h' h2)⟩
theorem own_set {w : World} {base g o : Nat} {e : TypeId} {v : Value} {l : List UInt8} (h : Own w base e v l) (hg : g < base) (x : Value) : Own (w.setCell ⟨g, o, none⟩ x) base e v l :=
  ownsRow_setCell_other h (fun k => by have := (World.ownsRow.lt h g k).1; omega) x
theorem OwnRows.cell_set {w : World} {base g o : Nat} {v : Value} {rs : List Row} {ls : List (List UInt8)} (h : OwnRows w base v rs ls) (hg : g < base) (x : Value) : OwnRows (w.setCell ⟨g, o, none⟩ x) base v rs ls :=
  ⟨ownsRow_setCell_other h.1 (fun k => by have := (World.ownsRow.lt h.1 g k).1; omega) x, h.2.1, fun r hr => own_set (h.2.2 r hr) hg x⟩
theorem OwnRows.less {w : World} {base base' : Nat} {v : Value} {rs : List Row} {ls : List (List UInt8)} (h : OwnRows w base v rs ls) (hb : base' ≤ base) : OwnRows w base' v rs ls :=
  ⟨h.1.less hb, h.2.1, fun r hr => (h.2.2 r hr).less hb⟩
theorem ownRows_nil (w : World) (base : Nat) : OwnRows w base (.slice none 0 0) [] [] := ⟨ownV_nil _ _ _, rfl, fun r hr => by cases hr⟩
theorem own_at {w : World} {base q x : Nat} {e : TypeId} {X : Option Addr} {l : List UInt8} (h : Own w base e (.slice X q x) l) : l.length = q ∧ q ≤ x ∧ x ≤ maxLen ∧ Sl w w.heap.size X l := by
  obtain ⟨Y, y, hv, h1, h2, h3, -⟩ := h.form
  simp only [Value.slice.injEq] at hv
  obtain ⟨rfl, rfl, rfl⟩ := hv
  exact ⟨rfl, h1, h2, h3⟩
/-- Bytes compared. -/
theorem keep_c (b : Bool) (A B : Option Addr) (n m c d : Nat) (x y : List UInt8) (w : World) (hx : x.length = n) (hy : y.length = m) (hn : n ≤ 1048576) (hA : Sl w w.heap.size A x) (hB : Sl w w.heap.size B y) (hb : b = true ↔ x = y) :
    Calls Try.prog 21 #[.slice A n c, .slice B m d] w fun e w' => e = .returned (.bool b) ∧ Below w.heap.size w w' := by
  subst hx hy
  have h := keep_any A B c d _ _ x y w hA hB (Nat.le_refl _) (Nat.le_refl _) hn
  obtain rfl : b = decide (x = y) := by
    by_cases h : x = y
    · rw [decide_eq_true h]; exact hb.2 h
    · rw [decide_eq_false h]; cases b; rfl; exact absurd (hb.1 rfl) h
  exact h
end Go.Proofs.Ytajjmllolaajoaa.zon
