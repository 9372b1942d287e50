/-
  The program's exported functions for numbers as bytes, each by its contract. Conditions: slices shorter than 2^40.
-/
import Derived.Test.YtegcbmimndmfkaaPkA
namespace Go.Proofs.Ytegcbmimndmfkaa.pck
open Go.RowKit Go.Lib

/-- What take answers where all is right: the number, and the rest, which is a piece of what came in. -/
def Took (B k : Nat) (l : List UInt8) (e : Ending) (w' : World) : Prop :=
  ∃ b' off' c', e = .returned (.tuple #[.int .i64 (num (l.take k)), .slice (some ⟨b', off', none⟩) (l.length - k) c', .int .i64 0]) ∧ Sl w' B (some ⟨b', off', none⟩) (l.drop k) ∧ l.length - k ≤ c' ∧ c' ≤ maxLen

theorem nil_eq (n c : Nat) (W : World) : (binOp .eql 26 (.slice none n c) (.slice none 0 0)).run Try.prog W = .ok (.bool true) W := by kernel_rfl
theorem some_eq (a : Addr) (n c : Nat) (W : World) : (binOp .eql 26 (.slice (some a) n c) (.slice none 0 0)).run Try.prog W = .ok (.bool false) W := by kernel_rfl
theorem clone_any (A : Option Addr) (c B n : Nat) (l : List UInt8) (w : World) (hln : l.length = n) (hA : Sl w B A l) (hl : n ≤ 1099511627776) :
    Calls Try.prog 35 #[.slice A n c] w fun e w' => One w.heap.size l e w' ∧ Below w.heap.size w w' := by
  cases A with
  | none =>
    have h0 : l = [] := List.eq_nil_of_length_eq_zero (by
      rcases Nat.eq_zero_or_pos l.length with h | h
      · exact h
      · obtain ⟨b, off, he, _⟩ := hA h
        cases he)
    subst h0
    subst hln
    have q := nil_eq
    go_enter Try.func35, Try.ntmps35
    go_wp2
    go_ret
    exact ⟨⟨_, rfl, own_nil _ _ _⟩, Below.refl _ _⟩
  | some a =>
    have hsrc : ∀ o : Obj, Src Try.prog 1 26 (.slice (some a) n c) l.length (cells8 l) (w.alloc o) := fun o => by
      subst hln
      by_cases h0 : 0 < l.length
      · obtain ⟨b, off, ha, hb, hc⟩ := hA h0
        have hlt : b < w.heap.size := World.block_lt_of_cell? w ⟨b, off + 0, none⟩ (hc 0 h0)
        have hA' : Sl w w.heap.size (some a) l := fun _ => ⟨b, off, ha, hlt, hc⟩
        exact ((hA'.below ((Below.refl _ _).alloc (Nat.le_refl _) o)).more (Nat.le_refl _)).src Try.underlying26 c
      · have : l = [] := List.eq_nil_of_length_eq_zero (by omega)
        subst this
        exact (Sl.nil _ 0 _).src Try.underlying26 c
    have q := some_eq
    go_enter Try.func35, Try.ntmps35
    go_wp2_with (first
      | (at_builtin
         refine wpList_app8 _ rfl (.tmp 5) (.tmp 6) _ _ rfl w.heap.size 5 t8 (.slice (some ⟨w.heap.size, 0, none⟩) 0 0) [] rfl (own_made _ _ 0 _ #[] (Nat.le_refl _) (by simp) rfl) _ l rfl (hsrc _) ?_ ?_ ?_
         · simp only [List.length_nil]; omega
         · simp
         intro v2 w2 hown2 hg2 hat2))
    go_ret
    exact ⟨⟨v2, rfl, hown2⟩, ((Below.refl _ _).alloc (Nat.le_refl _) _).grown hg2 (by simp) (fun q hq => by cases hq; exact Nat.le_refl _)⟩

/-- What Put, Row and Part answer where all is right. -/
def Put (base : Nat) (l : List UInt8) (e : Ending) (w' : World) : Prop := ∃ v, e = .returned (.tuple #[v, .int .i64 0]) ∧ Own w' base 5 v l
theorem make0 (cap base : Nat) (W : World) (hc : cap ≤ 1099511627776) (hb : base ≤ W.heap.size) :
    ∃ w', (Instr.makeSlice 26 (.int .i64 0) (.int .i64 (cap : Int))).run Try.prog W = .ok (.slice (some ⟨W.heap.size, 0, none⟩) 0 cap) w' ∧
      Own w' base 5 (.slice (some ⟨W.heap.size, 0, none⟩) 0 cap) [] ∧ W.grownBy w' none := by
  obtain ⟨ht, _, i, hi, hz, h1, hb8⟩ := t8
  obtain ⟨w', hr, ho, hg⟩ := run_make_own (P := Try.prog) W base 26 5 i (.int .u8 0) 1 ht hi hz h1 .i64 .i64 cap (by rw [hb8]; omega) (by unfold maxLen; omega) hb
  exact ⟨w', hr, ho, hg⟩
theorem own_far {w : World} {base : Nat} {e : TypeId} {v : Value} {l : List UInt8} (h : Own w base e v l) : ∀ q, v.ownBlock = some q → base ≤ q := fun q hq => (World.ownsRow.lt h q hq).1

/-- What Get answers where all is right. -/
def Got (base k : Nat) (l : List UInt8) (e : Ending) (w' : World) : Prop := ∃ v, e = .returned (.tuple #[.int .i64 (num (l.take k)), v, .int .i64 0]) ∧ Own w' base 5 v (l.drop k)
/-- What Unpart answers where all is right. -/
def Parted (base : Nat) (l r : List UInt8) (e : Ending) (w' : World) : Prop := ∃ v u, e = .returned (.tuple #[v, u, .int .i64 0]) ∧ Own w' base 5 v l ∧ Own w' base 5 u r
end Go.Proofs.Ytegcbmimndmfkaa.pck
