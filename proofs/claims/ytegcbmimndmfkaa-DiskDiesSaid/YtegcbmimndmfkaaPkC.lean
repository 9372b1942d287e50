/-
  Rows of numbers put and got, by the program, each by its contract. Conditions: rows shorter than 2^20.
-/
import Derived.Test.YtegcbmimndmfkaaPkB
import Derived.Test.YtegcbmimndmfkaaKeepInts
namespace Go.Proofs.Ytegcbmimndmfkaa.pck
open Go.RowKit Go.Lib

/-- Each number fits in its size. -/
def AllFit (ps : List (Int × Int)) : Prop := ∀ p ∈ ps, Fits p.1 p.2
/-- The numbers, each in its size, one behind the other. -/
def bytesOf (ps : List (Int × Int)) : List UInt8 := ps.flatMap fun p => le p.2.toNat p.1.toNat
theorem bytesOf_append (a b : List (Int × Int)) : bytesOf (a ++ b) = bytesOf a ++ bytesOf b := by simp [bytesOf]
theorem bytesOf_le {ps : List (Int × Int)} (h : AllFit ps) : (bytesOf ps).length ≤ 4 * ps.length := by
  induction ps with
  | nil => simp [bytesOf]
  | cons p ps ih =>
    have h1 := ih fun q hq => h q (List.mem_cons_of_mem _ hq)
    obtain ⟨k, m, hs, -, hk, -⟩ := h p List.mem_cons_self
    have h2 : bytesOf (p :: ps) = le p.2.toNat p.1.toNat ++ bytesOf ps := by simp [bytesOf]
    rw [h2, List.length_append, le_length, hs, Int.toNat_natCast, List.length_cons]
    have := hk.le4
    omega

/-- What Row answers where there are as many sizes as numbers. -/
def Rowed (base : Nat) (ps : List (Int × Int)) (e : Ending) (w' : World) : Prop :=
  (AllFit ps ∧ Put base (bytesOf ps) e w') ∨ (¬ AllFit ps ∧ e = .returned (.tuple #[.slice none 0 0, .int .i64 1]))
/-- What Unrow comes to: the numbers and the rest, or the error of the first one that has one. -/
def unrow : List Int → List UInt8 → Except Int (List Int × List UInt8)
  | [], b => .ok ([], b)
  | s :: ss, b =>
    if s = 1 ∨ s = 2 ∨ s = 4 then
      if b.length < s.toNat then .error 4
      else match unrow ss (b.drop s.toNat) with
        | .ok (l, r) => .ok ((num (b.take s.toNat) : Int) :: l, r)
        | .error x => .error x
    else .error 1
/-- The same, behind numbers that were read already. -/
def behind (l : List Int) : Except Int (List Int × List UInt8) → Except Int (List Int × List UInt8)
  | .ok (t, r) => .ok (l ++ t, r)
  | .error x => .error x
theorem behind_nil (r : Except Int (List Int × List UInt8)) : behind [] r = r := by
  cases r with
  | ok p => rfl
  | error x => rfl
theorem behind_next {l : List Int} {s : Int} {ss : List Int} {b : List UInt8} (hs : s = 1 ∨ s = 2 ∨ s = 4) (hb : ¬ b.length < s.toNat) :
    behind l (unrow (s :: ss) b) = behind (l ++ [(num (b.take s.toNat) : Int)]) (unrow ss (b.drop s.toNat)) := by
  rw [unrow, if_pos hs, if_neg hb]
  cases unrow ss (b.drop s.toNat) with
  | ok p => simp [behind]
  | error x => rfl
/-- What Unrow answers. -/
def Unrowed (base : Nat) (r : Except Int (List Int × List UInt8)) (e : Ending) (w' : World) : Prop :=
  match r with
  | .ok (l, b) => ∃ v u, e = .returned (.tuple #[v, u, .int .i64 0]) ∧ OwnV w' base 3 v (ints l) ∧ Own w' base 5 u b
  | .error x => e = .returned (.tuple #[.slice none 0 0, .slice none 0 0, .int .i64 x])
end Go.Proofs.Ytegcbmimndmfkaa.pck
