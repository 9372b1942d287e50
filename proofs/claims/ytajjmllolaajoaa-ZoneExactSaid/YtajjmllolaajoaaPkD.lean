/-
  The document's own answers for numbers as bytes (as the statements' package gives them), each by its contract; 'wakes'. Conditions: slices shorter than 2^20.
-/
import Derived.Test.YtajjmllolaajoaaGPk
namespace Go.Proofs.Ytajjmllolaajoaa.pck
open Go.RowKit Go.Lib

theorem le_next (k m : Nat) : le (k + 1) m = le k m ++ [UInt8.ofNat (m / 256 ^ k % 256)] := by
  induction k generalizing m with
  | zero => simp [le]
  | succ k ih =>
    rw [le, ih]
    simp only [le, List.cons_append, Nat.div_div_eq_div_mul, Nat.pow_succ]
    rw [Nat.mul_comm 256 (256 ^ k)]
theorem src_one' (w : World) (n : Nat) (t : TypeId) : Src Try.prog 1 31 (.slice (some ⟨w.heap.size, 0, none⟩) 1 1) [UInt8.ofNat (n % 256)].length (cells8 [UInt8.ofNat (n % 256)]) (w.alloc (.cells #[.int .u8 ((n : Int) % 256)] t)) :=
  src_new (l := [UInt8.ofNat (n % 256)]) (cs := #[.int .u8 ((n : Int) % 256)]) 1 (heap_alloc_new _ _) (by simp only [cells8, List.map_cons, List.map_nil, by8, byte_toNat]; rfl)
theorem wk_keep (t : TypeId) (X : Option Addr) (c : Nat) (w : World) (h : Sl w w.heap.size X [9, 1, 2]) : Calls Try.prog 21 #[.slice X 3 c, .slice (some ⟨w.heap.size, 0, none⟩) 3 3] (w.alloc (.cells #[.int .u8 9, .int .u8 1, .int .u8 2] t)) fun e w' => e = .returned (.bool true) ∧ Below w.heap.size w w' := by
  have hb : Below w.heap.size w (w.alloc (.cells #[.int .u8 9, .int .u8 1, .int .u8 2] t)) := (Below.refl _ _).alloc (Nat.le_refl _) _
  refine (keep_any X (some ⟨w.heap.size, 0, none⟩) c 3 w.heap.size (w.heap.size + 1) [9, 1, 2] [9, 1, 2] _ (h.below hb) (Sl.of_block (heap_alloc_new w _) rfl (by omega)) hb.size (by simp) (by decide)).mono ?_
  rintro e w' ⟨rfl, hb'⟩
  exact ⟨by simp, bt hb hb'⟩
end Go.Proofs.Ytajjmllolaajoaa.pck
