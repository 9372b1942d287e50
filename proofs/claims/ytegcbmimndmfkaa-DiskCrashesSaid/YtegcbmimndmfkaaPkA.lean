/-
  The program's inner functions for numbers as bytes, each by its contract. Conditions: slices shorter than 2^40.
-/
import Derived.Test.YtegcbmimndmfkaaKeep
import Derived.Test.YtegcbmimndmfkaaPkMath
import Derived.Laws.BitsAllLaws
import Derived.Deep.RegionHeld3
import Derived.Lib.Hide
namespace Go.Proofs.Ytegcbmimndmfkaa.pck
open Go.RowKit Go.Lib

theorem as_11 (v : Value) (W : World) : (Instr.typeAssert (.iface 5 v) 20 5 true).run Try.prog W = .ok (.tuple #[v, .bool true]) W := by kernel_rfl
theorem as_41 (v : Value) (W : World) : (Instr.typeAssert (.iface 85 v) 20 5 true).run Try.prog W = .ok (.tuple #[.int .u8 0, .bool false]) W := by kernel_rfl
theorem as_44 (v : Value) (W : World) : (Instr.typeAssert (.iface 85 v) 20 85 false).run Try.prog W = .ok v W := by kernel_rfl
theorem cells_one (n : Nat) (h : n < 256) : (#[Value.int .u8 (n : Int)]).toList = cells8 (le 1 n) := by
  simp only [le_one, cells8, List.map_cons, List.map_nil, by8, byte_toNat]
  rw [Nat.mod_eq_of_lt h]
theorem cells_two (n : Nat) (h : n < 65536) : (#[Value.int .u8 ((n : Int) % 256), .int .u8 ((n : Int) / 256)]).toList = cells8 (le 2 n) := by
  simp only [le_two, cells8, List.map_cons, List.map_nil, by8, byte_toNat]
  rw [Nat.mod_eq_of_lt (show n / 256 < 256 by omega)]
  rfl
theorem cells_four (n : Nat) (h : n < 4294967296) : (#[Value.int .u8 ((n : Int) % 256), .int .u8 ((n : Int) / 256 % 256), .int .u8 ((n : Int) / 65536 % 256), .int .u8 ((n : Int) / 16777216)]).toList = cells8 (le 4 n) := by
  simp only [le_four, cells8, List.map_cons, List.map_nil, by8, byte_toNat]
  rw [Nat.mod_eq_of_lt (show n / 16777216 < 256 by omega)]
  rfl
theorem src_new {W : World} {g : Nat} {t : TypeId} {fr : Nat × Nat} {cs : Array Value} {l : List UInt8} (c : Nat) (hg : W.heap[g]? = some (.cells cs t fr)) (hcs : cs.toList = cells8 l) : Src Try.prog 1 26 (.slice (some ⟨g, 0, none⟩) l.length c) l.length (cells8 l) W :=
  (Sl.of_block hg hcs (Nat.lt_succ_self g)).src Try.underlying26 c

theorem or_step (a b k : Nat) (ha : a < 2 ^ k) (hb : b * 2 ^ k < 4294967296) (hs : a < 4294967296) : bits .or .u32 (a : Int) ((b * 2 ^ k : Nat) : Int) = ((a + b * 2 ^ k : Nat) : Int) := by
  rw [u32_or_nat a (b * 2 ^ k) hs hb, or_bytes a b k ha]
theorem or_four (a a1 a2 a3 : Nat) (x0 : a < 256) (x1 : a1 < 256) (x2 : a2 < 256) (x3 : a3 < 256) :
    bits .or .u32 (bits .or .u32 (bits .or .u32 (a : Int) ((a1 : Int) * 256)) ((a2 : Int) * 65536)) ((a3 : Int) * 16777216) = ((a + 256 * a1 + 65536 * a2 + 16777216 * a3 : Nat) : Int) := by
  have e1 := or_step a a1 8 (by omega) (by omega) (by omega)
  have e2 := or_step (a + a1 * 2 ^ 8) a2 16 (by omega) (by omega) (by omega)
  have e3 := or_step (a + a1 * 2 ^ 8 + a2 * 2 ^ 16) a3 24 (by omega) (by omega) (by omega)
  rw [show ((a1 : Int) * 256) = ((a1 * 2 ^ 8 : Nat) : Int) by omega, show ((a2 : Int) * 65536) = ((a2 * 2 ^ 16 : Nat) : Int) by omega, show ((a3 : Int) * 16777216) = ((a3 * 2 ^ 24 : Nat) : Int) by omega, e1, e2, e3]
  congr 1
  omega
theorem ret_box {a b : Int} (h : a = b) : Ending.returned (.iface 85 (.int .u32 a)) = .returned (.iface 85 (.int .u32 b)) := by rw [h]
theorem not_fits {n s : Int} (h : ¬ Fits n s) : ¬ (s = 1 ∨ s = 2 ∨ s = 4) ∨ ∃ k : Nat, s = k ∧ Sz k ∧ (n < 0 ∨ 256 ^ k ≤ n) := by
  by_cases hs : s = 1 ∨ s = 2 ∨ s = 4
  · refine .inr ⟨s.toNat, by omega, by unfold Sz; omega, ?_⟩
    by_cases h0 : n < 0
    · exact .inl h0
    · refine .inr ?_
      by_cases h1 : 256 ^ s.toNat ≤ n
      · exact h1
      · refine absurd ⟨s.toNat, n.toNat, by omega, by omega, by unfold Sz; omega, ?_⟩ h
        have : ((256 ^ s.toNat : Nat) : Int) = 256 ^ s.toNat := by simp
        omega
  · exact .inl hs
end Go.Proofs.Ytegcbmimndmfkaa.pck
