/-
  The document's own answers for checksums (as the statements' package gives them), each by its contract; two byte strings held against one another; 'wakes'. Conditions: slices shorter than 2^20 bytes.
-/
import Derived.Test.YtegcbmimndmfkaaSumA
import Derived.Deep.RegionHeld3
namespace Go.Proofs.Ytegcbmimndmfkaa.crc
open Go.RowKit Go.Lib

theorem xor_u8 (x y : UInt8) : bits .xor .u8 (x.toNat : Int) (y.toNat : Int) = ((x ^^^ y).toNat : Int) := by
  have := u8_xor_nat x.toNat y.toNat x.toNat_lt y.toNat_lt
  rw [← xor_toNat] at this
  exact this

theorem mod_any (a n : Nat) (w : World) (hn : n ≠ 0) (ha : a < n) :
    Calls Try.prog 47 #[.int .i64 a, .int .i64 n] w fun e w' => e = .returned (.int .i64 a) ∧ w = w' := by
  have hn0 : ((n : Int) == 0) = false := beq_eq_false_iff_ne.2 (by omega)
  have hr : (a : Int).tmod (n : Int) = (a : Int) := by
    rw [Int.tmod_eq_emod_of_nonneg (by omega)]
    exact Int.emod_eq_of_lt (by omega) (by omega)
  have hr2 : (a : Int) % (n : Int) = (a : Int) := Int.emod_eq_of_lt (by omega) (by omega)
  go_enter Try.func47, Try.ntmps47
  go_wp2
  go_ret
  exact ⟨rfl, rfl⟩

end Go.Proofs.Ytegcbmimndmfkaa.crc
