/-
  Package sum, function by function: eight steps, the bytes taken in, Of, More, Table, each by its contract. Conditions: a slice's length is an int's.
-/
import Derived.Test.YtegcbmimndmfkaaProg
import Derived.Test.YtegcbmimndmfkaaSumFlip
import Derived.Test.YtegcbmimndmfkaaKeep
import Derived.ProofKit
import Derived.WalkKit
import Derived.Calls
import Derived.WalkLawsBesides
import Derived.WalkSpells
import Derived.Lib.Walk
import Derived.Lib.Hide
import Derived.LoopTactic
import Derived.Outline
import Derived.Laws.BitsAllLaws
import Derived.Laws.Bits64
namespace Go.Proofs.Ytegcbmimndmfkaa.crc
open Go.RowKit Go.Lib

theorem bits_xor_i64 (a b : Nat) (ha : a < 9223372036854775808) (hb : b < 9223372036854775808) : bits .xor .i64 (a : Int) (b : Int) = ((a ^^^ b : Nat) : Int) := by
  have hx : a ^^^ b < 9223372036854775808 := Nat.xor_lt_two_pow (n := 63) ha hb
  show IntKind.i64.wrap ((BitVec.ofInt 64 (a : Int) ^^^ BitVec.ofInt 64 (b : Int)).toNat : Int) = _
  rw [BitVec.toNat_xor, ofInt_u64 a (by omega), ofInt_u64 b (by omega)]
  generalize a ^^^ b = c at *
  simp [IntKind.wrap, IntKind.bits, IntKind.signed]
  omega

theorem and_one (a : Nat) (h : a < 4294967296) : bits .and .u32 (a : Int) 1 = ((a % 2 : Nat) : Int) := by
  have := u32_and_nat a 1 h (by omega)
  rw [nat_mask1] at this
  exact this
theorem xor_poly (a : Nat) (h : a < 4294967296) : bits .xor .u32 (a : Int) 2197175160 = ((a ^^^ poly : Nat) : Int) := u32_xor_nat a poly h (by decide)
theorem not_u32 (a : Nat) (h : a < 4294967296) : bits .xor .u32 4294967295 (a : Int) = ((ones - a : Nat) : Int) := by
  have := u32_xor_nat ones a (by decide) h
  rw [Nat.xor_comm, ← flip_ones h] at this
  exact this

end Go.Proofs.Ytegcbmimndmfkaa.crc
