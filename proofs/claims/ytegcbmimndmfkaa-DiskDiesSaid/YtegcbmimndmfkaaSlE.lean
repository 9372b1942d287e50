/-
  The document's own answers for sectors (as the statements' package gives them), each by its contract. Conditions: byte strings shorter than 2^20.
-/
import Derived.Test.YtegcbmimndmfkaaSlD
import Derived.Test.YtegcbmimndmfkaaPkD
namespace Go.Proofs.Ytegcbmimndmfkaa.sel
open Go.RowKit Go.Lib
open Go.Proofs.Ytegcbmimndmfkaa.crc (Turned TurnedAll turn xor_u8 sum sum_lt)
open Go.Proofs.Ytegcbmimndmfkaa.pck (num le le_length)

theorem mod_minus (a N : Int) (w : World) (hN : 0 < N) (hN2 : N ≤ 1099511627776) (h : a.tmod N < 0) :
    Calls Try.prog 47 #[.int .i64 a, .int .i64 N] w fun e w' => e = .returned (.int .i64 (a.tmod N + N)) ∧ w = w' := by
  have hn0 : (N == 0) = false := beq_eq_false_iff_ne.2 (by omega)
  have h2 := (twice_mod a hN).2.1
  go_enter Try.func47, Try.ntmps47
  go_wp2
  go_ret
  exact ⟨rfl, rfl⟩
theorem mod_plus (a N : Int) (w : World) (hN : 0 < N) (hN2 : N ≤ 1099511627776) (h : ¬ a.tmod N < 0) :
    Calls Try.prog 47 #[.int .i64 a, .int .i64 N] w fun e w' => e = .returned (.int .i64 (a.tmod N)) ∧ w = w' := by
  have hn0 : (N == 0) = false := beq_eq_false_iff_ne.2 (by omega)
  go_enter Try.func47, Try.ntmps47
  go_wp2
  go_ret
  exact ⟨rfl, rfl⟩
theorem mod_all (a N : Int) (w : World) (hN : 0 < N) (hN2 : N ≤ 1099511627776) :
    Calls Try.prog 47 #[.int .i64 a, .int .i64 N] w fun e w' => e = .returned (.int .i64 (a % N)) ∧ w = w' := by
  obtain ⟨h1, h2, h3⟩ := twice_mod a hN
  by_cases h : a.tmod N < 0
  · have : a % N = a.tmod N + N := by rw [← h1]; exact Int.emod_eq_of_lt h2 (by omega)
    rw [this]
    exact mod_minus a N w hN hN2 h
  · have : a % N = a.tmod N := by
      rw [← h1, Int.add_emod_right]
      exact Int.emod_eq_of_lt (by omega) h3
    rw [this]
    exact mod_plus a N w hN hN2 h
end Go.Proofs.Ytegcbmimndmfkaa.sel
