/-
  GeomBlocks walked: each block is one of a zone's, and comes back by both. Conditions: none.
-/
import Derived.Test.YtjadbekefonhlaaGmF
namespace Go.Proofs.Ytjadbekefonhlaa.gmt
open Go.RowKit Go.Lib

set_option maxRecDepth 100000 in
set_option maxHeartbeats 1000000 in
theorem geomblocks_law (z' d' s' l' a' lba : Int) (w : World) :
    Calls Try.prog 6 #[.int .i64 z', .int .i64 d', .int .i64 s', .int .i64 l', .int .i64 a', .int .i64 lba] w fun e w' => e = .returned (.bool true) ∧ Below w.heap.size w w' := by
  go_enter Try.func6, Try.ntmps6
  go_wp2_with (first
    | (go_at_call 28; (with_reducible refine (some_any _ _ _ _ _ _).mono ?_); rintro e w1 ⟨⟨z, d, s, l, a, ho, rfl⟩, hb1⟩; obtain ⟨h1, h2, h3, h4, h5⟩ := id ho))
  have hb0 := bt hb1 (bl w1 (.cells #[.int .i64 z, .int .i64 d, .int .i64 s, .int .i64 l, .int .i64 a] 23))
  have hl : w1.heap.size < (w1.alloc (.cells #[.int .i64 z, .int .i64 d, .int .i64 s, .int .i64 l, .int .i64 a] 23)).heap.size := by simp
  obtain ⟨g0, g1, g2, g3, g4⟩ := five_new w1 z d s l a
  have hzd := mul_le (i := z) (n := 4) (p := d) (P := 4) (by omega) (by omega) (by omega) (by omega)
  have hzp : 0 < z * d := Int.mul_pos (by omega) (by omega)
  obtain ⟨k, hk'⟩ : ∃ k, (IntKind.u64.wrap lba).tmod (z * d) = k := ⟨_, rfl⟩
  have hk := wrap_mod lba (z * d) hzp
  rw [hk'] at hk
  obtain ⟨q, hq⟩ : ∃ q, k / d = q := ⟨_, rfl⟩
  obtain ⟨r, hr⟩ : ∃ r, k % d = r := ⟨_, rfl⟩
  have hq0 : 0 ≤ q := hq ▸ Int.ediv_nonneg hk.1 (by omega)
  have hq1 : q < z := hq ▸ Int.ediv_lt_of_lt_mul (by omega) hk.2
  have hr0 : 0 ≤ r := hr ▸ Int.emod_nonneg _ (by omega)
  have hr1 : r < d := hr ▸ Int.emod_lt_of_pos _ (by omega)
  have hqd := mul_le (i := q) (n := 4) (p := d) (P := 4) (by omega) (by omega) (by omega) (by omega)
  have hqr : q * d + r = k := by rw [← hq, ← hr]; exact Int.ediv_mul_add_emod k d
  have c1 := fun W => split_at z d s l a k q r 0 W ho (by rw [hq, hr]; exact ⟨⟨fun _ => ⟨rfl, rfl⟩, fun h => absurd hk h⟩, ⟨fun _ => ⟨rfl, rfl⟩, fun h => absurd hk h⟩⟩)
  have c2 := fun W => split_at z d s l a (z * d) 0 0 17 W ho ⟨⟨fun h => absurd h (by omega), fun _ => ⟨rfl, rfl⟩⟩, ⟨fun h => absurd h (by omega), fun _ => ⟨rfl, rfl⟩⟩⟩
  have c3 := fun W => split_at z d s l a (-1) 0 0 17 W ho ⟨⟨fun h => absurd h (by omega), fun _ => ⟨rfl, rfl⟩⟩, ⟨fun h => absurd h (by omega), fun _ => ⟨rfl, rfl⟩⟩⟩
  clear hq hr
  generalize w1.alloc (.cells #[.int .i64 z, .int .i64 d, .int .i64 s, .int .i64 l, .int .i64 a] 23) = w0 at *
  go_wp2_with (first
    | (go_at_call 12; (with_reducible refine (blocks_ok z d s l a _ ho).mono ?_); rintro e w8 ⟨rfl, hb8⟩; replace g0 := kst hb8 hl g0; replace g1 := kst hb8 hl g1; replace g2 := kst hb8 hl g2; replace g3 := kst hb8 hl g3; replace g4 := kst hb8 hl g4; replace hl := Nat.lt_of_lt_of_le hl hb8.size)
    | (go_at_call 19; (with_reducible refine (c1 _).mono ?_); rintro e w9 ⟨rfl, hb9⟩; replace g0 := kst hb9 hl g0; replace g1 := kst hb9 hl g1; replace g2 := kst hb9 hl g2; replace g3 := kst hb9 hl g3; replace g4 := kst hb9 hl g4; replace hl := Nat.lt_of_lt_of_le hl hb9.size)
    | (go_at_call 19; (with_reducible refine (c2 _).mono ?_); rintro e w10 ⟨rfl, hb10⟩; replace g0 := kst hb10 hl g0; replace g1 := kst hb10 hl g1; replace g2 := kst hb10 hl g2; replace g3 := kst hb10 hl g3; replace g4 := kst hb10 hl g4; replace hl := Nat.lt_of_lt_of_le hl hb10.size)
    | (go_at_call 19; (with_reducible refine (c3 _).mono ?_); rintro e w11 ⟨rfl, hb11⟩; replace g0 := kst hb11 hl g0; replace g1 := kst hb11 hl g1; replace g2 := kst hb11 hl g2; replace g3 := kst hb11 hl g3; replace g4 := kst hb11 hl g4; replace hl := Nat.lt_of_lt_of_le hl hb11.size)
    | (go_at_call 20; (with_reducible refine (wakes_any _).mono ?_); rintro e w12 ⟨rfl, hb12⟩; replace g0 := kst hb12 hl g0; replace g1 := kst hb12 hl g1; replace g2 := kst hb12 hl g2; replace g3 := kst hb12 hl g3; replace g4 := kst hb12 hl g4; replace hl := Nat.lt_of_lt_of_le hl hb12.size))
  go_ret
  exact ⟨rfl, (bt (bt (bt (bt (bt hb0 hb8) hb9) hb10) hb11) hb12)⟩
end Go.Proofs.Ytjadbekefonhlaa.gmt
