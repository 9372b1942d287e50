/-
  GeomOrder walked: the cells stand in their order, each kind without a gap. Conditions: none.
-/
import Derived.Test.YtjadbekefonhlaaGmF
namespace Go.Proofs.Ytjadbekefonhlaa.gmt
open Go.RowKit Go.Lib

set_option maxRecDepth 100000 in
set_option maxHeartbeats 1000000 in
theorem geomorder_law (z' d' s' l' a' : Int) (w : World) :
    Calls Try.prog 8 #[.int .i64 z', .int .i64 d', .int .i64 s', .int .i64 l', .int .i64 a'] w fun e w' => e = .returned (.bool true) ∧ Below w.heap.size w w' := by
  go_enter Try.func8, Try.ntmps8
  go_wp2_with (first
    | (go_at_call 28; (with_reducible refine (some_any _ _ _ _ _ _).mono ?_); rintro e w1 ⟨⟨z, d, s, l, a, ho, rfl⟩, hb1⟩; obtain ⟨h1, h2, h3, h4, h5⟩ := id ho))
  have hb0 := bt hb1 (bl w1 (.cells #[.int .i64 z, .int .i64 d, .int .i64 s, .int .i64 l, .int .i64 a] 23))
  have hl : w1.heap.size < (w1.alloc (.cells #[.int .i64 z, .int .i64 d, .int .i64 s, .int .i64 l, .int .i64 a] 23)).heap.size := by simp
  obtain ⟨g0, g1, g2, g3, g4⟩ := five_new w1 z d s l a
  have hp := per_le ho
  obtain ⟨q, hq⟩ : ∃ q, z * (d + 1 + s) = q := ⟨_, rfl⟩
  have hq1 := mul_le (i := z) (n := 4) (P := 7) (by omega) (by omega) (by omega) hp.2
  rw [hq] at hq1
  have cn := fun W => cells_ok z d s l a W ho
  rw [hq] at cn
  have e1 : (z - 1) * (d + 1 + s) + (d + s) = q - 1 := by rw [Int.sub_mul, hq]; omega
  have c1 := fun W => anchor_at z d s l a (a - 1) (a - 1) 0 W ho ⟨fun _ => ⟨by omega, rfl⟩, fun h => absurd (by omega) h⟩
  have c2 := fun W => log_at z d s l a (0) (0) (a) 0 W ho ⟨fun _ => ⟨by omega, rfl⟩, fun h => absurd (by omega) h⟩
  have c3 := fun W => log_at z d s l a (1) (0) (a + l) 0 W ho ⟨fun _ => ⟨by omega, rfl⟩, fun h => absurd (by omega) h⟩
  have c4 := fun W => table_at z d s l a (0) (0) (a + 2 * l) 0 W ho ⟨fun _ => ⟨by omega, rfl⟩, fun h => absurd (by omega) h⟩
  have c5 := fun W => table_at z d s l a (z - 1) (1) (a + 2 * l + 2 * z - 1) 0 W ho ⟨fun _ => ⟨by omega, rfl⟩, fun h => absurd (by omega) h⟩
  have c6 := fun W => slot_at z d s l a (0) (0) (a + 2 * l + 2 * z) 0 W ho ⟨fun _ => ⟨by omega, rfl⟩, fun h => absurd (by omega) h⟩
  have c7 := fun W => slot_at z d s l a (z - 1) (d + s) (a + 2 * l + 2 * z + q - 1) 0 W ho ⟨fun _ => ⟨by omega, rfl⟩, fun h => absurd (by omega) h⟩
  clear e1 hq hp
  generalize w1.alloc (.cells #[.int .i64 z, .int .i64 d, .int .i64 s, .int .i64 l, .int .i64 a] 23) = w0 at *
  go_wp2_with (first
    | (go_at_call 13; (with_reducible refine (c1 _).mono ?_); rintro e w8 ⟨rfl, hb8⟩; replace g0 := kst hb8 hl g0; replace g1 := kst hb8 hl g1; replace g2 := kst hb8 hl g2; replace g3 := kst hb8 hl g3; replace g4 := kst hb8 hl g4; replace hl := Nat.lt_of_lt_of_le hl hb8.size)
    | (go_at_call 14; (with_reducible refine (c2 _).mono ?_); rintro e w9 ⟨rfl, hb9⟩; replace g0 := kst hb9 hl g0; replace g1 := kst hb9 hl g1; replace g2 := kst hb9 hl g2; replace g3 := kst hb9 hl g3; replace g4 := kst hb9 hl g4; replace hl := Nat.lt_of_lt_of_le hl hb9.size)
    | (go_at_call 14; (with_reducible refine (c3 _).mono ?_); rintro e w10 ⟨rfl, hb10⟩; replace g0 := kst hb10 hl g0; replace g1 := kst hb10 hl g1; replace g2 := kst hb10 hl g2; replace g3 := kst hb10 hl g3; replace g4 := kst hb10 hl g4; replace hl := Nat.lt_of_lt_of_le hl hb10.size)
    | (go_at_call 15; (with_reducible refine (c4 _).mono ?_); rintro e w11 ⟨rfl, hb11⟩; replace g0 := kst hb11 hl g0; replace g1 := kst hb11 hl g1; replace g2 := kst hb11 hl g2; replace g3 := kst hb11 hl g3; replace g4 := kst hb11 hl g4; replace hl := Nat.lt_of_lt_of_le hl hb11.size)
    | (go_at_call 15; (with_reducible refine (c5 _).mono ?_); rintro e w12 ⟨rfl, hb12⟩; replace g0 := kst hb12 hl g0; replace g1 := kst hb12 hl g1; replace g2 := kst hb12 hl g2; replace g3 := kst hb12 hl g3; replace g4 := kst hb12 hl g4; replace hl := Nat.lt_of_lt_of_le hl hb12.size)
    | (go_at_call 16; (with_reducible refine (c6 _).mono ?_); rintro e w13 ⟨rfl, hb13⟩; replace g0 := kst hb13 hl g0; replace g1 := kst hb13 hl g1; replace g2 := kst hb13 hl g2; replace g3 := kst hb13 hl g3; replace g4 := kst hb13 hl g4; replace hl := Nat.lt_of_lt_of_le hl hb13.size)
    | (go_at_call 16; (with_reducible refine (c7 _).mono ?_); rintro e w14 ⟨rfl, hb14⟩; replace g0 := kst hb14 hl g0; replace g1 := kst hb14 hl g1; replace g2 := kst hb14 hl g2; replace g3 := kst hb14 hl g3; replace g4 := kst hb14 hl g4; replace hl := Nat.lt_of_lt_of_le hl hb14.size)
    | (go_at_call 11; (with_reducible refine (cn _).mono ?_); rintro e w15 ⟨rfl, hb15⟩; replace g0 := kst hb15 hl g0; replace g1 := kst hb15 hl g1; replace g2 := kst hb15 hl g2; replace g3 := kst hb15 hl g3; replace g4 := kst hb15 hl g4; replace hl := Nat.lt_of_lt_of_le hl hb15.size)
    | (go_at_call 20; (with_reducible refine (wakes_any _).mono ?_); rintro e w16 ⟨rfl, hb16⟩; replace g0 := kst hb16 hl g0; replace g1 := kst hb16 hl g1; replace g2 := kst hb16 hl g2; replace g3 := kst hb16 hl g3; replace g4 := kst hb16 hl g4; replace hl := Nat.lt_of_lt_of_le hl hb16.size))
  go_ret
  exact ⟨rfl, (bt (bt (bt (bt (bt (bt (bt (bt (bt hb0 hb8) hb9) hb10) hb11) hb12) hb13) hb14) hb15) hb16)⟩
end Go.Proofs.Ytjadbekefonhlaa.gmt
