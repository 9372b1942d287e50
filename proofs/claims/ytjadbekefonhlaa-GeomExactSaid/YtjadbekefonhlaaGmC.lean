/-
  Package geom's functions for a right geometry: each answers its number, or why not. Conditions: a right geometry.
-/
import Derived.Test.YtjadbekefonhlaaGmB
namespace Go.Proofs.Ytjadbekefonhlaa.gmt
open Go.RowKit Go.Lib

theorem per_le {z d s l a : Int} (h : Ok z d s l a) : 2 ≤ d + 1 + s ∧ d + 1 + s ≤ 7 := by unfold Ok at h; omega
theorem mul_le {i n p P : Int} (hi : 0 ≤ i) (hn : i ≤ n) (hp : 0 ≤ p) (hP : p ≤ P) : 0 ≤ i * p ∧ i * p ≤ n * P :=
  ⟨Int.mul_nonneg hi hp, Int.mul_le_mul hn hP hp (by omega)⟩
/-- Whether it is so: the number, else nothing, and why. -/
def Told (R : Prop) (v why n e : Int) : Prop := (R → n = v ∧ e = 0) ∧ (¬ R → n = 0 ∧ e = why)

theorem cells_ok (z d s l a : Int) (w : World) (ho : Ok z d s l a) :
    Calls Try.prog 11 #[.agg #[.int .i64 z, .int .i64 d, .int .i64 s, .int .i64 l, .int .i64 a]] w fun e w' => e = .returned (.tuple #[.int .i64 (a + 2 * l + 2 * z + z * (d + 1 + s)), .int .i64 0]) ∧ Below w.heap.size w w' := by
  have hb0 := bl w (.cells #[.int .i64 z, .int .i64 d, .int .i64 s, .int .i64 l, .int .i64 a] 23)
  have hl : w.heap.size < (w.alloc (.cells #[.int .i64 z, .int .i64 d, .int .i64 s, .int .i64 l, .int .i64 a] 23)).heap.size := by simp
  obtain ⟨g0, g1, g2, g3, g4⟩ := five_new w z d s l a
  obtain ⟨h1, h2, h3, h4, h5⟩ := id ho
  have hp := per_le ho
  have hq := mul_le (i := z) (n := 4) (P := 7) (by omega) (by omega) (by omega) hp.2
  go_enter Try.func11, Try.ntmps11
  go_wp2_with fail
  generalize w.alloc (.cells #[.int .i64 z, .int .i64 d, .int .i64 s, .int .i64 l, .int .i64 a] 23) = w0 at *
  go_wp2_with (first
    | (go_at_call 10; (with_reducible refine (check_ok z d s l a _ ho).mono ?_); rintro e w8 ⟨rfl, hb8⟩; have g0 := kst hb8 hl g0; have g1 := kst hb8 hl g1; have g2 := kst hb8 hl g2; have g3 := kst hb8 hl g3; have g4 := kst hb8 hl g4; have hl := Nat.lt_of_lt_of_le hl hb8.size))
  go_region_held3 (fun W => W.cell? ⟨w.heap.size, 0, none⟩ = some (.int .i64 z) ∧ W.cell? ⟨w.heap.size, 1, none⟩ = some (.int .i64 d) ∧ W.cell? ⟨w.heap.size, 2, none⟩ = some (.int .i64 s) ∧ W.cell? ⟨w.heap.size, 3, none⟩ = some (.int .i64 l) ∧ W.cell? ⟨w.heap.size, 4, none⟩ = some (.int .i64 a) ∧ Below w8.heap.size w8 W)
    ((go_split_ands; refine ⟨?_, ?_, ?_, ?_, ?_, ?_⟩ <;> (first
      | assumption | exact below_dr (Below.refl _ _) | exact bt (by assumption) (by assumption)
      | exact kst (below_dr (Below.refl _ _)) hl (by assumption) | exact kst (by assumption) hl (by assumption) | exact kst (bt (by assumption) (by assumption)) hl (by assumption) | fail)))
    (first
      | (go_at_call 32; (with_reducible refine (slotStart_at z d s l a _ ho).mono ?_); rintro e w1 ⟨rfl, hb1⟩)
      | (go_at_call 33; (with_reducible refine (zoneSlots_at z d s l a _ ho).mono ?_); rintro e w2 ⟨rfl, hb2⟩)
      | fail)
  go_split_ands
  rw [w6 (z * (d + 1 + s)) (by omega) (by omega), w6 (a + 2 * l + 2 * z + z * (d + 1 + s)) (by omega) (by omega)]
  go_wp2
  go_ret2
  exact ⟨rfl, bt (bt hb0 hb8) (by assumption)⟩
theorem blocks_ok (z d s l a : Int) (w : World) (ho : Ok z d s l a) :
    Calls Try.prog 12 #[.agg #[.int .i64 z, .int .i64 d, .int .i64 s, .int .i64 l, .int .i64 a]] w fun e w' => e = .returned (.tuple #[.int .i64 (z * d), .int .i64 0]) ∧ Below w.heap.size w w' := by
  have hb0 := bl w (.cells #[.int .i64 z, .int .i64 d, .int .i64 s, .int .i64 l, .int .i64 a] 23)
  have hl : w.heap.size < (w.alloc (.cells #[.int .i64 z, .int .i64 d, .int .i64 s, .int .i64 l, .int .i64 a] 23)).heap.size := by simp
  obtain ⟨g0, g1, g2, g3, g4⟩ := five_new w z d s l a
  obtain ⟨h1, h2, h3, h4, h5⟩ := id ho
  have hq := mul_le (i := z) (n := 4) (p := d) (P := 4) (by omega) (by omega) (by omega) (by omega)
  go_enter Try.func12, Try.ntmps12
  go_wp2_with fail
  generalize w.alloc (.cells #[.int .i64 z, .int .i64 d, .int .i64 s, .int .i64 l, .int .i64 a] 23) = w0 at *
  go_wp2_with (first
    | (go_at_call 10; (with_reducible refine (check_ok z d s l a _ ho).mono ?_); rintro e w8 ⟨rfl, hb8⟩; have g0 := kst hb8 hl g0; have g1 := kst hb8 hl g1; have g2 := kst hb8 hl g2; have g3 := kst hb8 hl g3; have g4 := kst hb8 hl g4; have hl := Nat.lt_of_lt_of_le hl hb8.size))
  go_ret2
  exact ⟨rfl, bt hb0 hb8⟩
theorem sets_ok (z d s l a : Int) (w : World) (ho : Ok z d s l a) :
    Calls Try.prog 18 #[.agg #[.int .i64 z, .int .i64 d, .int .i64 s, .int .i64 l, .int .i64 a]] w fun e w' => e = .returned (.tuple #[.int .i64 (z + l + z + 1), .int .i64 0]) ∧ Below w.heap.size w w' := by
  have hb0 := bl w (.cells #[.int .i64 z, .int .i64 d, .int .i64 s, .int .i64 l, .int .i64 a] 23)
  have hl : w.heap.size < (w.alloc (.cells #[.int .i64 z, .int .i64 d, .int .i64 s, .int .i64 l, .int .i64 a] 23)).heap.size := by simp
  obtain ⟨g0, g1, g2, g3, g4⟩ := five_new w z d s l a
  obtain ⟨h1, h2, h3, h4, h5⟩ := id ho
  go_enter Try.func18, Try.ntmps18
  go_wp2_with fail
  generalize w.alloc (.cells #[.int .i64 z, .int .i64 d, .int .i64 s, .int .i64 l, .int .i64 a] 23) = w0 at *
  go_wp2_with (first
    | (go_at_call 10; (with_reducible refine (check_ok z d s l a _ ho).mono ?_); rintro e w8 ⟨rfl, hb8⟩; have g0 := kst hb8 hl g0; have g1 := kst hb8 hl g1; have g2 := kst hb8 hl g2; have g3 := kst hb8 hl g3; have g4 := kst hb8 hl g4; have hl := Nat.lt_of_lt_of_le hl hb8.size))
  go_wp2_with (first
    | (go_at_call 39; (with_reducible refine (anchorSet_at z d s l a _ ho).mono ?_); rintro e w9 ⟨rfl, hb9⟩))
  go_ret2
  exact ⟨rfl, bt (bt hb0 hb8) hb9⟩
theorem anchor_at (z d s l a i n e : Int) (w : World) (ho : Ok z d s l a) (ht : Told (0 ≤ i ∧ i < a) (i) 1 n e) :
    Calls Try.prog 13 #[.agg #[.int .i64 z, .int .i64 d, .int .i64 s, .int .i64 l, .int .i64 a], .int .i64 i] w fun r w' => r = .returned (.tuple #[.int .i64 n, .int .i64 e]) ∧ Below w.heap.size w w' := by
  have hb0 := bl w (.cells #[.int .i64 z, .int .i64 d, .int .i64 s, .int .i64 l, .int .i64 a] 23)
  have hl : w.heap.size < (w.alloc (.cells #[.int .i64 z, .int .i64 d, .int .i64 s, .int .i64 l, .int .i64 a] 23)).heap.size := by simp
  obtain ⟨g0, g1, g2, g3, g4⟩ := five_new w z d s l a
  obtain ⟨h1, h2, h3, h4, h5⟩ := id ho
  by_cases hi : 0 ≤ i ∧ i < a
  · obtain ⟨hn, rfl⟩ := ht.1 hi
    subst n
    have ci := fun W => isIndex_at true i (a) W (iff_of_true rfl hi)
    clear hi
    clear ht
    go_enter Try.func13, Try.ntmps13
    go_wp2_with fail
    generalize w.alloc (.cells #[.int .i64 z, .int .i64 d, .int .i64 s, .int .i64 l, .int .i64 a] 23) = w0 at *
    go_wp2_with (first
      | (go_at_call 10; (with_reducible refine (check_ok z d s l a _ ho).mono ?_); rintro e w8 ⟨rfl, hb8⟩; have g0 := kst hb8 hl g0; have g1 := kst hb8 hl g1; have g2 := kst hb8 hl g2; have g3 := kst hb8 hl g3; have g4 := kst hb8 hl g4; have hl := Nat.lt_of_lt_of_le hl hb8.size)
      | (go_at_call 34; (with_reducible refine (ci _).mono ?_); rintro e w9 ⟨rfl, rfl⟩))
    go_ret2
    exact ⟨rfl, bt hb0 hb8⟩
  · obtain ⟨rfl, rfl⟩ := ht.2 hi
    have ci := fun W => isIndex_at false i (a) W (iff_of_false Bool.false_ne_true hi)
    clear hi
    clear ht
    go_enter Try.func13, Try.ntmps13
    go_wp2_with fail
    generalize w.alloc (.cells #[.int .i64 z, .int .i64 d, .int .i64 s, .int .i64 l, .int .i64 a] 23) = w0 at *
    go_wp2_with (first
      | (go_at_call 10; (with_reducible refine (check_ok z d s l a _ ho).mono ?_); rintro e w8 ⟨rfl, hb8⟩; have g0 := kst hb8 hl g0; have g1 := kst hb8 hl g1; have g2 := kst hb8 hl g2; have g3 := kst hb8 hl g3; have g4 := kst hb8 hl g4; have hl := Nat.lt_of_lt_of_le hl hb8.size)
      | (go_at_call 34; (with_reducible refine (ci _).mono ?_); rintro e w9 ⟨rfl, rfl⟩))
    go_ret2
    exact ⟨rfl, bt hb0 hb8⟩
theorem log_at (z d s l a i j n e : Int) (w : World) (ho : Ok z d s l a) (ht : Told ((0 ≤ i ∧ i < 2) ∧ 0 ≤ j ∧ j < l) (a + i * l + j) 1 n e) :
    Calls Try.prog 14 #[.agg #[.int .i64 z, .int .i64 d, .int .i64 s, .int .i64 l, .int .i64 a], .int .i64 i, .int .i64 j] w fun r w' => r = .returned (.tuple #[.int .i64 n, .int .i64 e]) ∧ Below w.heap.size w w' := by
  have hb0 := bl w (.cells #[.int .i64 z, .int .i64 d, .int .i64 s, .int .i64 l, .int .i64 a] 23)
  have hl : w.heap.size < (w.alloc (.cells #[.int .i64 z, .int .i64 d, .int .i64 s, .int .i64 l, .int .i64 a] 23)).heap.size := by simp
  obtain ⟨g0, g1, g2, g3, g4⟩ := five_new w z d s l a
  obtain ⟨h1, h2, h3, h4, h5⟩ := id ho
  by_cases hi : 0 ≤ i ∧ i < 2
  · by_cases hj : 0 ≤ j ∧ j < l
    · obtain ⟨rfl, rfl⟩ := ht.1 ⟨hi, hj⟩
      have ci := fun W => isIndex_at true i (2) W (iff_of_true rfl hi)
      have cj := fun W => isIndex_at true j (l) W (iff_of_true rfl hj)
      have hq := mul_le (i := i) (n := 1) (p := l) (P := 30) (by omega) (by omega) (by omega) (by omega)
      clear ht
      go_enter Try.func14, Try.ntmps14
      go_wp2_with fail
      generalize w.alloc (.cells #[.int .i64 z, .int .i64 d, .int .i64 s, .int .i64 l, .int .i64 a] 23) = w0 at *
      go_wp2_with (first
        | (go_at_call 10; (with_reducible refine (check_ok z d s l a _ ho).mono ?_); rintro e w8 ⟨rfl, hb8⟩; have g0 := kst hb8 hl g0; have g1 := kst hb8 hl g1; have g2 := kst hb8 hl g2; have g3 := kst hb8 hl g3; have g4 := kst hb8 hl g4; have hl := Nat.lt_of_lt_of_le hl hb8.size)
        | (go_at_call 34; (with_reducible refine (ci _).mono ?_); rintro e w9 ⟨rfl, rfl⟩)
        | (go_at_call 34; (with_reducible refine (cj _).mono ?_); rintro e w10 ⟨rfl, rfl⟩))
      go_region_held3 (fun W => W.cell? ⟨w.heap.size, 0, none⟩ = some (.int .i64 z) ∧ W.cell? ⟨w.heap.size, 1, none⟩ = some (.int .i64 d) ∧ W.cell? ⟨w.heap.size, 2, none⟩ = some (.int .i64 s) ∧ W.cell? ⟨w.heap.size, 3, none⟩ = some (.int .i64 l) ∧ W.cell? ⟨w.heap.size, 4, none⟩ = some (.int .i64 a) ∧ Below w8.heap.size w8 W)
        ((go_split_ands; refine ⟨?_, ?_, ?_, ?_, ?_, ?_⟩ <;> (first
          | assumption | exact below_dr (Below.refl _ _) | exact bt (by assumption) (by assumption)
          | exact kst (below_dr (Below.refl _ _)) hl (by assumption) | exact kst (by assumption) hl (by assumption) | exact kst (bt (by assumption) (by assumption)) hl (by assumption) | fail)))
        (first
          | (go_at_call 35; (with_reducible refine (logStart_at z d s l a _).mono ?_); rintro e w1 ⟨rfl, hb1⟩)
          | fail)
      go_split_ands
      rw [w6 (i * l) (by omega) (by omega), w6 (a + i * l) (by omega) (by omega), w6 (a + i * l + j) (by omega) (by omega)]
      go_wp2
      go_ret2
      exact ⟨rfl, bt (bt hb0 hb8) (by assumption)⟩
    · obtain ⟨rfl, rfl⟩ := ht.2 fun h => hj h.2
      have ci := fun W => isIndex_at true i (2) W (iff_of_true rfl hi)
      have cj := fun W => isIndex_at false j (l) W (iff_of_false Bool.false_ne_true hj)
      clear hi hj
      clear ht
      go_enter Try.func14, Try.ntmps14
      go_wp2_with fail
      generalize w.alloc (.cells #[.int .i64 z, .int .i64 d, .int .i64 s, .int .i64 l, .int .i64 a] 23) = w0 at *
      go_wp2_with (first
        | (go_at_call 10; (with_reducible refine (check_ok z d s l a _ ho).mono ?_); rintro e w8 ⟨rfl, hb8⟩; have g0 := kst hb8 hl g0; have g1 := kst hb8 hl g1; have g2 := kst hb8 hl g2; have g3 := kst hb8 hl g3; have g4 := kst hb8 hl g4; have hl := Nat.lt_of_lt_of_le hl hb8.size)
        | (go_at_call 34; (with_reducible refine (ci _).mono ?_); rintro e w9 ⟨rfl, rfl⟩)
        | (go_at_call 34; (with_reducible refine (cj _).mono ?_); rintro e w10 ⟨rfl, rfl⟩))
      go_ret2
      exact ⟨rfl, bt hb0 hb8⟩
  · obtain ⟨rfl, rfl⟩ := ht.2 fun h => hi h.1
    have ci := fun W => isIndex_at false i (2) W (iff_of_false Bool.false_ne_true hi)
    clear hi
    clear ht
    go_enter Try.func14, Try.ntmps14
    go_wp2_with fail
    generalize w.alloc (.cells #[.int .i64 z, .int .i64 d, .int .i64 s, .int .i64 l, .int .i64 a] 23) = w0 at *
    go_wp2_with (first
      | (go_at_call 10; (with_reducible refine (check_ok z d s l a _ ho).mono ?_); rintro e w8 ⟨rfl, hb8⟩; have g0 := kst hb8 hl g0; have g1 := kst hb8 hl g1; have g2 := kst hb8 hl g2; have g3 := kst hb8 hl g3; have g4 := kst hb8 hl g4; have hl := Nat.lt_of_lt_of_le hl hb8.size)
      | (go_at_call 34; (with_reducible refine (ci _).mono ?_); rintro e w9 ⟨rfl, rfl⟩))
    go_ret2
    exact ⟨rfl, bt hb0 hb8⟩
theorem table_at (z d s l a i j n e : Int) (w : World) (ho : Ok z d s l a) (ht : Told ((0 ≤ i ∧ i < z) ∧ 0 ≤ j ∧ j < 2) (a + 2 * l + i * 2 + j) 1 n e) :
    Calls Try.prog 15 #[.agg #[.int .i64 z, .int .i64 d, .int .i64 s, .int .i64 l, .int .i64 a], .int .i64 i, .int .i64 j] w fun r w' => r = .returned (.tuple #[.int .i64 n, .int .i64 e]) ∧ Below w.heap.size w w' := by
  have hb0 := bl w (.cells #[.int .i64 z, .int .i64 d, .int .i64 s, .int .i64 l, .int .i64 a] 23)
  have hl : w.heap.size < (w.alloc (.cells #[.int .i64 z, .int .i64 d, .int .i64 s, .int .i64 l, .int .i64 a] 23)).heap.size := by simp
  obtain ⟨g0, g1, g2, g3, g4⟩ := five_new w z d s l a
  obtain ⟨h1, h2, h3, h4, h5⟩ := id ho
  by_cases hi : 0 ≤ i ∧ i < z
  · by_cases hj : 0 ≤ j ∧ j < 2
    · obtain ⟨rfl, rfl⟩ := ht.1 ⟨hi, hj⟩
      have ci := fun W => isIndex_at true i (z) W (iff_of_true rfl hi)
      have cj := fun W => isIndex_at true j (2) W (iff_of_true rfl hj)
      clear ht
      go_enter Try.func15, Try.ntmps15
      go_wp2_with fail
      generalize w.alloc (.cells #[.int .i64 z, .int .i64 d, .int .i64 s, .int .i64 l, .int .i64 a] 23) = w0 at *
      go_wp2_with (first
        | (go_at_call 10; (with_reducible refine (check_ok z d s l a _ ho).mono ?_); rintro e w8 ⟨rfl, hb8⟩; have g0 := kst hb8 hl g0; have g1 := kst hb8 hl g1; have g2 := kst hb8 hl g2; have g3 := kst hb8 hl g3; have g4 := kst hb8 hl g4; have hl := Nat.lt_of_lt_of_le hl hb8.size)
        | (go_at_call 34; (with_reducible refine (ci _).mono ?_); rintro e w9 ⟨rfl, rfl⟩)
        | (go_at_call 34; (with_reducible refine (cj _).mono ?_); rintro e w10 ⟨rfl, rfl⟩)
        | (go_at_call 36; (with_reducible refine (tableStart_at z d s l a _ ho).mono ?_); rintro e w11 ⟨rfl, hb11⟩))
      go_ret2
      exact ⟨rfl, bt (bt hb0 hb8) hb11⟩
    · obtain ⟨rfl, rfl⟩ := ht.2 fun h => hj h.2
      have ci := fun W => isIndex_at true i (z) W (iff_of_true rfl hi)
      have cj := fun W => isIndex_at false j (2) W (iff_of_false Bool.false_ne_true hj)
      clear hi hj
      clear ht
      go_enter Try.func15, Try.ntmps15
      go_wp2_with fail
      generalize w.alloc (.cells #[.int .i64 z, .int .i64 d, .int .i64 s, .int .i64 l, .int .i64 a] 23) = w0 at *
      go_wp2_with (first
        | (go_at_call 10; (with_reducible refine (check_ok z d s l a _ ho).mono ?_); rintro e w8 ⟨rfl, hb8⟩; have g0 := kst hb8 hl g0; have g1 := kst hb8 hl g1; have g2 := kst hb8 hl g2; have g3 := kst hb8 hl g3; have g4 := kst hb8 hl g4; have hl := Nat.lt_of_lt_of_le hl hb8.size)
        | (go_at_call 34; (with_reducible refine (ci _).mono ?_); rintro e w9 ⟨rfl, rfl⟩)
        | (go_at_call 34; (with_reducible refine (cj _).mono ?_); rintro e w10 ⟨rfl, rfl⟩))
      go_ret2
      exact ⟨rfl, bt hb0 hb8⟩
  · obtain ⟨rfl, rfl⟩ := ht.2 fun h => hi h.1
    have ci := fun W => isIndex_at false i (z) W (iff_of_false Bool.false_ne_true hi)
    clear hi
    clear ht
    go_enter Try.func15, Try.ntmps15
    go_wp2_with fail
    generalize w.alloc (.cells #[.int .i64 z, .int .i64 d, .int .i64 s, .int .i64 l, .int .i64 a] 23) = w0 at *
    go_wp2_with (first
      | (go_at_call 10; (with_reducible refine (check_ok z d s l a _ ho).mono ?_); rintro e w8 ⟨rfl, hb8⟩; have g0 := kst hb8 hl g0; have g1 := kst hb8 hl g1; have g2 := kst hb8 hl g2; have g3 := kst hb8 hl g3; have g4 := kst hb8 hl g4; have hl := Nat.lt_of_lt_of_le hl hb8.size)
      | (go_at_call 34; (with_reducible refine (ci _).mono ?_); rintro e w9 ⟨rfl, rfl⟩))
    go_ret2
    exact ⟨rfl, bt hb0 hb8⟩
theorem slot_at (z d s l a i j n e : Int) (w : World) (ho : Ok z d s l a) (ht : Told ((0 ≤ i ∧ i < z) ∧ 0 ≤ j ∧ j < d + 1 + s) (a + 2 * l + 2 * z + i * (d + 1 + s) + j) 1 n e) :
    Calls Try.prog 16 #[.agg #[.int .i64 z, .int .i64 d, .int .i64 s, .int .i64 l, .int .i64 a], .int .i64 i, .int .i64 j] w fun r w' => r = .returned (.tuple #[.int .i64 n, .int .i64 e]) ∧ Below w.heap.size w w' := by
  have hb0 := bl w (.cells #[.int .i64 z, .int .i64 d, .int .i64 s, .int .i64 l, .int .i64 a] 23)
  have hl : w.heap.size < (w.alloc (.cells #[.int .i64 z, .int .i64 d, .int .i64 s, .int .i64 l, .int .i64 a] 23)).heap.size := by simp
  obtain ⟨g0, g1, g2, g3, g4⟩ := five_new w z d s l a
  obtain ⟨h1, h2, h3, h4, h5⟩ := id ho
  by_cases hi : 0 ≤ i ∧ i < z
  · by_cases hj : 0 ≤ j ∧ j < d + 1 + s
    · obtain ⟨rfl, rfl⟩ := ht.1 ⟨hi, hj⟩
      have ci := fun W => isIndex_at true i (z) W (iff_of_true rfl hi)
      have cj := fun W => isIndex_at true j (d + 1 + s) W (iff_of_true rfl hj)
      have hp := per_le ho
      have hq := mul_le (i := i) (n := 3) (P := 7) (by omega) (by omega) (by omega) hp.2
      clear ht
      go_enter Try.func16, Try.ntmps16
      go_wp2_with fail
      generalize w.alloc (.cells #[.int .i64 z, .int .i64 d, .int .i64 s, .int .i64 l, .int .i64 a] 23) = w0 at *
      go_wp2_with (first
        | (go_at_call 10; (with_reducible refine (check_ok z d s l a _ ho).mono ?_); rintro e w8 ⟨rfl, hb8⟩; have g0 := kst hb8 hl g0; have g1 := kst hb8 hl g1; have g2 := kst hb8 hl g2; have g3 := kst hb8 hl g3; have g4 := kst hb8 hl g4; have hl := Nat.lt_of_lt_of_le hl hb8.size)
        | (go_at_call 34; (with_reducible refine (ci _).mono ?_); rintro e w9 ⟨rfl, rfl⟩)
        | (go_at_call 33; (with_reducible refine (zoneSlots_at z d s l a _ ho).mono ?_); rintro e w10 ⟨rfl, hb10⟩; have g0 := kst hb10 hl g0; have g1 := kst hb10 hl g1; have g2 := kst hb10 hl g2; have g3 := kst hb10 hl g3; have g4 := kst hb10 hl g4; have hl := Nat.lt_of_lt_of_le hl hb10.size)
        | (go_at_call 34; (with_reducible refine (cj _).mono ?_); rintro e w11 ⟨rfl, rfl⟩))
      go_region_held3 (fun W => W.cell? ⟨w.heap.size, 0, none⟩ = some (.int .i64 z) ∧ W.cell? ⟨w.heap.size, 1, none⟩ = some (.int .i64 d) ∧ W.cell? ⟨w.heap.size, 2, none⟩ = some (.int .i64 s) ∧ W.cell? ⟨w.heap.size, 3, none⟩ = some (.int .i64 l) ∧ W.cell? ⟨w.heap.size, 4, none⟩ = some (.int .i64 a) ∧ Below w10.heap.size w10 W)
        ((go_split_ands; refine ⟨?_, ?_, ?_, ?_, ?_, ?_⟩ <;> (first
          | assumption | exact below_dr (Below.refl _ _) | exact bt (by assumption) (by assumption)
          | exact kst (below_dr (Below.refl _ _)) hl (by assumption) | exact kst (by assumption) hl (by assumption) | exact kst (bt (by assumption) (by assumption)) hl (by assumption) | fail)))
        (first
          | (go_at_call 32; (with_reducible refine (slotStart_at z d s l a _ ho).mono ?_); rintro e w1 ⟨rfl, hb1⟩)
          | (go_at_call 33; (with_reducible refine (zoneSlots_at z d s l a _ ho).mono ?_); rintro e w2 ⟨rfl, hb2⟩)
          | fail)
      go_split_ands
      rw [w6 (i * (d + 1 + s)) (by omega) (by omega), w6 (a + 2 * l + 2 * z + i * (d + 1 + s)) (by omega) (by omega), w6 (a + 2 * l + 2 * z + i * (d + 1 + s) + j) (by omega) (by omega)]
      go_wp2
      go_ret2
      exact ⟨rfl, bt (bt (bt hb0 hb8) hb10) (by assumption)⟩
    · obtain ⟨rfl, rfl⟩ := ht.2 fun h => hj h.2
      have ci := fun W => isIndex_at true i (z) W (iff_of_true rfl hi)
      have cj := fun W => isIndex_at false j (d + 1 + s) W (iff_of_false Bool.false_ne_true hj)
      clear hi hj
      clear ht
      go_enter Try.func16, Try.ntmps16
      go_wp2_with fail
      generalize w.alloc (.cells #[.int .i64 z, .int .i64 d, .int .i64 s, .int .i64 l, .int .i64 a] 23) = w0 at *
      go_wp2_with (first
        | (go_at_call 10; (with_reducible refine (check_ok z d s l a _ ho).mono ?_); rintro e w8 ⟨rfl, hb8⟩; have g0 := kst hb8 hl g0; have g1 := kst hb8 hl g1; have g2 := kst hb8 hl g2; have g3 := kst hb8 hl g3; have g4 := kst hb8 hl g4; have hl := Nat.lt_of_lt_of_le hl hb8.size)
        | (go_at_call 34; (with_reducible refine (ci _).mono ?_); rintro e w9 ⟨rfl, rfl⟩)
        | (go_at_call 33; (with_reducible refine (zoneSlots_at z d s l a _ ho).mono ?_); rintro e w10 ⟨rfl, hb10⟩; have g0 := kst hb10 hl g0; have g1 := kst hb10 hl g1; have g2 := kst hb10 hl g2; have g3 := kst hb10 hl g3; have g4 := kst hb10 hl g4; have hl := Nat.lt_of_lt_of_le hl hb10.size)
        | (go_at_call 34; (with_reducible refine (cj _).mono ?_); rintro e w11 ⟨rfl, rfl⟩))
      go_ret2
      exact ⟨rfl, bt (bt hb0 hb8) hb10⟩
  · obtain ⟨rfl, rfl⟩ := ht.2 fun h => hi h.1
    have ci := fun W => isIndex_at false i (z) W (iff_of_false Bool.false_ne_true hi)
    clear hi
    clear ht
    go_enter Try.func16, Try.ntmps16
    go_wp2_with fail
    generalize w.alloc (.cells #[.int .i64 z, .int .i64 d, .int .i64 s, .int .i64 l, .int .i64 a] 23) = w0 at *
    go_wp2_with (first
      | (go_at_call 10; (with_reducible refine (check_ok z d s l a _ ho).mono ?_); rintro e w8 ⟨rfl, hb8⟩; have g0 := kst hb8 hl g0; have g1 := kst hb8 hl g1; have g2 := kst hb8 hl g2; have g3 := kst hb8 hl g3; have g4 := kst hb8 hl g4; have hl := Nat.lt_of_lt_of_le hl hb8.size)
      | (go_at_call 34; (with_reducible refine (ci _).mono ?_); rintro e w9 ⟨rfl, rfl⟩))
    go_ret2
    exact ⟨rfl, bt hb0 hb8⟩
theorem split_at (z d s l a i n m e : Int) (w : World) (ho : Ok z d s l a) (ht : Told (0 ≤ i ∧ i < z * d) (i / d) 17 n e ∧ Told (0 ≤ i ∧ i < z * d) (i % d) 17 m e) :
    Calls Try.prog 19 #[.agg #[.int .i64 z, .int .i64 d, .int .i64 s, .int .i64 l, .int .i64 a], .int .i64 i] w fun r w' => r = .returned (.tuple #[.int .i64 n, .int .i64 m, .int .i64 e]) ∧ Below w.heap.size w w' := by
  have hb0 := bl w (.cells #[.int .i64 z, .int .i64 d, .int .i64 s, .int .i64 l, .int .i64 a] 23)
  have hl : w.heap.size < (w.alloc (.cells #[.int .i64 z, .int .i64 d, .int .i64 s, .int .i64 l, .int .i64 a] 23)).heap.size := by simp
  obtain ⟨g0, g1, g2, g3, g4⟩ := five_new w z d s l a
  obtain ⟨h1, h2, h3, h4, h5⟩ := id ho
  have hzd := mul_le (i := z) (n := 4) (p := d) (P := 4) (by omega) (by omega) (by omega) (by omega)
  have hn0 : (d == 0) = false := beq_eq_false_iff_ne.2 (by omega)
  by_cases hi : 0 ≤ i ∧ i < z * d
  · obtain ⟨rfl, rfl⟩ := ht.1.1 hi
    obtain ⟨rfl, -⟩ := ht.2.1 hi
    have ci := fun W => isIndex_at true i (z * d) W (iff_of_true rfl hi)
    clear ht
    go_enter Try.func19, Try.ntmps19
    go_wp2_with fail
    generalize w.alloc (.cells #[.int .i64 z, .int .i64 d, .int .i64 s, .int .i64 l, .int .i64 a] 23) = w0 at *
    go_wp2_with (first
      | (go_at_call 12; (with_reducible refine (blocks_ok z d s l a _ ho).mono ?_); rintro e w8 ⟨rfl, hb8⟩; have g0 := kst hb8 hl g0; have g1 := kst hb8 hl g1; have g2 := kst hb8 hl g2; have g3 := kst hb8 hl g3; have g4 := kst hb8 hl g4; have hl := Nat.lt_of_lt_of_le hl hb8.size)
      | (go_at_call 34; (with_reducible refine (ci _).mono ?_); rintro e w9 ⟨rfl, rfl⟩))
    go_quiet (fail)
    go_wp2
    go_ret3
    exact ⟨rfl, bt hb0 (below_dn hb8 _)⟩
  · obtain ⟨rfl, rfl⟩ := ht.1.2 hi
    obtain ⟨rfl, -⟩ := ht.2.2 hi
    have ci := fun W => isIndex_at false i (z * d) W (iff_of_false Bool.false_ne_true hi)
    clear ht
    go_enter Try.func19, Try.ntmps19
    go_wp2_with fail
    generalize w.alloc (.cells #[.int .i64 z, .int .i64 d, .int .i64 s, .int .i64 l, .int .i64 a] 23) = w0 at *
    go_wp2_with (first
      | (go_at_call 12; (with_reducible refine (blocks_ok z d s l a _ ho).mono ?_); rintro e w8 ⟨rfl, hb8⟩; have g0 := kst hb8 hl g0; have g1 := kst hb8 hl g1; have g2 := kst hb8 hl g2; have g3 := kst hb8 hl g3; have g4 := kst hb8 hl g4; have hl := Nat.lt_of_lt_of_le hl hb8.size)
      | (go_at_call 34; (with_reducible refine (ci _).mono ?_); rintro e w9 ⟨rfl, rfl⟩))
    go_ret3
    exact ⟨rfl, bt hb0 hb8⟩
end Go.Proofs.Ytjadbekefonhlaa.gmt
