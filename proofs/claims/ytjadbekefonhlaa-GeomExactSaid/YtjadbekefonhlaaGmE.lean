/-
  The document's own answers for geometries (as the statements' package gives them), each by its contract; what wakes a statement. Conditions: a right geometry.
-/
import Derived.Test.YtjadbekefonhlaaGmD
namespace Go.Proofs.Ytjadbekefonhlaa.gmt
open Go.RowKit Go.Lib

theorem rin_at (x : Bool) (n lo hi : Int) (w : World) (hx : x = true ↔ lo ≤ n ∧ n ≤ hi) :
    Calls Try.prog 30 #[.int .i64 n, .int .i64 lo, .int .i64 hi] w fun e w' => e = .returned (.bool x) ∧ w = w' := by
  by_cases h1 : lo ≤ n
  · by_cases h2 : n ≤ hi
    · obtain rfl : x = true := hx.2 ⟨h1, h2⟩
      clear hx
      go_enter Try.func30, Try.ntmps30
      go_wp2
      go_ret
      exact ⟨rfl, rfl⟩
    · obtain rfl : x = false := by
        cases x with
        | false => rfl
        | true => exact absurd (hx.1 rfl).2 h2
      clear hx
      go_enter Try.func30, Try.ntmps30
      go_wp2
      go_ret
      exact ⟨rfl, rfl⟩
  · obtain rfl : x = false := by
      cases x with
      | false => rfl
      | true => exact absurd (hx.1 rfl).1 h1
    clear hx
    go_enter Try.func30, Try.ntmps30
    go_wp2
    go_ret
    exact ⟨rfl, rfl⟩
theorem rgeo_no (z d s l a : Int) (w : World) (ho : ¬ Ok z d s l a) :
    Calls Try.prog 9 #[.agg #[.int .i64 z, .int .i64 d, .int .i64 s, .int .i64 l, .int .i64 a]] w fun e w' => e = .returned (.bool false) ∧ Below w.heap.size w w' := by
  by_cases h1 : 1 ≤ z ∧ z ≤ 4
  · skip
    by_cases h2 : 1 ≤ d ∧ d ≤ 4
    · skip
      by_cases h3 : 0 ≤ s ∧ s ≤ 2
      · skip
        by_cases h4 : 14 ≤ l ∧ l ≤ 30
        · skip
          by_cases h5 : 1 ≤ a ∧ a ≤ 3
          · skip
            exact absurd ⟨h1, h2, h3, h4, h5⟩ ho
          · clear ho
            have c1 := fun W => rin_at true z 1 4 W (iff_of_true rfl h1)
            have c2 := fun W => rin_at true d 1 4 W (iff_of_true rfl h2)
            have c3 := fun W => rin_at true s 0 2 W (iff_of_true rfl h3)
            have c4 := fun W => rin_at true l 14 30 W (iff_of_true rfl h4)
            have c5 := fun W => rin_at false a 1 3 W (iff_of_false Bool.false_ne_true h5)
            clear h1 h2 h3 h4 h5
            go_enter Try.func9, Try.ntmps9
            go_wp2_with (first
              | (go_at_call 30; (with_reducible refine (c1 _).mono ?_); rintro e w1 ⟨rfl, rfl⟩)
              | (go_at_call 30; (with_reducible refine (c2 _).mono ?_); rintro e w2 ⟨rfl, rfl⟩)
              | (go_at_call 30; (with_reducible refine (c3 _).mono ?_); rintro e w3 ⟨rfl, rfl⟩)
              | (go_at_call 30; (with_reducible refine (c4 _).mono ?_); rintro e w4 ⟨rfl, rfl⟩)
              | (go_at_call 30; (with_reducible refine (c5 _).mono ?_); rintro e w5 ⟨rfl, rfl⟩))
            go_ret
            exact ⟨rfl, bl w _⟩
        · clear ho
          have c1 := fun W => rin_at true z 1 4 W (iff_of_true rfl h1)
          have c2 := fun W => rin_at true d 1 4 W (iff_of_true rfl h2)
          have c3 := fun W => rin_at true s 0 2 W (iff_of_true rfl h3)
          have c4 := fun W => rin_at false l 14 30 W (iff_of_false Bool.false_ne_true h4)
          clear h1 h2 h3 h4
          go_enter Try.func9, Try.ntmps9
          go_wp2_with (first
            | (go_at_call 30; (with_reducible refine (c1 _).mono ?_); rintro e w1 ⟨rfl, rfl⟩)
            | (go_at_call 30; (with_reducible refine (c2 _).mono ?_); rintro e w2 ⟨rfl, rfl⟩)
            | (go_at_call 30; (with_reducible refine (c3 _).mono ?_); rintro e w3 ⟨rfl, rfl⟩)
            | (go_at_call 30; (with_reducible refine (c4 _).mono ?_); rintro e w4 ⟨rfl, rfl⟩))
          go_ret
          exact ⟨rfl, bl w _⟩
      · clear ho
        have c1 := fun W => rin_at true z 1 4 W (iff_of_true rfl h1)
        have c2 := fun W => rin_at true d 1 4 W (iff_of_true rfl h2)
        have c3 := fun W => rin_at false s 0 2 W (iff_of_false Bool.false_ne_true h3)
        clear h1 h2 h3
        go_enter Try.func9, Try.ntmps9
        go_wp2_with (first
          | (go_at_call 30; (with_reducible refine (c1 _).mono ?_); rintro e w1 ⟨rfl, rfl⟩)
          | (go_at_call 30; (with_reducible refine (c2 _).mono ?_); rintro e w2 ⟨rfl, rfl⟩)
          | (go_at_call 30; (with_reducible refine (c3 _).mono ?_); rintro e w3 ⟨rfl, rfl⟩))
        go_ret
        exact ⟨rfl, bl w _⟩
    · clear ho
      have c1 := fun W => rin_at true z 1 4 W (iff_of_true rfl h1)
      have c2 := fun W => rin_at false d 1 4 W (iff_of_false Bool.false_ne_true h2)
      clear h1 h2
      go_enter Try.func9, Try.ntmps9
      go_wp2_with (first
        | (go_at_call 30; (with_reducible refine (c1 _).mono ?_); rintro e w1 ⟨rfl, rfl⟩)
        | (go_at_call 30; (with_reducible refine (c2 _).mono ?_); rintro e w2 ⟨rfl, rfl⟩))
      go_ret
      exact ⟨rfl, bl w _⟩
  · clear ho
    have c1 := fun W => rin_at false z 1 4 W (iff_of_false Bool.false_ne_true h1)
    clear h1
    go_enter Try.func9, Try.ntmps9
    go_wp2_with (first
      | (go_at_call 30; (with_reducible refine (c1 _).mono ?_); rintro e w1 ⟨rfl, rfl⟩))
    go_ret
    exact ⟨rfl, bl w _⟩
theorem rgeo_ok (z d s l a : Int) (w : World) (ho : Ok z d s l a) :
    Calls Try.prog 9 #[.agg #[.int .i64 z, .int .i64 d, .int .i64 s, .int .i64 l, .int .i64 a]] w fun e w' => e = .returned (.bool true) ∧ Below w.heap.size w w' := by
  obtain ⟨h1, h2, h3, h4, h5⟩ := ho
  have c1 := fun W => rin_at true z 1 4 W (iff_of_true rfl h1)
  have c2 := fun W => rin_at true d 1 4 W (iff_of_true rfl h2)
  have c3 := fun W => rin_at true s 0 2 W (iff_of_true rfl h3)
  have c4 := fun W => rin_at true l 14 30 W (iff_of_true rfl h4)
  have c5 := fun W => rin_at true a 1 3 W (iff_of_true rfl h5)
  clear h1 h2 h3 h4 h5
  go_enter Try.func9, Try.ntmps9
  go_wp2_with (first
    | (go_at_call 30; (with_reducible refine (c1 _).mono ?_); rintro e w1 ⟨rfl, rfl⟩)
    | (go_at_call 30; (with_reducible refine (c2 _).mono ?_); rintro e w2 ⟨rfl, rfl⟩)
    | (go_at_call 30; (with_reducible refine (c3 _).mono ?_); rintro e w3 ⟨rfl, rfl⟩)
    | (go_at_call 30; (with_reducible refine (c4 _).mono ?_); rintro e w4 ⟨rfl, rfl⟩)
    | (go_at_call 30; (with_reducible refine (c5 _).mono ?_); rintro e w5 ⟨rfl, rfl⟩))
  go_ret
  exact ⟨rfl, bl w _⟩
theorem rgeo_at (x : Bool) (z d s l a : Int) (w : World) (hx : x = true ↔ Ok z d s l a) :
    Calls Try.prog 9 #[.agg #[.int .i64 z, .int .i64 d, .int .i64 s, .int .i64 l, .int .i64 a]] w fun e w' => e = .returned (.bool x) ∧ Below w.heap.size w w' := by
  by_cases ho : Ok z d s l a
  · obtain rfl : x = true := hx.2 ho
    exact rgeo_ok z d s l a w ho
  · obtain rfl : x = false := by
      cases x with
      | false => rfl
      | true => exact absurd (hx.1 rfl) ho
    exact rgeo_no z d s l a w ho
theorem rper_at (z d s l a : Int) (w : World) (ho : Ok z d s l a) :
    Calls Try.prog 25 #[.agg #[.int .i64 z, .int .i64 d, .int .i64 s, .int .i64 l, .int .i64 a]] w fun r w' => r = .returned (.int .i64 (d + 1 + s)) ∧ Below w.heap.size w w' := by
  have hb0 := bl w (.cells #[.int .i64 z, .int .i64 d, .int .i64 s, .int .i64 l, .int .i64 a] 23)
  have hl : w.heap.size < (w.alloc (.cells #[.int .i64 z, .int .i64 d, .int .i64 s, .int .i64 l, .int .i64 a] 23)).heap.size := by simp
  obtain ⟨g0, g1, g2, g3, g4⟩ := five_new w z d s l a
  obtain ⟨h1, h2, h3, h4, h5⟩ := id ho
  go_enter Try.func25, Try.ntmps25
  go_wp2
  go_ret
  exact ⟨rfl, hb0⟩
theorem rlog_at (z d s l a i j : Int) (w : World) (ho : Ok z d s l a) (hi : 0 ≤ i ∧ i < 2) (hj : 0 ≤ j ∧ j < l) :
    Calls Try.prog 23 #[.agg #[.int .i64 z, .int .i64 d, .int .i64 s, .int .i64 l, .int .i64 a], .int .i64 i, .int .i64 j] w fun r w' => r = .returned (.int .i64 (a + i * l + j)) ∧ Below w.heap.size w w' := by
  have hb0 := bl w (.cells #[.int .i64 z, .int .i64 d, .int .i64 s, .int .i64 l, .int .i64 a] 23)
  have hl : w.heap.size < (w.alloc (.cells #[.int .i64 z, .int .i64 d, .int .i64 s, .int .i64 l, .int .i64 a] 23)).heap.size := by simp
  obtain ⟨g0, g1, g2, g3, g4⟩ := five_new w z d s l a
  obtain ⟨h1, h2, h3, h4, h5⟩ := id ho
  have hq := mul_le (i := i) (n := 1) (p := l) (P := 30) (by omega) (by omega) (by omega) (by omega)
  go_enter Try.func23, Try.ntmps23
  go_wp2
  go_ret
  exact ⟨rfl, hb0⟩
theorem rtab_at (z d s l a i j : Int) (w : World) (ho : Ok z d s l a) (hi : 0 ≤ i ∧ i < z) (hj : 0 ≤ j ∧ j < 2) :
    Calls Try.prog 24 #[.agg #[.int .i64 z, .int .i64 d, .int .i64 s, .int .i64 l, .int .i64 a], .int .i64 i, .int .i64 j] w fun r w' => r = .returned (.int .i64 (a + 2 * l + 2 * i + j)) ∧ Below w.heap.size w w' := by
  have hb0 := bl w (.cells #[.int .i64 z, .int .i64 d, .int .i64 s, .int .i64 l, .int .i64 a] 23)
  have hl : w.heap.size < (w.alloc (.cells #[.int .i64 z, .int .i64 d, .int .i64 s, .int .i64 l, .int .i64 a] 23)).heap.size := by simp
  obtain ⟨g0, g1, g2, g3, g4⟩ := five_new w z d s l a
  obtain ⟨h1, h2, h3, h4, h5⟩ := id ho
  go_enter Try.func24, Try.ntmps24
  go_wp2
  go_ret
  exact ⟨rfl, hb0⟩
theorem rcells_at (z d s l a : Int) (w : World) (ho : Ok z d s l a) :
    Calls Try.prog 21 #[.agg #[.int .i64 z, .int .i64 d, .int .i64 s, .int .i64 l, .int .i64 a]] w fun r w' => r = .returned (.int .i64 (a + 2 * l + 2 * z + z * (d + 1 + s))) ∧ Below w.heap.size w w' := by
  have hb0 := bl w (.cells #[.int .i64 z, .int .i64 d, .int .i64 s, .int .i64 l, .int .i64 a] 23)
  have hl : w.heap.size < (w.alloc (.cells #[.int .i64 z, .int .i64 d, .int .i64 s, .int .i64 l, .int .i64 a] 23)).heap.size := by simp
  obtain ⟨g0, g1, g2, g3, g4⟩ := five_new w z d s l a
  obtain ⟨h1, h2, h3, h4, h5⟩ := id ho
  have hp := per_le ho
  have hq := mul_le (i := z) (n := 4) (P := 7) (by omega) (by omega) (by omega) hp.2
  go_enter Try.func21, Try.ntmps21
  go_wp2_with fail
  generalize w.alloc (.cells #[.int .i64 z, .int .i64 d, .int .i64 s, .int .i64 l, .int .i64 a] 23) = w0 at *
  go_region_held3 (fun W => W.cell? ⟨w.heap.size, 0, none⟩ = some (.int .i64 z) ∧ W.cell? ⟨w.heap.size, 1, none⟩ = some (.int .i64 d) ∧ W.cell? ⟨w.heap.size, 2, none⟩ = some (.int .i64 s) ∧ W.cell? ⟨w.heap.size, 3, none⟩ = some (.int .i64 l) ∧ W.cell? ⟨w.heap.size, 4, none⟩ = some (.int .i64 a) ∧ Below w0.heap.size w0 W)
    ((go_split_ands; refine ⟨?_, ?_, ?_, ?_, ?_, ?_⟩ <;> (first
      | assumption | exact below_dr (Below.refl _ _) | exact bt (by assumption) (by assumption)
      | exact kst (below_dr (Below.refl _ _)) hl (by assumption) | exact kst (by assumption) hl (by assumption) | exact kst (bt (by assumption) (by assumption)) hl (by assumption) | fail)))
    (first
      | (go_at_call 25; (with_reducible refine (rper_at z d s l a _ ho).mono ?_); rintro e w1 ⟨rfl, hb1⟩)
      | fail)
  go_split_ands
  rw [w6 (2 * l) (by omega) (by omega), w6 (a + 2 * l) (by omega) (by omega), w6 (2 * z) (by omega) (by omega), w6 (a + 2 * l + 2 * z) (by omega) (by omega), w6 (z * (d + 1 + s)) (by omega) (by omega), w6 (a + 2 * l + 2 * z + z * (d + 1 + s)) (by omega) (by omega)]
  go_wp2
  go_ret
  exact ⟨rfl, bt hb0 (by assumption)⟩
theorem rslot_at (z d s l a i j : Int) (w : World) (ho : Ok z d s l a) (hi : 0 ≤ i ∧ i < z) (hj : 0 ≤ j ∧ j < d + 1 + s) :
    Calls Try.prog 26 #[.agg #[.int .i64 z, .int .i64 d, .int .i64 s, .int .i64 l, .int .i64 a], .int .i64 i, .int .i64 j] w fun r w' => r = .returned (.int .i64 (a + 2 * l + 2 * z + i * (d + 1 + s) + j)) ∧ Below w.heap.size w w' := by
  have hb0 := bl w (.cells #[.int .i64 z, .int .i64 d, .int .i64 s, .int .i64 l, .int .i64 a] 23)
  have hl : w.heap.size < (w.alloc (.cells #[.int .i64 z, .int .i64 d, .int .i64 s, .int .i64 l, .int .i64 a] 23)).heap.size := by simp
  obtain ⟨g0, g1, g2, g3, g4⟩ := five_new w z d s l a
  obtain ⟨h1, h2, h3, h4, h5⟩ := id ho
  have hp := per_le ho
  have hq := mul_le (i := i) (n := 3) (P := 7) (by omega) (by omega) (by omega) hp.2
  go_enter Try.func26, Try.ntmps26
  go_wp2_with fail
  generalize w.alloc (.cells #[.int .i64 z, .int .i64 d, .int .i64 s, .int .i64 l, .int .i64 a] 23) = w0 at *
  go_region_held3 (fun W => W.cell? ⟨w.heap.size, 0, none⟩ = some (.int .i64 z) ∧ W.cell? ⟨w.heap.size, 1, none⟩ = some (.int .i64 d) ∧ W.cell? ⟨w.heap.size, 2, none⟩ = some (.int .i64 s) ∧ W.cell? ⟨w.heap.size, 3, none⟩ = some (.int .i64 l) ∧ W.cell? ⟨w.heap.size, 4, none⟩ = some (.int .i64 a) ∧ Below w0.heap.size w0 W)
    ((go_split_ands; refine ⟨?_, ?_, ?_, ?_, ?_, ?_⟩ <;> (first
      | assumption | exact below_dr (Below.refl _ _) | exact bt (by assumption) (by assumption)
      | exact kst (below_dr (Below.refl _ _)) hl (by assumption) | exact kst (by assumption) hl (by assumption) | exact kst (bt (by assumption) (by assumption)) hl (by assumption) | fail)))
    (first
      | (go_at_call 25; (with_reducible refine (rper_at z d s l a _ ho).mono ?_); rintro e w1 ⟨rfl, hb1⟩)
      | fail)
  go_split_ands
  rw [w6 (2 * l) (by omega) (by omega), w6 (a + 2 * l) (by omega) (by omega), w6 (2 * z) (by omega) (by omega), w6 (a + 2 * l + 2 * z) (by omega) (by omega), w6 (i * (d + 1 + s)) (by omega) (by omega), w6 (a + 2 * l + 2 * z + i * (d + 1 + s)) (by omega) (by omega), w6 (a + 2 * l + 2 * z + i * (d + 1 + s) + j) (by omega) (by omega)]
  go_wp2
  go_ret
  exact ⟨rfl, bt hb0 (by assumption)⟩
theorem wakes_any (w : World) :
    Calls Try.prog 20 #[] w fun e w' => e = .returned (.bool true) ∧ Below w.heap.size w w' := by
  have ho : Ok 2 3 1 14 2 := by unfold Ok; omega
  have c1 := fun W => cells_ok 2 3 1 14 2 W ho
  have c2 := fun W => split_at 2 3 1 14 2 4 1 1 0 W ho ⟨⟨fun _ => ⟨rfl, rfl⟩, fun h => absurd (by omega) h⟩, ⟨fun _ => ⟨rfl, rfl⟩, fun h => absurd (by omega) h⟩⟩
  have c3 := fun W => sets_ok 2 3 1 14 2 W ho
  have c4 := fun W => check_no 0 0 0 0 0 W (by unfold Ok; omega)
  have hb0 := bl w (.cells #[.int .i64 2, .int .i64 3, .int .i64 1, .int .i64 14, .int .i64 2] 23)
  have hl : w.heap.size < (w.alloc (.cells #[.int .i64 2, .int .i64 3, .int .i64 1, .int .i64 14, .int .i64 2] 23)).heap.size := by simp
  obtain ⟨g0, g1, g2, g3, g4⟩ := five_new w 2 3 1 14 2
  go_enter Try.func20, Try.ntmps20
  go_wp2_with (first
    | (go_at_call 11; (with_reducible refine (c1 _).mono ?_); rintro e w1 ⟨rfl, hb1⟩; have g0 := kst hb1 hl g0; have g1 := kst hb1 hl g1; have g2 := kst hb1 hl g2; have g3 := kst hb1 hl g3; have g4 := kst hb1 hl g4; have hl := Nat.lt_of_lt_of_le hl hb1.size)
    | (go_at_call 19; (with_reducible refine (c2 _).mono ?_); rintro e w2 ⟨rfl, hb2⟩; have g0 := kst hb2 hl g0; have g1 := kst hb2 hl g1; have g2 := kst hb2 hl g2; have g3 := kst hb2 hl g3; have g4 := kst hb2 hl g4; have hl := Nat.lt_of_lt_of_le hl hb2.size)
    | (go_at_call 18; (with_reducible refine (c3 _).mono ?_); rintro e w3 ⟨rfl, hb3⟩; have g0 := kst hb3 hl g0; have g1 := kst hb3 hl g1; have g2 := kst hb3 hl g2; have g3 := kst hb3 hl g3; have g4 := kst hb3 hl g4; have hl := Nat.lt_of_lt_of_le hl hb3.size)
    | (go_at_call 10; (with_reducible refine (c4 _).mono ?_); rintro e w4 ⟨rfl, hb4⟩))
  go_ret
  exact ⟨rfl, bt (bt (bt (bt hb0 hb1) hb2) hb3) hb4⟩
end Go.Proofs.Ytjadbekefonhlaa.gmt
