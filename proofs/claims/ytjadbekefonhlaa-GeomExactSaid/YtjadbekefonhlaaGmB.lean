/-
  Package geom's functions for a geometry that is none: each answers nothing but why. Conditions: none.
-/
import Derived.Test.YtjadbekefonhlaaGmA
namespace Go.Proofs.Ytjadbekefonhlaa.gmt
open Go.RowKit Go.Lib

theorem check_no (z d s l a : Int) (w : World) (ho : ¬ Ok z d s l a) :
    Calls Try.prog 10 #[.agg #[.int .i64 z, .int .i64 d, .int .i64 s, .int .i64 l, .int .i64 a]] w fun e w' => e = .returned (.int .i64 1) ∧ Below w.heap.size w w' := by
  by_cases h1 : 1 ≤ z ∧ z ≤ 4
  · skip
    by_cases h2 : 1 ≤ d ∧ d ≤ 4
    · skip
      by_cases h3 : 0 ≤ s ∧ s ≤ 2
      · skip
        by_cases h4 : 14 ≤ l ∧ l ≤ 30
        · skip
          by_cases h5 : 1 ≤ a ∧ a ≤ 3
          · skip
            exact absurd ⟨h1, h2, h3, h4, h5⟩ ho
          · clear ho
            have c1 := fun W => isFrom_at true z 1 4 W (iff_of_true rfl h1)
            have c2 := fun W => isFrom_at true d 1 4 W (iff_of_true rfl h2)
            have c3 := fun W => isFrom_at true s 0 2 W (iff_of_true rfl h3)
            have c4 := fun W => isFrom_at true l 14 30 W (iff_of_true rfl h4)
            have c5 := fun W => isFrom_at false a 1 3 W (iff_of_false Bool.false_ne_true h5)
            clear h1 h2 h3 h4 h5
            go_enter Try.func10, Try.ntmps10
            go_wp2_with (first
              | (go_at_call 31; (with_reducible refine (c1 _).mono ?_); rintro e w1 ⟨rfl, rfl⟩)
              | (go_at_call 31; (with_reducible refine (c2 _).mono ?_); rintro e w2 ⟨rfl, rfl⟩)
              | (go_at_call 31; (with_reducible refine (c3 _).mono ?_); rintro e w3 ⟨rfl, rfl⟩)
              | (go_at_call 31; (with_reducible refine (c4 _).mono ?_); rintro e w4 ⟨rfl, rfl⟩)
              | (go_at_call 31; (with_reducible refine (c5 _).mono ?_); rintro e w5 ⟨rfl, rfl⟩))
            go_ret
            exact ⟨rfl, bl w _⟩
        · clear ho
          have c1 := fun W => isFrom_at true z 1 4 W (iff_of_true rfl h1)
          have c2 := fun W => isFrom_at true d 1 4 W (iff_of_true rfl h2)
          have c3 := fun W => isFrom_at true s 0 2 W (iff_of_true rfl h3)
          have c4 := fun W => isFrom_at false l 14 30 W (iff_of_false Bool.false_ne_true h4)
          clear h1 h2 h3 h4
          go_enter Try.func10, Try.ntmps10
          go_wp2_with (first
            | (go_at_call 31; (with_reducible refine (c1 _).mono ?_); rintro e w1 ⟨rfl, rfl⟩)
            | (go_at_call 31; (with_reducible refine (c2 _).mono ?_); rintro e w2 ⟨rfl, rfl⟩)
            | (go_at_call 31; (with_reducible refine (c3 _).mono ?_); rintro e w3 ⟨rfl, rfl⟩)
            | (go_at_call 31; (with_reducible refine (c4 _).mono ?_); rintro e w4 ⟨rfl, rfl⟩))
          go_ret
          exact ⟨rfl, bl w _⟩
      · clear ho
        have c1 := fun W => isFrom_at true z 1 4 W (iff_of_true rfl h1)
        have c2 := fun W => isFrom_at true d 1 4 W (iff_of_true rfl h2)
        have c3 := fun W => isFrom_at false s 0 2 W (iff_of_false Bool.false_ne_true h3)
        clear h1 h2 h3
        go_enter Try.func10, Try.ntmps10
        go_wp2_with (first
          | (go_at_call 31; (with_reducible refine (c1 _).mono ?_); rintro e w1 ⟨rfl, rfl⟩)
          | (go_at_call 31; (with_reducible refine (c2 _).mono ?_); rintro e w2 ⟨rfl, rfl⟩)
          | (go_at_call 31; (with_reducible refine (c3 _).mono ?_); rintro e w3 ⟨rfl, rfl⟩))
        go_ret
        exact ⟨rfl, bl w _⟩
    · clear ho
      have c1 := fun W => isFrom_at true z 1 4 W (iff_of_true rfl h1)
      have c2 := fun W => isFrom_at false d 1 4 W (iff_of_false Bool.false_ne_true h2)
      clear h1 h2
      go_enter Try.func10, Try.ntmps10
      go_wp2_with (first
        | (go_at_call 31; (with_reducible refine (c1 _).mono ?_); rintro e w1 ⟨rfl, rfl⟩)
        | (go_at_call 31; (with_reducible refine (c2 _).mono ?_); rintro e w2 ⟨rfl, rfl⟩))
      go_ret
      exact ⟨rfl, bl w _⟩
  · clear ho
    have c1 := fun W => isFrom_at false z 1 4 W (iff_of_false Bool.false_ne_true h1)
    clear h1
    go_enter Try.func10, Try.ntmps10
    go_wp2_with (first
      | (go_at_call 31; (with_reducible refine (c1 _).mono ?_); rintro e w1 ⟨rfl, rfl⟩))
    go_ret
    exact ⟨rfl, bl w _⟩
theorem cells_no (z d s l a : Int) (w : World) (ho : ¬ Ok z d s l a) :
    Calls Try.prog 11 #[.agg #[.int .i64 z, .int .i64 d, .int .i64 s, .int .i64 l, .int .i64 a]] w fun e w' => e = .returned (.tuple #[.int .i64 0, .int .i64 1]) ∧ Below w.heap.size w w' := by
  have hb0 := bl w (.cells #[.int .i64 z, .int .i64 d, .int .i64 s, .int .i64 l, .int .i64 a] 23)
  go_enter Try.func11, Try.ntmps11
  go_wp2_with (first
    | (go_at_call 10; (with_reducible refine (check_no z d s l a _ ho).mono ?_); rintro e w1 ⟨rfl, hb1⟩))
  go_ret2
  exact ⟨rfl, bt hb0 hb1⟩
theorem blocks_no (z d s l a : Int) (w : World) (ho : ¬ Ok z d s l a) :
    Calls Try.prog 12 #[.agg #[.int .i64 z, .int .i64 d, .int .i64 s, .int .i64 l, .int .i64 a]] w fun e w' => e = .returned (.tuple #[.int .i64 0, .int .i64 1]) ∧ Below w.heap.size w w' := by
  have hb0 := bl w (.cells #[.int .i64 z, .int .i64 d, .int .i64 s, .int .i64 l, .int .i64 a] 23)
  go_enter Try.func12, Try.ntmps12
  go_wp2_with (first
    | (go_at_call 10; (with_reducible refine (check_no z d s l a _ ho).mono ?_); rintro e w1 ⟨rfl, hb1⟩))
  go_ret2
  exact ⟨rfl, bt hb0 hb1⟩
theorem sets_no (z d s l a : Int) (w : World) (ho : ¬ Ok z d s l a) :
    Calls Try.prog 18 #[.agg #[.int .i64 z, .int .i64 d, .int .i64 s, .int .i64 l, .int .i64 a]] w fun e w' => e = .returned (.tuple #[.int .i64 0, .int .i64 1]) ∧ Below w.heap.size w w' := by
  have hb0 := bl w (.cells #[.int .i64 z, .int .i64 d, .int .i64 s, .int .i64 l, .int .i64 a] 23)
  go_enter Try.func18, Try.ntmps18
  go_wp2_with (first
    | (go_at_call 10; (with_reducible refine (check_no z d s l a _ ho).mono ?_); rintro e w1 ⟨rfl, hb1⟩))
  go_ret2
  exact ⟨rfl, bt hb0 hb1⟩
theorem anchor_no (z d s l a : Int) (i : Int) (w : World) (ho : ¬ Ok z d s l a) :
    Calls Try.prog 13 #[.agg #[.int .i64 z, .int .i64 d, .int .i64 s, .int .i64 l, .int .i64 a], .int .i64 i] w fun e w' => e = .returned (.tuple #[.int .i64 0, .int .i64 1]) ∧ Below w.heap.size w w' := by
  have hb0 := bl w (.cells #[.int .i64 z, .int .i64 d, .int .i64 s, .int .i64 l, .int .i64 a] 23)
  go_enter Try.func13, Try.ntmps13
  go_wp2_with (first
    | (go_at_call 10; (with_reducible refine (check_no z d s l a _ ho).mono ?_); rintro e w1 ⟨rfl, hb1⟩))
  go_ret2
  exact ⟨rfl, bt hb0 hb1⟩
theorem log_no (z d s l a : Int) (i j : Int) (w : World) (ho : ¬ Ok z d s l a) :
    Calls Try.prog 14 #[.agg #[.int .i64 z, .int .i64 d, .int .i64 s, .int .i64 l, .int .i64 a], .int .i64 i, .int .i64 j] w fun e w' => e = .returned (.tuple #[.int .i64 0, .int .i64 1]) ∧ Below w.heap.size w w' := by
  have hb0 := bl w (.cells #[.int .i64 z, .int .i64 d, .int .i64 s, .int .i64 l, .int .i64 a] 23)
  go_enter Try.func14, Try.ntmps14
  go_wp2_with (first
    | (go_at_call 10; (with_reducible refine (check_no z d s l a _ ho).mono ?_); rintro e w1 ⟨rfl, hb1⟩))
  go_ret2
  exact ⟨rfl, bt hb0 hb1⟩
theorem table_no (z d s l a : Int) (i j : Int) (w : World) (ho : ¬ Ok z d s l a) :
    Calls Try.prog 15 #[.agg #[.int .i64 z, .int .i64 d, .int .i64 s, .int .i64 l, .int .i64 a], .int .i64 i, .int .i64 j] w fun e w' => e = .returned (.tuple #[.int .i64 0, .int .i64 1]) ∧ Below w.heap.size w w' := by
  have hb0 := bl w (.cells #[.int .i64 z, .int .i64 d, .int .i64 s, .int .i64 l, .int .i64 a] 23)
  go_enter Try.func15, Try.ntmps15
  go_wp2_with (first
    | (go_at_call 10; (with_reducible refine (check_no z d s l a _ ho).mono ?_); rintro e w1 ⟨rfl, hb1⟩))
  go_ret2
  exact ⟨rfl, bt hb0 hb1⟩
theorem slot_no (z d s l a : Int) (i j : Int) (w : World) (ho : ¬ Ok z d s l a) :
    Calls Try.prog 16 #[.agg #[.int .i64 z, .int .i64 d, .int .i64 s, .int .i64 l, .int .i64 a], .int .i64 i, .int .i64 j] w fun e w' => e = .returned (.tuple #[.int .i64 0, .int .i64 1]) ∧ Below w.heap.size w w' := by
  have hb0 := bl w (.cells #[.int .i64 z, .int .i64 d, .int .i64 s, .int .i64 l, .int .i64 a] 23)
  go_enter Try.func16, Try.ntmps16
  go_wp2_with (first
    | (go_at_call 10; (with_reducible refine (check_no z d s l a _ ho).mono ?_); rintro e w1 ⟨rfl, hb1⟩))
  go_ret2
  exact ⟨rfl, bt hb0 hb1⟩
theorem set_no (z d s l a : Int) (i : Int) (w : World) (ho : ¬ Ok z d s l a) :
    Calls Try.prog 17 #[.agg #[.int .i64 z, .int .i64 d, .int .i64 s, .int .i64 l, .int .i64 a], .int .i64 i] w fun e w' => e = .returned (.tuple #[.int .i64 0, .int .i64 1]) ∧ Below w.heap.size w w' := by
  have hb0 := bl w (.cells #[.int .i64 z, .int .i64 d, .int .i64 s, .int .i64 l, .int .i64 a] 23)
  go_enter Try.func17, Try.ntmps17
  go_wp2_with (first
    | (go_at_call 11; (with_reducible refine (cells_no z d s l a _ ho).mono ?_); rintro e w1 ⟨rfl, hb1⟩))
  go_ret2
  exact ⟨rfl, bt hb0 hb1⟩
theorem split_no (z d s l a : Int) (i : Int) (w : World) (ho : ¬ Ok z d s l a) :
    Calls Try.prog 19 #[.agg #[.int .i64 z, .int .i64 d, .int .i64 s, .int .i64 l, .int .i64 a], .int .i64 i] w fun e w' => e = .returned (.tuple #[.int .i64 0, .int .i64 0, .int .i64 1]) ∧ Below w.heap.size w w' := by
  have hb0 := bl w (.cells #[.int .i64 z, .int .i64 d, .int .i64 s, .int .i64 l, .int .i64 a] 23)
  go_enter Try.func19, Try.ntmps19
  go_wp2_with (first
    | (go_at_call 12; (with_reducible refine (blocks_no z d s l a _ ho).mono ?_); rintro e w1 ⟨rfl, hb1⟩))
  go_ret3
  exact ⟨rfl, bt hb0 hb1⟩
end Go.Proofs.Ytjadbekefonhlaa.gmt
