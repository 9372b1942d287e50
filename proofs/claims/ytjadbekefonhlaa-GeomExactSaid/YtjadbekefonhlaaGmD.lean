/-
  Package geom's Set, for a right geometry: of which set a cell is one, or why not. Conditions: a right geometry.
-/
import Derived.Test.YtjadbekefonhlaaGmC
namespace Go.Proofs.Ytjadbekefonhlaa.gmt
open Go.RowKit Go.Lib

/-- The number of cells. -/
def cellsN (z d s l a : Int) : Int := a + 2 * l + 2 * z + z * (d + 1 + s)
/-- Of which set a cell is one. -/
def setN (z d s l a i : Int) : Int :=
  if a + 2 * l + 2 * z ≤ i then (i - (a + 2 * l + 2 * z)) / (d + 1 + s)
  else if a + 2 * l ≤ i then z + l + (i - (a + 2 * l)) / 2
  else if a ≤ i then z + (i - a) % l
  else z + l + z

theorem set_far (z d s l a i : Int) (w : World) (ho : Ok z d s l a) (hi : ¬ (0 ≤ i ∧ i < a + 2 * l + 2 * z + z * (d + 1 + s))) :
    Calls Try.prog 17 #[.agg #[.int .i64 z, .int .i64 d, .int .i64 s, .int .i64 l, .int .i64 a], .int .i64 i] w fun r w' => r = .returned (.tuple #[.int .i64 0, .int .i64 1]) ∧ Below w.heap.size w w' := by
  have ci := fun W => isIndex_at false i (a + 2 * l + 2 * z + z * (d + 1 + s)) W (iff_of_false Bool.false_ne_true hi)
  have hb0 := bl w (.cells #[.int .i64 z, .int .i64 d, .int .i64 s, .int .i64 l, .int .i64 a] 23)
  have hl : w.heap.size < (w.alloc (.cells #[.int .i64 z, .int .i64 d, .int .i64 s, .int .i64 l, .int .i64 a] 23)).heap.size := by simp
  obtain ⟨g0, g1, g2, g3, g4⟩ := five_new w z d s l a
  go_enter Try.func17, Try.ntmps17
  go_wp2_with fail
  generalize w.alloc (.cells #[.int .i64 z, .int .i64 d, .int .i64 s, .int .i64 l, .int .i64 a] 23) = w0 at *
  go_wp2_with (first
    | (go_at_call 11; (with_reducible refine (cells_ok z d s l a _ ho).mono ?_); rintro e w8 ⟨rfl, hb8⟩; have g0 := kst hb8 hl g0; have g1 := kst hb8 hl g1; have g2 := kst hb8 hl g2; have g3 := kst hb8 hl g3; have g4 := kst hb8 hl g4; have hl := Nat.lt_of_lt_of_le hl hb8.size)
    | (go_at_call 34; (with_reducible refine (ci _).mono ?_); rintro e w9 ⟨rfl, rfl⟩))
  go_ret2
  exact ⟨rfl, bt hb0 hb8⟩
theorem set_slot (z d s l a i : Int) (w : World) (ho : Ok z d s l a) (hi : 0 ≤ i ∧ i < a + 2 * l + 2 * z + z * (d + 1 + s)) (hs : a + 2 * l + 2 * z ≤ i) :
    Calls Try.prog 17 #[.agg #[.int .i64 z, .int .i64 d, .int .i64 s, .int .i64 l, .int .i64 a], .int .i64 i] w fun r w' => r = .returned (.tuple #[.int .i64 ((i - (a + 2 * l + 2 * z)) / (d + 1 + s)), .int .i64 0]) ∧ Below w.heap.size w w' := by
  have hb0 := bl w (.cells #[.int .i64 z, .int .i64 d, .int .i64 s, .int .i64 l, .int .i64 a] 23)
  have hl : w.heap.size < (w.alloc (.cells #[.int .i64 z, .int .i64 d, .int .i64 s, .int .i64 l, .int .i64 a] 23)).heap.size := by simp
  obtain ⟨g0, g1, g2, g3, g4⟩ := five_new w z d s l a
  obtain ⟨h1, h2, h3, h4, h5⟩ := id ho
  have hp := per_le ho
  have hq := mul_le (i := z) (n := 4) (P := 7) (by omega) (by omega) (by omega) hp.2
  have ci := fun W => isIndex_at true i (a + 2 * l + 2 * z + z * (d + 1 + s)) W (iff_of_true rfl hi)
  go_enter Try.func17, Try.ntmps17
  go_wp2_with fail
  generalize w.alloc (.cells #[.int .i64 z, .int .i64 d, .int .i64 s, .int .i64 l, .int .i64 a] 23) = w0 at *
  go_wp2_with (first
    | (go_at_call 11; (with_reducible refine (cells_ok z d s l a _ ho).mono ?_); rintro e w8 ⟨rfl, hb8⟩; have g0 := kst hb8 hl g0; have g1 := kst hb8 hl g1; have g2 := kst hb8 hl g2; have g3 := kst hb8 hl g3; have g4 := kst hb8 hl g4; have hl := Nat.lt_of_lt_of_le hl hb8.size)
    | (go_at_call 34; (with_reducible refine (ci _).mono ?_); rintro e w9 ⟨rfl, rfl⟩)
    | (go_at_call 32; (with_reducible refine (slotStart_at z d s l a _ ho).mono ?_); rintro e w10 ⟨rfl, hb10⟩; have g0 := kst hb10 hl g0; have g1 := kst hb10 hl g1; have g2 := kst hb10 hl g2; have g3 := kst hb10 hl g3; have g4 := kst hb10 hl g4; have hl := Nat.lt_of_lt_of_le hl hb10.size))
  have cz := fun W => zoneSlots_at z d s l a W ho
  obtain ⟨p, hpp⟩ : ∃ p, d + 1 + s = p := ⟨_, rfl⟩
  have hp1 : 1 ≤ p := by omega
  rw [hpp] at cz
  rw [hpp]
  have hn0 : ¬ p = 0 := by omega
  have x0 : 0 ≤ i - (a + 2 * l + 2 * z) := by omega
  have x1 : IntKind.i64.wrap ((i - (a + 2 * l + 2 * z)).tdiv p) = (i - (a + 2 * l + 2 * z)) / p := Go.IntWalk.i64_quo _ _ (by omega)
  have x2 : IntKind.i64.wrap (i - (a + 2 * l + 2 * z)) = i - (a + 2 * l + 2 * z) := w6 _ (by omega) (by omega)
  go_region_held3 (fun W => W.cell? ⟨w.heap.size, 0, none⟩ = some (.int .i64 z) ∧ W.cell? ⟨w.heap.size, 1, none⟩ = some (.int .i64 d) ∧ W.cell? ⟨w.heap.size, 2, none⟩ = some (.int .i64 s) ∧ W.cell? ⟨w.heap.size, 3, none⟩ = some (.int .i64 l) ∧ W.cell? ⟨w.heap.size, 4, none⟩ = some (.int .i64 a) ∧ Below w10.heap.size w10 W)
    ((go_split_ands; refine ⟨?_, ?_, ?_, ?_, ?_, ?_⟩ <;> (first
      | assumption | exact below_dr (Below.refl _ _) | exact bt (by assumption) (by assumption)
      | exact kst (below_dr (Below.refl _ _)) hl (by assumption) | exact kst (by assumption) hl (by assumption) | exact kst (bt (by assumption) (by assumption)) hl (by assumption) | fail)))
    (first
      | (go_at_call 32; (with_reducible refine (slotStart_at z d s l a _ ho).mono ?_); rintro e w21 ⟨rfl, hb21⟩)
      | (go_at_call 33; (with_reducible refine (cz _).mono ?_); rintro e w22 ⟨rfl, hb22⟩)
      | fail)
  go_split_ands
  go_wp2
  subst hpp
  go_ret2
  exact ⟨rfl, bt (bt (bt hb0 hb8) hb10) (by assumption)⟩
theorem set_table (z d s l a i : Int) (w : World) (ho : Ok z d s l a) (hi : 0 ≤ i ∧ i < a + 2 * l + 2 * z + z * (d + 1 + s)) (hs : ¬ a + 2 * l + 2 * z ≤ i) (ht : a + 2 * l ≤ i) :
    Calls Try.prog 17 #[.agg #[.int .i64 z, .int .i64 d, .int .i64 s, .int .i64 l, .int .i64 a], .int .i64 i] w fun r w' => r = .returned (.tuple #[.int .i64 (z + l + (i - (a + 2 * l)) / 2), .int .i64 0]) ∧ Below w.heap.size w w' := by
  have hb0 := bl w (.cells #[.int .i64 z, .int .i64 d, .int .i64 s, .int .i64 l, .int .i64 a] 23)
  have hl : w.heap.size < (w.alloc (.cells #[.int .i64 z, .int .i64 d, .int .i64 s, .int .i64 l, .int .i64 a] 23)).heap.size := by simp
  obtain ⟨g0, g1, g2, g3, g4⟩ := five_new w z d s l a
  obtain ⟨h1, h2, h3, h4, h5⟩ := id ho
  have hp := per_le ho
  have hq := mul_le (i := z) (n := 4) (P := 7) (by omega) (by omega) (by omega) hp.2
  have ci := fun W => isIndex_at true i (a + 2 * l + 2 * z + z * (d + 1 + s)) W (iff_of_true rfl hi)
  go_enter Try.func17, Try.ntmps17
  go_wp2_with fail
  generalize w.alloc (.cells #[.int .i64 z, .int .i64 d, .int .i64 s, .int .i64 l, .int .i64 a] 23) = w0 at *
  go_wp2_with (first
    | (go_at_call 11; (with_reducible refine (cells_ok z d s l a _ ho).mono ?_); rintro e w8 ⟨rfl, hb8⟩; have g0 := kst hb8 hl g0; have g1 := kst hb8 hl g1; have g2 := kst hb8 hl g2; have g3 := kst hb8 hl g3; have g4 := kst hb8 hl g4; have hl := Nat.lt_of_lt_of_le hl hb8.size)
    | (go_at_call 34; (with_reducible refine (ci _).mono ?_); rintro e w9 ⟨rfl, rfl⟩)
    | (go_at_call 32; (with_reducible refine (slotStart_at z d s l a _ ho).mono ?_); rintro e w10 ⟨rfl, hb10⟩; have g0 := kst hb10 hl g0; have g1 := kst hb10 hl g1; have g2 := kst hb10 hl g2; have g3 := kst hb10 hl g3; have g4 := kst hb10 hl g4; have hl := Nat.lt_of_lt_of_le hl hb10.size)
    | (go_at_call 36; (with_reducible refine (tableStart_at z d s l a _ ho).mono ?_); rintro e w11 ⟨rfl, hb11⟩; have g0 := kst hb11 hl g0; have g1 := kst hb11 hl g1; have g2 := kst hb11 hl g2; have g3 := kst hb11 hl g3; have g4 := kst hb11 hl g4; have hl := Nat.lt_of_lt_of_le hl hb11.size))
  have x0 : 0 ≤ i - (a + 2 * l) := by omega
  have x1 : IntKind.i64.wrap ((i - (a + 2 * l)).tdiv 2) = (i - (a + 2 * l)) / 2 := Go.IntWalk.i64_quo _ _ (by omega)
  have x2 : IntKind.i64.wrap (i - (a + 2 * l)) = i - (a + 2 * l) := w6 _ (by omega) (by omega)
  have x3 : IntKind.i64.wrap (z + l + (i - (a + 2 * l)) / 2) = z + l + (i - (a + 2 * l)) / 2 := w6 _ (by omega) (by omega)
  go_region_held3 (fun W => W.cell? ⟨w.heap.size, 0, none⟩ = some (.int .i64 z) ∧ W.cell? ⟨w.heap.size, 1, none⟩ = some (.int .i64 d) ∧ W.cell? ⟨w.heap.size, 2, none⟩ = some (.int .i64 s) ∧ W.cell? ⟨w.heap.size, 3, none⟩ = some (.int .i64 l) ∧ W.cell? ⟨w.heap.size, 4, none⟩ = some (.int .i64 a) ∧ Below w11.heap.size w11 W)
    ((go_split_ands; refine ⟨?_, ?_, ?_, ?_, ?_, ?_⟩ <;> (first
      | assumption | exact below_dr (Below.refl _ _) | exact bt (by assumption) (by assumption)
      | exact kst (below_dr (Below.refl _ _)) hl (by assumption) | exact kst (by assumption) hl (by assumption) | exact kst (bt (by assumption) (by assumption)) hl (by assumption) | fail)))
    (first
      | (go_at_call 36; (with_reducible refine (tableStart_at z d s l a _ ho).mono ?_); rintro e w21 ⟨rfl, hb21⟩)
      | (go_at_call 37; (with_reducible refine (tableSets_at z d s l a _ ho).mono ?_); rintro e w22 ⟨rfl, hb22⟩)
      | fail)
  go_split_ands
  go_wp2
  go_ret2
  exact ⟨rfl, bt (bt (bt (bt hb0 hb8) hb10) hb11) (by assumption)⟩
theorem set_log (z d s l a i : Int) (w : World) (ho : Ok z d s l a) (hi : 0 ≤ i ∧ i < a + 2 * l + 2 * z + z * (d + 1 + s)) (hs : ¬ a + 2 * l + 2 * z ≤ i) (ht : ¬ a + 2 * l ≤ i) (hu : a ≤ i) :
    Calls Try.prog 17 #[.agg #[.int .i64 z, .int .i64 d, .int .i64 s, .int .i64 l, .int .i64 a], .int .i64 i] w fun r w' => r = .returned (.tuple #[.int .i64 (z + (i - a) % l), .int .i64 0]) ∧ Below w.heap.size w w' := by
  have hb0 := bl w (.cells #[.int .i64 z, .int .i64 d, .int .i64 s, .int .i64 l, .int .i64 a] 23)
  have hl : w.heap.size < (w.alloc (.cells #[.int .i64 z, .int .i64 d, .int .i64 s, .int .i64 l, .int .i64 a] 23)).heap.size := by simp
  obtain ⟨g0, g1, g2, g3, g4⟩ := five_new w z d s l a
  obtain ⟨h1, h2, h3, h4, h5⟩ := id ho
  have hp := per_le ho
  have hq := mul_le (i := z) (n := 4) (P := 7) (by omega) (by omega) (by omega) hp.2
  have ci := fun W => isIndex_at true i (a + 2 * l + 2 * z + z * (d + 1 + s)) W (iff_of_true rfl hi)
  go_enter Try.func17, Try.ntmps17
  go_wp2_with fail
  generalize w.alloc (.cells #[.int .i64 z, .int .i64 d, .int .i64 s, .int .i64 l, .int .i64 a] 23) = w0 at *
  go_wp2_with (first
    | (go_at_call 11; (with_reducible refine (cells_ok z d s l a _ ho).mono ?_); rintro e w8 ⟨rfl, hb8⟩; have g0 := kst hb8 hl g0; have g1 := kst hb8 hl g1; have g2 := kst hb8 hl g2; have g3 := kst hb8 hl g3; have g4 := kst hb8 hl g4; have hl := Nat.lt_of_lt_of_le hl hb8.size)
    | (go_at_call 34; (with_reducible refine (ci _).mono ?_); rintro e w9 ⟨rfl, rfl⟩)
    | (go_at_call 32; (with_reducible refine (slotStart_at z d s l a _ ho).mono ?_); rintro e w10 ⟨rfl, hb10⟩; have g0 := kst hb10 hl g0; have g1 := kst hb10 hl g1; have g2 := kst hb10 hl g2; have g3 := kst hb10 hl g3; have g4 := kst hb10 hl g4; have hl := Nat.lt_of_lt_of_le hl hb10.size)
    | (go_at_call 36; (with_reducible refine (tableStart_at z d s l a _ ho).mono ?_); rintro e w11 ⟨rfl, hb11⟩; have g0 := kst hb11 hl g0; have g1 := kst hb11 hl g1; have g2 := kst hb11 hl g2; have g3 := kst hb11 hl g3; have g4 := kst hb11 hl g4; have hl := Nat.lt_of_lt_of_le hl hb11.size)
    | (go_at_call 35; (with_reducible refine (logStart_at z d s l a _).mono ?_); rintro e w12 ⟨rfl, hb12⟩; have g0 := kst hb12 hl g0; have g1 := kst hb12 hl g1; have g2 := kst hb12 hl g2; have g3 := kst hb12 hl g3; have g4 := kst hb12 hl g4; have hl := Nat.lt_of_lt_of_le hl hb12.size))
  have hn0 : ¬ l = 0 := by omega
  have x0 : 0 ≤ i - a := by omega
  have x1 : (i - a).tmod l = (i - a) % l := Int.tmod_eq_emod_of_nonneg x0
  have x2 : IntKind.i64.wrap (i - a) = i - a := w6 _ (by omega) (by omega)
  have y1 : 0 ≤ (i - a) % l := Int.emod_nonneg _ hn0
  have y2 : (i - a) % l < l := Int.emod_lt_of_pos _ (by omega)
  have x3 : IntKind.i64.wrap (z + (i - a) % l) = z + (i - a) % l := w6 _ (by omega) (by omega)
  go_region_held3 (fun W => W.cell? ⟨w.heap.size, 0, none⟩ = some (.int .i64 z) ∧ W.cell? ⟨w.heap.size, 1, none⟩ = some (.int .i64 d) ∧ W.cell? ⟨w.heap.size, 2, none⟩ = some (.int .i64 s) ∧ W.cell? ⟨w.heap.size, 3, none⟩ = some (.int .i64 l) ∧ W.cell? ⟨w.heap.size, 4, none⟩ = some (.int .i64 a) ∧ Below w12.heap.size w12 W)
    ((go_split_ands; refine ⟨?_, ?_, ?_, ?_, ?_, ?_⟩ <;> (first
      | assumption | exact below_dr (Below.refl _ _) | exact bt (by assumption) (by assumption)
      | exact kst (below_dr (Below.refl _ _)) hl (by assumption) | exact kst (by assumption) hl (by assumption) | exact kst (bt (by assumption) (by assumption)) hl (by assumption) | fail)))
    (first
      | (go_at_call 35; (with_reducible refine (logStart_at z d s l a _).mono ?_); rintro e w21 ⟨rfl, hb21⟩)
      | (go_at_call 38; (with_reducible refine (logSets_at z d s l a _).mono ?_); rintro e w22 ⟨rfl, hb22⟩)
      | fail)
  go_split_ands
  go_wp2
  go_ret2
  exact ⟨rfl, bt (bt (bt (bt (bt hb0 hb8) hb10) hb11) hb12) (by assumption)⟩
theorem set_anchor (z d s l a i : Int) (w : World) (ho : Ok z d s l a) (hi : 0 ≤ i ∧ i < a + 2 * l + 2 * z + z * (d + 1 + s)) (hs : ¬ a + 2 * l + 2 * z ≤ i) (ht : ¬ a + 2 * l ≤ i) (hu : ¬ a ≤ i) :
    Calls Try.prog 17 #[.agg #[.int .i64 z, .int .i64 d, .int .i64 s, .int .i64 l, .int .i64 a], .int .i64 i] w fun r w' => r = .returned (.tuple #[.int .i64 (z + l + z), .int .i64 0]) ∧ Below w.heap.size w w' := by
  have hb0 := bl w (.cells #[.int .i64 z, .int .i64 d, .int .i64 s, .int .i64 l, .int .i64 a] 23)
  have hl : w.heap.size < (w.alloc (.cells #[.int .i64 z, .int .i64 d, .int .i64 s, .int .i64 l, .int .i64 a] 23)).heap.size := by simp
  obtain ⟨g0, g1, g2, g3, g4⟩ := five_new w z d s l a
  obtain ⟨h1, h2, h3, h4, h5⟩ := id ho
  have hp := per_le ho
  have hq := mul_le (i := z) (n := 4) (P := 7) (by omega) (by omega) (by omega) hp.2
  have ci := fun W => isIndex_at true i (a + 2 * l + 2 * z + z * (d + 1 + s)) W (iff_of_true rfl hi)
  go_enter Try.func17, Try.ntmps17
  go_wp2_with fail
  generalize w.alloc (.cells #[.int .i64 z, .int .i64 d, .int .i64 s, .int .i64 l, .int .i64 a] 23) = w0 at *
  go_wp2_with (first
    | (go_at_call 11; (with_reducible refine (cells_ok z d s l a _ ho).mono ?_); rintro e w8 ⟨rfl, hb8⟩; have g0 := kst hb8 hl g0; have g1 := kst hb8 hl g1; have g2 := kst hb8 hl g2; have g3 := kst hb8 hl g3; have g4 := kst hb8 hl g4; have hl := Nat.lt_of_lt_of_le hl hb8.size)
    | (go_at_call 34; (with_reducible refine (ci _).mono ?_); rintro e w9 ⟨rfl, rfl⟩)
    | (go_at_call 32; (with_reducible refine (slotStart_at z d s l a _ ho).mono ?_); rintro e w10 ⟨rfl, hb10⟩; have g0 := kst hb10 hl g0; have g1 := kst hb10 hl g1; have g2 := kst hb10 hl g2; have g3 := kst hb10 hl g3; have g4 := kst hb10 hl g4; have hl := Nat.lt_of_lt_of_le hl hb10.size)
    | (go_at_call 36; (with_reducible refine (tableStart_at z d s l a _ ho).mono ?_); rintro e w11 ⟨rfl, hb11⟩; have g0 := kst hb11 hl g0; have g1 := kst hb11 hl g1; have g2 := kst hb11 hl g2; have g3 := kst hb11 hl g3; have g4 := kst hb11 hl g4; have hl := Nat.lt_of_lt_of_le hl hb11.size)
    | (go_at_call 35; (with_reducible refine (logStart_at z d s l a _).mono ?_); rintro e w12 ⟨rfl, hb12⟩; have g0 := kst hb12 hl g0; have g1 := kst hb12 hl g1; have g2 := kst hb12 hl g2; have g3 := kst hb12 hl g3; have g4 := kst hb12 hl g4; have hl := Nat.lt_of_lt_of_le hl hb12.size)
    | (go_at_call 39; (with_reducible refine (anchorSet_at z d s l a _ ho).mono ?_); rintro e w13 ⟨rfl, hb13⟩))
  go_ret2
  exact ⟨rfl, bt (bt (bt (bt (bt hb0 hb8) hb10) hb11) hb12) hb13⟩
theorem set_at (z d s l a i n e : Int) (w : World) (ho : Ok z d s l a) (ht : Told (0 ≤ i ∧ i < a + 2 * l + 2 * z + z * (d + 1 + s)) (setN z d s l a i) 1 n e) :
    Calls Try.prog 17 #[.agg #[.int .i64 z, .int .i64 d, .int .i64 s, .int .i64 l, .int .i64 a], .int .i64 i] w fun r w' => r = .returned (.tuple #[.int .i64 n, .int .i64 e]) ∧ Below w.heap.size w w' := by
  by_cases hi : 0 ≤ i ∧ i < a + 2 * l + 2 * z + z * (d + 1 + s)
  · obtain ⟨hn, rfl⟩ := ht.1 hi
    unfold setN at hn
    split at hn
    · subst n; exact set_slot z d s l a i w ho hi (by assumption)
    split at hn
    · subst n; exact set_table z d s l a i w ho hi (by assumption) (by assumption)
    split at hn
    · subst n; exact set_log z d s l a i w ho hi (by assumption) (by assumption) (by assumption)
    · subst n; exact set_anchor z d s l a i w ho hi (by assumption) (by assumption) (by assumption)
  · obtain ⟨rfl, rfl⟩ := ht.2 hi
    exact set_far z d s l a i w ho hi
end Go.Proofs.Ytjadbekefonhlaa.gmt
