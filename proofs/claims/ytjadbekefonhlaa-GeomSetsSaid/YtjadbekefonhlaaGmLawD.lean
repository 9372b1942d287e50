/-
  GeomSets walked: cells of one kind, and no others, are of one set. Conditions: none.
-/
import Derived.Test.YtjadbekefonhlaaGmF
namespace Go.Proofs.Ytjadbekefonhlaa.gmt
open Go.RowKit Go.Lib

theorem set_kin {z d s l a i j : Int} (ho : Ok z d s l a) (hi : 0 ≤ i ∧ i < a + 2 * l + 2 * z + z * (d + 1 + s)) (hj : 0 ≤ j ∧ j < a + 2 * l + 2 * z + z * (d + 1 + s)) :
    (setN z d s l a i = setN z d s l a j ↔ kinN z d s l a i = kinN z d s l a j) ∧ 0 ≤ setN z d s l a i ∧ setN z d s l a i < z + l + z + 1 := by
  have hp := per_le ho
  obtain ⟨h1, h2, h3, h4, h5⟩ := ho
  have a0 : ∀ x, a + 2 * l + 2 * z ≤ x → x < a + 2 * l + 2 * z + z * (d + 1 + s) → 0 ≤ (x - (a + 2 * l + 2 * z)) / (d + 1 + s) ∧ (x - (a + 2 * l + 2 * z)) / (d + 1 + s) < z := fun x h h' =>
    ⟨Int.ediv_nonneg (by omega) (by omega), Int.ediv_lt_of_lt_mul (by omega) (by omega)⟩
  have a1 : ∀ x, 0 ≤ (x - a) % l ∧ (x - a) % l < l := fun x => ⟨Int.emod_nonneg _ (by omega), Int.emod_lt_of_pos _ (by omega)⟩
  have b0 : ∀ x, x - a - 2 * l - 2 * z = x - (a + 2 * l + 2 * z) := fun x => by omega
  have b1 : ∀ x, x - a - 2 * l = x - (a + 2 * l) := fun x => by omega
  have i1 := a1 i
  have j1 := a1 j
  have i0 := a0 i
  have j0 := a0 j
  unfold setN kinN
  rw [b0 i, b0 j, b1 i, b1 j]
  clear a0 a1 b0 b1
  generalize (i - (a + 2 * l + 2 * z)) / (d + 1 + s) = qi at *
  generalize (j - (a + 2 * l + 2 * z)) / (d + 1 + s) = qj at *
  generalize z * (d + 1 + s) = zp at *
  generalize (i - a) % l = ri at *
  generalize (j - a) % l = rj at *
  repeat' split
  all_goals omega

set_option maxRecDepth 100000 in
set_option maxHeartbeats 1000000 in
theorem geomsets_law (z' d' s' l' a' i' j' : Int) (w : World) :
    Calls Try.prog 5 #[.int .i64 z', .int .i64 d', .int .i64 s', .int .i64 l', .int .i64 a', .int .i64 i', .int .i64 j'] w fun e w' => e = .returned (.bool true) ∧ Below w.heap.size w w' := by
  go_enter Try.func5, Try.ntmps5
  go_wp2_with (first
    | (go_at_call 28; (with_reducible refine (some_any _ _ _ _ _ _).mono ?_); rintro e w1 ⟨⟨z, d, s, l, a, ho, rfl⟩, hb1⟩; obtain ⟨h1, h2, h3, h4, h5⟩ := id ho))
  have hb0 := bt hb1 (bl w1 (.cells #[.int .i64 z, .int .i64 d, .int .i64 s, .int .i64 l, .int .i64 a] 23))
  have hl : w1.heap.size < (w1.alloc (.cells #[.int .i64 z, .int .i64 d, .int .i64 s, .int .i64 l, .int .i64 a] 23)).heap.size := by simp
  obtain ⟨g0, g1, g2, g3, g4⟩ := five_new w1 z d s l a
  have hp := per_le ho
  have hq1 := mul_le (i := z) (n := 4) (P := 7) (by omega) (by omega) (by omega) hp.2
  obtain ⟨N, hN⟩ : ∃ N, a + 2 * l + 2 * z + z * (d + 1 + s) = N := ⟨_, rfl⟩
  have cn := fun W => cells_ok z d s l a W ho
  rw [hN] at cn
  have hN0 : 1 ≤ N := by omega
  have hN1 : N ≤ 300 := by omega
  have hi := wrap_mod i' N (by omega)
  have hj := wrap_mod j' N (by omega)
  obtain ⟨i, hi'⟩ : ∃ i, (IntKind.u64.wrap i').tmod N = i := ⟨_, rfl⟩
  obtain ⟨j, hj'⟩ : ∃ j, (IntKind.u64.wrap j').tmod N = j := ⟨_, rfl⟩
  rw [hi'] at hi
  rw [hj'] at hj
  obtain ⟨he, hx⟩ := set_kin ho (by rw [hN]; exact hi) (by rw [hN]; exact hj)
  have hy := (set_kin ho (by rw [hN]; exact hj) (by rw [hN]; exact hi)).2
  have s1 := fun W => set_at z d s l a i (setN z d s l a i) 0 W ho ⟨fun _ => ⟨rfl, rfl⟩, fun h => absurd (by rw [hN]; exact hi) h⟩
  have s2 := fun W => set_at z d s l a j (setN z d s l a j) 0 W ho ⟨fun _ => ⟨rfl, rfl⟩, fun h => absurd (by rw [hN]; exact hj) h⟩
  have k1 := fun W => kin_at z d s l a i W ho (by omega)
  have k2 := fun W => kin_at z d s l a j W ho (by omega)
  generalize setN z d s l a i = X at *
  generalize setN z d s l a j = Y at *
  generalize kinN z d s l a i = K at *
  generalize kinN z d s l a j = L at *
  clear hN hq1
  generalize w1.alloc (.cells #[.int .i64 z, .int .i64 d, .int .i64 s, .int .i64 l, .int .i64 a] 23) = w0 at *
  by_cases hXY : X = Y
  · have e1 : (X == Y) = true := beq_iff_eq.2 hXY
    have e2 : (K == L) = true := beq_iff_eq.2 (he.1 hXY)
    clear he hXY
    go_wp2_with (first
      | (go_at_call 11; (with_reducible refine (cn _).mono ?_); rintro e w8 ⟨rfl, hb8⟩; replace g0 := kst hb8 hl g0; replace g1 := kst hb8 hl g1; replace g2 := kst hb8 hl g2; replace g3 := kst hb8 hl g3; replace g4 := kst hb8 hl g4; replace hl := Nat.lt_of_lt_of_le hl hb8.size)
      | (go_at_call 18; (with_reducible refine (sets_ok z d s l a _ ho).mono ?_); rintro e w9 ⟨rfl, hb9⟩; replace g0 := kst hb9 hl g0; replace g1 := kst hb9 hl g1; replace g2 := kst hb9 hl g2; replace g3 := kst hb9 hl g3; replace g4 := kst hb9 hl g4; replace hl := Nat.lt_of_lt_of_le hl hb9.size))
    go_quiet (fail)
    have bq := below_dn (Below.refl w9.heap.size w9) nq
    replace g0 := kst bq hl g0
    replace g1 := kst bq hl g1
    replace g2 := kst bq hl g2
    replace g3 := kst bq hl g3
    replace g4 := kst bq hl g4
    replace hb9 := bt hb9 bq
    replace hl := Nat.lt_of_lt_of_le hl bq.size
    clear bq
    generalize w9.drewN nq = w9' at *
    go_wp2_with (first
      | (go_at_call 17; (with_reducible refine (s1 _).mono ?_); rintro e w10 ⟨rfl, hb10⟩; replace g0 := kst hb10 hl g0; replace g1 := kst hb10 hl g1; replace g2 := kst hb10 hl g2; replace g3 := kst hb10 hl g3; replace g4 := kst hb10 hl g4; replace hl := Nat.lt_of_lt_of_le hl hb10.size)
      | (go_at_call 17; (with_reducible refine (s2 _).mono ?_); rintro e w11 ⟨rfl, hb11⟩; replace g0 := kst hb11 hl g0; replace g1 := kst hb11 hl g1; replace g2 := kst hb11 hl g2; replace g3 := kst hb11 hl g3; replace g4 := kst hb11 hl g4; replace hl := Nat.lt_of_lt_of_le hl hb11.size))
    go_region_held3 (fun W => W.cell? ⟨w1.heap.size, 0, none⟩ = some (.int .i64 z) ∧ W.cell? ⟨w1.heap.size, 1, none⟩ = some (.int .i64 d) ∧ W.cell? ⟨w1.heap.size, 2, none⟩ = some (.int .i64 s) ∧ W.cell? ⟨w1.heap.size, 3, none⟩ = some (.int .i64 l) ∧ W.cell? ⟨w1.heap.size, 4, none⟩ = some (.int .i64 a) ∧ Below w11.heap.size w11 W)
      ((go_split_ands; refine ⟨?_, ?_, ?_, ?_, ?_, ?_⟩ <;> (first
        | assumption | exact below_dr (Below.refl _ _) | exact bt (by assumption) (by assumption)
        | exact kst (below_dr (Below.refl _ _)) hl (by assumption) | exact kst (by assumption) hl (by assumption) | exact kst (bt (by assumption) (by assumption)) hl (by assumption) | fail)))
      (first
        | (go_at_call 29; (with_reducible refine (k1 _).mono ?_); rintro e w21 ⟨rfl, hb21⟩)
        | (go_at_call 29; (with_reducible refine (k2 _).mono ?_); rintro e w22 ⟨rfl, hb22⟩)
        | (go_at_call 20; (with_reducible refine (wakes_any _).mono ?_); rintro e w23 ⟨rfl, hb23⟩)
        | fail)
    go_split_ands
    go_wp2
    go_ret
    exact ⟨rfl, bt (bt (bt (bt (bt hb0 hb8) hb9) hb10) hb11) (by assumption)⟩
  · have e1 : (X == Y) = false := beq_eq_false_iff_ne.2 hXY
    have e2 : (K == L) = false := beq_eq_false_iff_ne.2 fun h => hXY (he.2 h)
    clear he hXY
    go_wp2_with (first
      | (go_at_call 11; (with_reducible refine (cn _).mono ?_); rintro e w8 ⟨rfl, hb8⟩; replace g0 := kst hb8 hl g0; replace g1 := kst hb8 hl g1; replace g2 := kst hb8 hl g2; replace g3 := kst hb8 hl g3; replace g4 := kst hb8 hl g4; replace hl := Nat.lt_of_lt_of_le hl hb8.size)
      | (go_at_call 18; (with_reducible refine (sets_ok z d s l a _ ho).mono ?_); rintro e w9 ⟨rfl, hb9⟩; replace g0 := kst hb9 hl g0; replace g1 := kst hb9 hl g1; replace g2 := kst hb9 hl g2; replace g3 := kst hb9 hl g3; replace g4 := kst hb9 hl g4; replace hl := Nat.lt_of_lt_of_le hl hb9.size))
    go_quiet (fail)
    have bq := below_dn (Below.refl w9.heap.size w9) nq
    replace g0 := kst bq hl g0
    replace g1 := kst bq hl g1
    replace g2 := kst bq hl g2
    replace g3 := kst bq hl g3
    replace g4 := kst bq hl g4
    replace hb9 := bt hb9 bq
    replace hl := Nat.lt_of_lt_of_le hl bq.size
    clear bq
    generalize w9.drewN nq = w9' at *
    go_wp2_with (first
      | (go_at_call 17; (with_reducible refine (s1 _).mono ?_); rintro e w10 ⟨rfl, hb10⟩; replace g0 := kst hb10 hl g0; replace g1 := kst hb10 hl g1; replace g2 := kst hb10 hl g2; replace g3 := kst hb10 hl g3; replace g4 := kst hb10 hl g4; replace hl := Nat.lt_of_lt_of_le hl hb10.size)
      | (go_at_call 17; (with_reducible refine (s2 _).mono ?_); rintro e w11 ⟨rfl, hb11⟩; replace g0 := kst hb11 hl g0; replace g1 := kst hb11 hl g1; replace g2 := kst hb11 hl g2; replace g3 := kst hb11 hl g3; replace g4 := kst hb11 hl g4; replace hl := Nat.lt_of_lt_of_le hl hb11.size))
    go_region_held3 (fun W => W.cell? ⟨w1.heap.size, 0, none⟩ = some (.int .i64 z) ∧ W.cell? ⟨w1.heap.size, 1, none⟩ = some (.int .i64 d) ∧ W.cell? ⟨w1.heap.size, 2, none⟩ = some (.int .i64 s) ∧ W.cell? ⟨w1.heap.size, 3, none⟩ = some (.int .i64 l) ∧ W.cell? ⟨w1.heap.size, 4, none⟩ = some (.int .i64 a) ∧ Below w11.heap.size w11 W)
      ((go_split_ands; refine ⟨?_, ?_, ?_, ?_, ?_, ?_⟩ <;> (first
        | assumption | exact below_dr (Below.refl _ _) | exact bt (by assumption) (by assumption)
        | exact kst (below_dr (Below.refl _ _)) hl (by assumption) | exact kst (by assumption) hl (by assumption) | exact kst (bt (by assumption) (by assumption)) hl (by assumption) | fail)))
      (first
        | (go_at_call 29; (with_reducible refine (k1 _).mono ?_); rintro e w21 ⟨rfl, hb21⟩)
        | (go_at_call 29; (with_reducible refine (k2 _).mono ?_); rintro e w22 ⟨rfl, hb22⟩)
        | (go_at_call 20; (with_reducible refine (wakes_any _).mono ?_); rintro e w23 ⟨rfl, hb23⟩)
        | fail)
    go_split_ands
    go_wp2
    go_ret
    exact ⟨rfl, bt (bt (bt (bt (bt hb0 hb8) hb9) hb10) hb11) (by assumption)⟩
end Go.Proofs.Ytjadbekefonhlaa.gmt
