/-
  The document's own Set; what a cell is one of; a geometry made of any numbers; what is told: each by its contract. Conditions: a right geometry.
-/
import Derived.Test.YtjadbekefonhlaaGmE
import Derived.Deep.QuietTactic
namespace Go.Proofs.Ytjadbekefonhlaa.gmt
open Go.RowKit Go.Lib

theorem told_yes (n why : Int) (w : World) : Calls Try.prog 22 #[.int .i64 n, .int .i64 0, .bool true, .int .i64 n, .int .i64 why] w fun r w' => r = .returned (.bool true) ∧ w = w' := by
  have h0 : (n == n) = true := beq_self_eq_true n
  go_enter Try.func22, Try.ntmps22
  go_wp2
  go_ret
  exact ⟨rfl, rfl⟩
theorem told_no (v why : Int) (w : World) : Calls Try.prog 22 #[.int .i64 0, .int .i64 why, .bool false, .int .i64 v, .int .i64 why] w fun r w' => r = .returned (.bool true) ∧ w = w' := by
  have h0 : (why == why) = true := beq_self_eq_true why
  go_enter Try.func22, Try.ntmps22
  go_wp2
  go_ret
  exact ⟨rfl, rfl⟩

theorem wrap_mod (i m : Int) (hm : 0 < m) : 0 ≤ (IntKind.u64.wrap i).tmod m ∧ (IntKind.u64.wrap i).tmod m < m := by
  rw [Int.tmod_eq_emod_of_nonneg (wrap_nonneg i)]
  exact ⟨Int.emod_nonneg _ (by omega), Int.emod_lt_of_pos _ hm⟩

theorem some_any (z d s l a : Int) (w : World) :
    Calls Try.prog 28 #[.int .i64 z, .int .i64 d, .int .i64 s, .int .i64 l, .int .i64 a] w fun r w' => (∃ z d s l a, Ok z d s l a ∧ r = .returned (.agg #[.int .i64 z, .int .i64 d, .int .i64 s, .int .i64 l, .int .i64 a])) ∧ Below w.heap.size w w' := by
  have hz := wrap_mod z 4 (by omega)
  have hd := wrap_mod d 4 (by omega)
  have hs := wrap_mod s 3 (by omega)
  have hl := wrap_mod l 17 (by omega)
  have ha := wrap_mod a 3 (by omega)
  generalize hz' : (IntKind.u64.wrap z).tmod 4 = z0 at *
  generalize hd' : (IntKind.u64.wrap d).tmod 4 = d0 at *
  generalize hs' : (IntKind.u64.wrap s).tmod 3 = s0 at *
  generalize hl' : (IntKind.u64.wrap l).tmod 17 = l0 at *
  generalize ha' : (IntKind.u64.wrap a).tmod 3 = a0 at *
  go_enter Try.func28, Try.ntmps28
  go_wp2
  obtain ⟨g0, g1, g2, g3, g4⟩ := five_new w (1 + z0) (1 + d0) s0 (14 + l0) (1 + a0)
  refine bodyPost_ret (v := .agg #[.int .i64 (1 + z0), .int .i64 (1 + d0), .int .i64 s0, .int .i64 (14 + l0), .int .i64 (1 + a0)]) (by simp [results, Try.results28, go_sem, g0, g1, g2, g3, g4]) rfl ⟨⟨_, _, _, _, _, by unfold Ok; omega, rfl⟩, bl w _⟩

/-- Of what a cell is one, by a number of its own. -/
def kinN (z d s l a i : Int) : Int :=
  if i - a < 0 then -1
  else if i - a < 2 * l then 1000 + (i - a) % l
  else if i - a < 2 * l + 2 * z then 2000 + (i - a - 2 * l) / 2
  else 3000 + (i - a - 2 * l - 2 * z) / (d + 1 + s)

theorem kin_at (z d s l a i : Int) (w : World) (ho : Ok z d s l a) (hi : 0 ≤ i ∧ i < 1000) :
    Calls Try.prog 29 #[.agg #[.int .i64 z, .int .i64 d, .int .i64 s, .int .i64 l, .int .i64 a], .int .i64 i] w fun r w' => r = .returned (.int .i64 (kinN z d s l a i)) ∧ Below w.heap.size w w' := by
  have hb0 := bl w (.cells #[.int .i64 z, .int .i64 d, .int .i64 s, .int .i64 l, .int .i64 a] 23)
  have hl : w.heap.size < (w.alloc (.cells #[.int .i64 z, .int .i64 d, .int .i64 s, .int .i64 l, .int .i64 a] 23)).heap.size := by simp
  obtain ⟨g0, g1, g2, g3, g4⟩ := five_new w z d s l a
  obtain ⟨h1, h2, h3, h4, h5⟩ := id ho
  have hp := per_le ho
  go_enter Try.func29, Try.ntmps29
  go_wp2
  all_goals
    go_ret
    refine ⟨ret_int ?_, hb0⟩
    clear hb0 hl g0 g1 g2 g3 g4
    unfold kinN
    repeat' split
    all_goals (first | rfl | (exfalso; omega) | (have y1 := Int.emod_nonneg (i - a) (show l ≠ 0 by omega); have y2 := Int.emod_lt_of_pos (i - a) (show 0 < l by omega); unfold wrap64; omega) | (have y3 := Int.ediv_nonneg (show 0 ≤ i - a - 2 * l - 2 * z by omega) (show 0 ≤ d + 1 + s by omega); have y4 := Int.ediv_le_self (d + 1 + s) (show 0 ≤ i - a - 2 * l - 2 * z by omega); unfold wrap64; omega))
theorem rset_0 (z d s l a i : Int) (w : World) (ho : Ok z d s l a) (hi : 0 ≤ i ∧ i < a + 2 * l + 2 * z + z * (d + 1 + s)) (hs : i < a) :
    Calls Try.prog 27 #[.agg #[.int .i64 z, .int .i64 d, .int .i64 s, .int .i64 l, .int .i64 a], .int .i64 i] w fun r w' => r = .returned (.int .i64 (z + l + z)) ∧ Below w.heap.size w w' := by
  have hb0 := bl w (.cells #[.int .i64 z, .int .i64 d, .int .i64 s, .int .i64 l, .int .i64 a] 23)
  have hl : w.heap.size < (w.alloc (.cells #[.int .i64 z, .int .i64 d, .int .i64 s, .int .i64 l, .int .i64 a] 23)).heap.size := by simp
  obtain ⟨g0, g1, g2, g3, g4⟩ := five_new w z d s l a
  obtain ⟨h1, h2, h3, h4, h5⟩ := id ho
  have hp := per_le ho
  have hq := mul_le (i := z) (n := 4) (P := 7) (by omega) (by omega) (by omega) hp.2
  have cs : ∀ W, Calls Try.prog 26 #[.agg #[.int .i64 z, .int .i64 d, .int .i64 s, .int .i64 l, .int .i64 a], .int .i64 0, .int .i64 0] W fun r w' => r = .returned (.int .i64 (a + 2 * l + 2 * z)) ∧ Below W.heap.size W w' := fun W => by
    have := rslot_at z d s l a 0 0 W ho (by omega) (by omega)
    rwa [show a + 2 * l + 2 * z + 0 * (d + 1 + s) + 0 = a + 2 * l + 2 * z by omega] at this
  go_enter Try.func27, Try.ntmps27
  go_wp2_with fail
  generalize w.alloc (.cells #[.int .i64 z, .int .i64 d, .int .i64 s, .int .i64 l, .int .i64 a] 23) = w0 at *
  go_wp2
  go_ret
  exact ⟨rfl, hb0⟩
theorem rset_1 (z d s l a i : Int) (w : World) (ho : Ok z d s l a) (hi : 0 ≤ i ∧ i < a + 2 * l + 2 * z + z * (d + 1 + s)) (hs : ¬ i < a) (ht : i < a + 2 * l) :
    Calls Try.prog 27 #[.agg #[.int .i64 z, .int .i64 d, .int .i64 s, .int .i64 l, .int .i64 a], .int .i64 i] w fun r w' => r = .returned (.int .i64 (z + (i - a) % l)) ∧ Below w.heap.size w w' := by
  have hb0 := bl w (.cells #[.int .i64 z, .int .i64 d, .int .i64 s, .int .i64 l, .int .i64 a] 23)
  have hl : w.heap.size < (w.alloc (.cells #[.int .i64 z, .int .i64 d, .int .i64 s, .int .i64 l, .int .i64 a] 23)).heap.size := by simp
  obtain ⟨g0, g1, g2, g3, g4⟩ := five_new w z d s l a
  obtain ⟨h1, h2, h3, h4, h5⟩ := id ho
  have hp := per_le ho
  have hq := mul_le (i := z) (n := 4) (P := 7) (by omega) (by omega) (by omega) hp.2
  have cs : ∀ W, Calls Try.prog 26 #[.agg #[.int .i64 z, .int .i64 d, .int .i64 s, .int .i64 l, .int .i64 a], .int .i64 0, .int .i64 0] W fun r w' => r = .returned (.int .i64 (a + 2 * l + 2 * z)) ∧ Below W.heap.size W w' := fun W => by
    have := rslot_at z d s l a 0 0 W ho (by omega) (by omega)
    rwa [show a + 2 * l + 2 * z + 0 * (d + 1 + s) + 0 = a + 2 * l + 2 * z by omega] at this
  have hn0 : (l == 0) = false := beq_eq_false_iff_ne.2 (by omega)
  have y1 := Int.emod_nonneg (i - a) (show l ≠ 0 by omega)
  have y2 := Int.emod_lt_of_pos (i - a) (show 0 < l by omega)
  go_enter Try.func27, Try.ntmps27
  go_wp2_with fail
  generalize w.alloc (.cells #[.int .i64 z, .int .i64 d, .int .i64 s, .int .i64 l, .int .i64 a] 23) = w0 at *
  go_wp2_with fail
  go_quiet (fail)
  go_wp2
  go_ret
  exact ⟨rfl, below_dn hb0 _⟩
theorem rset_2 (z d s l a i : Int) (w : World) (ho : Ok z d s l a) (hi : 0 ≤ i ∧ i < a + 2 * l + 2 * z + z * (d + 1 + s)) (hs : ¬ i < a) (ht : ¬ i < a + 2 * l) (hu : i < a + 2 * l + 2 * z) :
    Calls Try.prog 27 #[.agg #[.int .i64 z, .int .i64 d, .int .i64 s, .int .i64 l, .int .i64 a], .int .i64 i] w fun r w' => r = .returned (.int .i64 (z + l + (i - a - 2 * l) / 2)) ∧ Below w.heap.size w w' := by
  have hb0 := bl w (.cells #[.int .i64 z, .int .i64 d, .int .i64 s, .int .i64 l, .int .i64 a] 23)
  have hl : w.heap.size < (w.alloc (.cells #[.int .i64 z, .int .i64 d, .int .i64 s, .int .i64 l, .int .i64 a] 23)).heap.size := by simp
  obtain ⟨g0, g1, g2, g3, g4⟩ := five_new w z d s l a
  obtain ⟨h1, h2, h3, h4, h5⟩ := id ho
  have hp := per_le ho
  have hq := mul_le (i := z) (n := 4) (P := 7) (by omega) (by omega) (by omega) hp.2
  have cs : ∀ W, Calls Try.prog 26 #[.agg #[.int .i64 z, .int .i64 d, .int .i64 s, .int .i64 l, .int .i64 a], .int .i64 0, .int .i64 0] W fun r w' => r = .returned (.int .i64 (a + 2 * l + 2 * z)) ∧ Below W.heap.size W w' := fun W => by
    have := rslot_at z d s l a 0 0 W ho (by omega) (by omega)
    rwa [show a + 2 * l + 2 * z + 0 * (d + 1 + s) + 0 = a + 2 * l + 2 * z by omega] at this
  go_enter Try.func27, Try.ntmps27
  go_wp2_with fail
  generalize w.alloc (.cells #[.int .i64 z, .int .i64 d, .int .i64 s, .int .i64 l, .int .i64 a] 23) = w0 at *
  go_wp2_with (first
    | (go_at_call 26; (with_reducible refine (cs _).mono ?_); rintro e w1 ⟨rfl, hb1⟩; have g0 := kst hb1 hl g0; have g1 := kst hb1 hl g1; have g2 := kst hb1 hl g2; have g3 := kst hb1 hl g3; have g4 := kst hb1 hl g4; have hl := Nat.lt_of_lt_of_le hl hb1.size))
  go_ret
  exact ⟨rfl, bt hb0 hb1⟩
theorem rset_3 (z d s l a i : Int) (w : World) (ho : Ok z d s l a) (hi : 0 ≤ i ∧ i < a + 2 * l + 2 * z + z * (d + 1 + s)) (hs : ¬ i < a) (ht : ¬ i < a + 2 * l) (hu : ¬ i < a + 2 * l + 2 * z) :
    Calls Try.prog 27 #[.agg #[.int .i64 z, .int .i64 d, .int .i64 s, .int .i64 l, .int .i64 a], .int .i64 i] w fun r w' => r = .returned (.int .i64 ((i - (a + 2 * l + 2 * z)) / (d + 1 + s))) ∧ Below w.heap.size w w' := by
  have hb0 := bl w (.cells #[.int .i64 z, .int .i64 d, .int .i64 s, .int .i64 l, .int .i64 a] 23)
  have hl : w.heap.size < (w.alloc (.cells #[.int .i64 z, .int .i64 d, .int .i64 s, .int .i64 l, .int .i64 a] 23)).heap.size := by simp
  obtain ⟨g0, g1, g2, g3, g4⟩ := five_new w z d s l a
  obtain ⟨h1, h2, h3, h4, h5⟩ := id ho
  have hp := per_le ho
  have hq := mul_le (i := z) (n := 4) (P := 7) (by omega) (by omega) (by omega) hp.2
  have cs : ∀ W, Calls Try.prog 26 #[.agg #[.int .i64 z, .int .i64 d, .int .i64 s, .int .i64 l, .int .i64 a], .int .i64 0, .int .i64 0] W fun r w' => r = .returned (.int .i64 (a + 2 * l + 2 * z)) ∧ Below W.heap.size W w' := fun W => by
    have := rslot_at z d s l a 0 0 W ho (by omega) (by omega)
    rwa [show a + 2 * l + 2 * z + 0 * (d + 1 + s) + 0 = a + 2 * l + 2 * z by omega] at this
  have cz := fun W => rper_at z d s l a W ho
  obtain ⟨p, hpp⟩ : ∃ p, d + 1 + s = p := ⟨_, rfl⟩
  rw [hpp] at cz
  rw [hpp]
  have hp1 : 1 ≤ p := by omega
  have hn0 : ¬ p = 0 := by omega
  have x0 : 0 ≤ i - (a + 2 * l + 2 * z) := by omega
  have x1 : IntKind.i64.wrap ((i - (a + 2 * l + 2 * z)).tdiv p) = (i - (a + 2 * l + 2 * z)) / p := Go.IntWalk.i64_quo _ _ (by omega)
  have x2 : IntKind.i64.wrap (i - (a + 2 * l + 2 * z)) = i - (a + 2 * l + 2 * z) := w6 _ (by omega) (by omega)
  go_enter Try.func27, Try.ntmps27
  go_wp2_with fail
  generalize w.alloc (.cells #[.int .i64 z, .int .i64 d, .int .i64 s, .int .i64 l, .int .i64 a] 23) = w0 at *
  go_wp2_with (first
    | (go_at_call 26; (with_reducible refine (cs _).mono ?_); rintro e w1 ⟨rfl, hb1⟩; have g0 := kst hb1 hl g0; have g1 := kst hb1 hl g1; have g2 := kst hb1 hl g2; have g3 := kst hb1 hl g3; have g4 := kst hb1 hl g4; have hl := Nat.lt_of_lt_of_le hl hb1.size))
  go_region_held3 (fun W => W.cell? ⟨w.heap.size, 0, none⟩ = some (.int .i64 z) ∧ W.cell? ⟨w.heap.size, 1, none⟩ = some (.int .i64 d) ∧ W.cell? ⟨w.heap.size, 2, none⟩ = some (.int .i64 s) ∧ W.cell? ⟨w.heap.size, 3, none⟩ = some (.int .i64 l) ∧ W.cell? ⟨w.heap.size, 4, none⟩ = some (.int .i64 a) ∧ Below w1.heap.size w1 W)
    ((go_split_ands; refine ⟨?_, ?_, ?_, ?_, ?_, ?_⟩ <;> (first
      | assumption | exact below_dr (Below.refl _ _) | exact bt (by assumption) (by assumption)
      | exact kst (below_dr (Below.refl _ _)) hl (by assumption) | exact kst (by assumption) hl (by assumption) | exact kst (bt (by assumption) (by assumption)) hl (by assumption) | fail)))
    (first
      | (go_at_call 26; (with_reducible refine (cs _).mono ?_); rintro e w21 ⟨rfl, hb21⟩)
      | (go_at_call 25; (with_reducible refine (cz _).mono ?_); rintro e w22 ⟨rfl, hb22⟩)
      | fail)
  go_split_ands
  go_wp2
  subst hpp
  go_ret
  exact ⟨rfl, bt (bt hb0 hb1) (by assumption)⟩
theorem rset_at (z d s l a i : Int) (w : World) (ho : Ok z d s l a) (hi : 0 ≤ i ∧ i < a + 2 * l + 2 * z + z * (d + 1 + s)) :
    Calls Try.prog 27 #[.agg #[.int .i64 z, .int .i64 d, .int .i64 s, .int .i64 l, .int .i64 a], .int .i64 i] w fun r w' => r = .returned (.int .i64 (setN z d s l a i)) ∧ Below w.heap.size w w' := by
  obtain ⟨h1, h2, h3, h4, h5⟩ := id ho
  unfold setN
  split
  · exact rset_3 z d s l a i w ho hi (by omega) (by omega) (by omega)
  split
  · rw [show i - (a + 2 * l) = i - a - 2 * l by omega]; exact rset_2 z d s l a i w ho hi (by omega) (by omega) (by omega)
  split
  · exact rset_1 z d s l a i w ho hi (by omega) (by omega)
  · exact rset_0 z d s l a i w ho hi (by omega)
end Go.Proofs.Ytjadbekefonhlaa.gmt
