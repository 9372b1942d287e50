/-
  Package geom: what is a right geometry, and where each part begins, by the contract of each function. Conditions: each one's own.
-/
import Derived.Test.YtjadbekefonhlaaKeep
import Derived.Deep.RegionHeld3
import Derived.Lib.Hide
namespace Go.Proofs.Ytjadbekefonhlaa.gmt
open Go.RowKit Go.Lib

/-- A right geometry: zones, blocks, spares, slots, anchors. -/
def Ok (z d s l a : Int) : Prop := (1 ≤ z ∧ z ≤ 4) ∧ (1 ≤ d ∧ d ≤ 4) ∧ (0 ≤ s ∧ s ≤ 2) ∧ (14 ≤ l ∧ l ≤ 30) ∧ 1 ≤ a ∧ a ≤ 3
instance (z d s l a : Int) : Decidable (Ok z d s l a) := by unfold Ok; infer_instance

theorem kal {a W : World} (h : Below a.heap.size a W) (o : Obj) : Below a.heap.size a (W.alloc o) := h.alloc h.size o
theorem bl (w : World) (o : Obj) : Below w.heap.size w (w.alloc o) := (Below.refl _ _).alloc (Nat.le_refl _) o
theorem kst {a W : World} (h : Below a.heap.size a W) {b o : Nat} {v : Value} (hb : b < a.heap.size) (hv : a.cell? ⟨b, o, none⟩ = some v) : W.cell? ⟨b, o, none⟩ = some v := (h.cell (p := ⟨b, o, none⟩) hb).trans hv

theorem isFrom_at (x : Bool) (n lo hi : Int) (w : World) (hx : x = true ↔ lo ≤ n ∧ n ≤ hi) :
    Calls Try.prog 31 #[.int .i64 n, .int .i64 lo, .int .i64 hi] w fun e w' => e = .returned (.bool x) ∧ w = w' := by
  by_cases h1 : lo ≤ n
  · by_cases h2 : n ≤ hi
    · obtain rfl : x = true := hx.2 ⟨h1, h2⟩
      clear hx
      go_enter Try.func31, Try.ntmps31
      go_wp2
      go_ret
      exact ⟨rfl, rfl⟩
    · obtain rfl : x = false := by
        cases x with
        | false => rfl
        | true => exact absurd (hx.1 rfl).2 h2
      clear hx
      go_enter Try.func31, Try.ntmps31
      go_wp2
      go_ret
      exact ⟨rfl, rfl⟩
  · obtain rfl : x = false := by
      cases x with
      | false => rfl
      | true => exact absurd (hx.1 rfl).1 h1
    clear hx
    go_enter Try.func31, Try.ntmps31
    go_wp2
    go_ret
    exact ⟨rfl, rfl⟩
theorem isIndex_at (x : Bool) (i n : Int) (w : World) (hx : x = true ↔ 0 ≤ i ∧ i < n) :
    Calls Try.prog 34 #[.int .i64 i, .int .i64 n] w fun e w' => e = .returned (.bool x) ∧ w = w' := by
  by_cases h1 : 0 ≤ i
  · by_cases h2 : i < n
    · obtain rfl : x = true := hx.2 ⟨h1, h2⟩
      clear hx
      go_enter Try.func34, Try.ntmps34
      go_wp2
      go_ret
      exact ⟨rfl, rfl⟩
    · obtain rfl : x = false := by
        cases x with
        | false => rfl
        | true => exact absurd (hx.1 rfl).2 h2
      clear hx
      go_enter Try.func34, Try.ntmps34
      go_wp2
      go_ret
      exact ⟨rfl, rfl⟩
  · obtain rfl : x = false := by
      cases x with
      | false => rfl
      | true => exact absurd (hx.1 rfl).1 h1
    clear hx
    go_enter Try.func34, Try.ntmps34
    go_wp2
    go_ret
    exact ⟨rfl, rfl⟩

theorem check_ok (z d s l a : Int) (w : World) (ho : Ok z d s l a) :
    Calls Try.prog 10 #[.agg #[.int .i64 z, .int .i64 d, .int .i64 s, .int .i64 l, .int .i64 a]] w fun e w' => e = .returned (.int .i64 0) ∧ Below w.heap.size w w' := by
  obtain ⟨h1, h2, h3, h4, h5⟩ := ho
  have c1 := fun W => isFrom_at true z 1 4 W (iff_of_true rfl h1)
  have c2 := fun W => isFrom_at true d 1 4 W (iff_of_true rfl h2)
  have c3 := fun W => isFrom_at true s 0 2 W (iff_of_true rfl h3)
  have c4 := fun W => isFrom_at true l 14 30 W (iff_of_true rfl h4)
  have c5 := fun W => isFrom_at true a 1 3 W (iff_of_true rfl h5)
  clear h1 h2 h3 h4 h5
  go_enter Try.func10, Try.ntmps10
  go_wp2_with (first
    | (go_at_call 31; (with_reducible refine (c1 _).mono ?_); rintro e w1 ⟨rfl, rfl⟩)
    | (go_at_call 31; (with_reducible refine (c2 _).mono ?_); rintro e w1 ⟨rfl, rfl⟩)
    | (go_at_call 31; (with_reducible refine (c3 _).mono ?_); rintro e w1 ⟨rfl, rfl⟩)
    | (go_at_call 31; (with_reducible refine (c4 _).mono ?_); rintro e w1 ⟨rfl, rfl⟩)
    | (go_at_call 31; (with_reducible refine (c5 _).mono ?_); rintro e w1 ⟨rfl, rfl⟩))
  go_ret
  exact ⟨rfl, bl w _⟩

theorem logStart_at (z d s l a : Int) (w : World) :
    Calls Try.prog 35 #[.agg #[.int .i64 z, .int .i64 d, .int .i64 s, .int .i64 l, .int .i64 a]] w fun e w' => e = .returned (.int .i64 a) ∧ Below w.heap.size w w' := by
  go_enter Try.func35, Try.ntmps35
  go_wp2
  go_ret
  exact ⟨rfl, bl w _⟩
theorem logSets_at (z d s l a : Int) (w : World) :
    Calls Try.prog 38 #[.agg #[.int .i64 z, .int .i64 d, .int .i64 s, .int .i64 l, .int .i64 a]] w fun e w' => e = .returned (.int .i64 z) ∧ Below w.heap.size w w' := by
  go_enter Try.func38, Try.ntmps38
  go_wp2
  go_ret
  exact ⟨rfl, bl w _⟩
theorem zoneSlots_at (z d s l a : Int) (w : World) (ho : Ok z d s l a) :
    Calls Try.prog 33 #[.agg #[.int .i64 z, .int .i64 d, .int .i64 s, .int .i64 l, .int .i64 a]] w fun e w' => e = .returned (.int .i64 (d + 1 + s)) ∧ Below w.heap.size w w' := by
  have hb := bl w (.cells #[.int .i64 z, .int .i64 d, .int .i64 s, .int .i64 l, .int .i64 a] 23)
  obtain ⟨h1, h2, h3, h4, h5⟩ := ho
  go_enter Try.func33, Try.ntmps33
  go_wp2
  go_ret
  exact ⟨rfl, hb⟩

theorem five_new (w : World) (z d s l a : Int) :
    (w.alloc (.cells #[.int .i64 z, .int .i64 d, .int .i64 s, .int .i64 l, .int .i64 a] 23)).cell? ⟨w.heap.size, 0, none⟩ = some (.int .i64 z) ∧
    (w.alloc (.cells #[.int .i64 z, .int .i64 d, .int .i64 s, .int .i64 l, .int .i64 a] 23)).cell? ⟨w.heap.size, 1, none⟩ = some (.int .i64 d) ∧
    (w.alloc (.cells #[.int .i64 z, .int .i64 d, .int .i64 s, .int .i64 l, .int .i64 a] 23)).cell? ⟨w.heap.size, 2, none⟩ = some (.int .i64 s) ∧
    (w.alloc (.cells #[.int .i64 z, .int .i64 d, .int .i64 s, .int .i64 l, .int .i64 a] 23)).cell? ⟨w.heap.size, 3, none⟩ = some (.int .i64 l) ∧
    (w.alloc (.cells #[.int .i64 z, .int .i64 d, .int .i64 s, .int .i64 l, .int .i64 a] 23)).cell? ⟨w.heap.size, 4, none⟩ = some (.int .i64 a) := by
  refine ⟨?_, ?_, ?_, ?_, ?_⟩ <;> (rw [cell_of_row _ _ _ _ _ _ (heap_alloc_new w _)]; rfl)

theorem w6 (x : Int) (h1 : -1099511627776 ≤ x) (h2 : x ≤ 1099511627776) : IntKind.i64.wrap x = x := by
  simp only [IntKind.wrap, IntKind.bits, IntKind.signed]; simp; omega

theorem tableStart_at (z d s l a : Int) (w : World) (ho : Ok z d s l a) :
    Calls Try.prog 36 #[.agg #[.int .i64 z, .int .i64 d, .int .i64 s, .int .i64 l, .int .i64 a]] w fun e w' => e = .returned (.int .i64 (a + 2 * l)) ∧ Below w.heap.size w w' := by
  have hb0 := bl w (.cells #[.int .i64 z, .int .i64 d, .int .i64 s, .int .i64 l, .int .i64 a] 23)
  have hl : w.heap.size < (w.alloc (.cells #[.int .i64 z, .int .i64 d, .int .i64 s, .int .i64 l, .int .i64 a] 23)).heap.size := by simp
  obtain ⟨g0, g1, g2, g3, g4⟩ := five_new w z d s l a
  obtain ⟨h1, h2, h3, h4, h5⟩ := id ho
  go_enter Try.func36, Try.ntmps36
  go_wp2_with fail
  generalize w.alloc (.cells #[.int .i64 z, .int .i64 d, .int .i64 s, .int .i64 l, .int .i64 a] 23) = w0 at *
  go_region_held3 (fun W => W.cell? ⟨w.heap.size, 0, none⟩ = some (.int .i64 z) ∧ W.cell? ⟨w.heap.size, 1, none⟩ = some (.int .i64 d) ∧ W.cell? ⟨w.heap.size, 2, none⟩ = some (.int .i64 s) ∧ W.cell? ⟨w.heap.size, 3, none⟩ = some (.int .i64 l) ∧ W.cell? ⟨w.heap.size, 4, none⟩ = some (.int .i64 a) ∧ Below w0.heap.size w0 W)
    ((go_split_ands; refine ⟨?_, ?_, ?_, ?_, ?_, ?_⟩ <;> (first
      | assumption | exact below_dr (Below.refl _ _) | exact bt (by assumption) (by assumption)
      | exact kst (below_dr (Below.refl _ _)) hl (by assumption) | exact kst (by assumption) hl (by assumption) | exact kst (bt (by assumption) (by assumption)) hl (by assumption) | fail)))
    (first
      | (go_at_call 35; (with_reducible refine (logStart_at z d s l a _).mono ?_); rintro e w1 ⟨rfl, hb1⟩)
      | fail)
  go_split_ands
  rw [w6 (2 * l) (by omega) (by omega), w6 (a + 2 * l) (by omega) (by omega)]
  go_wp2
  go_ret
  exact ⟨rfl, bt hb0 (by assumption)⟩
theorem slotStart_at (z d s l a : Int) (w : World) (ho : Ok z d s l a) :
    Calls Try.prog 32 #[.agg #[.int .i64 z, .int .i64 d, .int .i64 s, .int .i64 l, .int .i64 a]] w fun e w' => e = .returned (.int .i64 (a + 2 * l + 2 * z)) ∧ Below w.heap.size w w' := by
  have hb0 := bl w (.cells #[.int .i64 z, .int .i64 d, .int .i64 s, .int .i64 l, .int .i64 a] 23)
  have hl : w.heap.size < (w.alloc (.cells #[.int .i64 z, .int .i64 d, .int .i64 s, .int .i64 l, .int .i64 a] 23)).heap.size := by simp
  obtain ⟨g0, g1, g2, g3, g4⟩ := five_new w z d s l a
  obtain ⟨h1, h2, h3, h4, h5⟩ := id ho
  go_enter Try.func32, Try.ntmps32
  go_wp2_with fail
  generalize w.alloc (.cells #[.int .i64 z, .int .i64 d, .int .i64 s, .int .i64 l, .int .i64 a] 23) = w0 at *
  go_region_held3 (fun W => W.cell? ⟨w.heap.size, 0, none⟩ = some (.int .i64 z) ∧ W.cell? ⟨w.heap.size, 1, none⟩ = some (.int .i64 d) ∧ W.cell? ⟨w.heap.size, 2, none⟩ = some (.int .i64 s) ∧ W.cell? ⟨w.heap.size, 3, none⟩ = some (.int .i64 l) ∧ W.cell? ⟨w.heap.size, 4, none⟩ = some (.int .i64 a) ∧ Below w0.heap.size w0 W)
    ((go_split_ands; refine ⟨?_, ?_, ?_, ?_, ?_, ?_⟩ <;> (first
      | assumption | exact below_dr (Below.refl _ _) | exact bt (by assumption) (by assumption)
      | exact kst (below_dr (Below.refl _ _)) hl (by assumption) | exact kst (by assumption) hl (by assumption) | exact kst (bt (by assumption) (by assumption)) hl (by assumption) | fail)))
    (first
      | (go_at_call 36; (with_reducible refine (tableStart_at z d s l a _ ho).mono ?_); rintro e w1 ⟨rfl, hb1⟩)
      | fail)
  go_split_ands
  rw [w6 (2 * z) (by omega) (by omega), w6 (a + 2 * l + 2 * z) (by omega) (by omega)]
  go_wp2
  go_ret
  exact ⟨rfl, bt hb0 (by assumption)⟩
theorem tableSets_at (z d s l a : Int) (w : World) (ho : Ok z d s l a) :
    Calls Try.prog 37 #[.agg #[.int .i64 z, .int .i64 d, .int .i64 s, .int .i64 l, .int .i64 a]] w fun e w' => e = .returned (.int .i64 (z + l)) ∧ Below w.heap.size w w' := by
  have hb0 := bl w (.cells #[.int .i64 z, .int .i64 d, .int .i64 s, .int .i64 l, .int .i64 a] 23)
  have hl : w.heap.size < (w.alloc (.cells #[.int .i64 z, .int .i64 d, .int .i64 s, .int .i64 l, .int .i64 a] 23)).heap.size := by simp
  obtain ⟨g0, g1, g2, g3, g4⟩ := five_new w z d s l a
  obtain ⟨h1, h2, h3, h4, h5⟩ := id ho
  go_enter Try.func37, Try.ntmps37
  go_wp2_with fail
  generalize w.alloc (.cells #[.int .i64 z, .int .i64 d, .int .i64 s, .int .i64 l, .int .i64 a] 23) = w0 at *
  go_region_held3 (fun W => W.cell? ⟨w.heap.size, 0, none⟩ = some (.int .i64 z) ∧ W.cell? ⟨w.heap.size, 1, none⟩ = some (.int .i64 d) ∧ W.cell? ⟨w.heap.size, 2, none⟩ = some (.int .i64 s) ∧ W.cell? ⟨w.heap.size, 3, none⟩ = some (.int .i64 l) ∧ W.cell? ⟨w.heap.size, 4, none⟩ = some (.int .i64 a) ∧ Below w0.heap.size w0 W)
    ((go_split_ands; refine ⟨?_, ?_, ?_, ?_, ?_, ?_⟩ <;> (first
      | assumption | exact below_dr (Below.refl _ _) | exact bt (by assumption) (by assumption)
      | exact kst (below_dr (Below.refl _ _)) hl (by assumption) | exact kst (by assumption) hl (by assumption) | exact kst (bt (by assumption) (by assumption)) hl (by assumption) | fail)))
    (first
      | (go_at_call 38; (with_reducible refine (logSets_at z d s l a _).mono ?_); rintro e w1 ⟨rfl, hb1⟩)
      | fail)
  go_split_ands
  rw [w6 (z + l) (by omega) (by omega)]
  go_wp2
  go_ret
  exact ⟨rfl, bt hb0 (by assumption)⟩
theorem anchorSet_at (z d s l a : Int) (w : World) (ho : Ok z d s l a) :
    Calls Try.prog 39 #[.agg #[.int .i64 z, .int .i64 d, .int .i64 s, .int .i64 l, .int .i64 a]] w fun e w' => e = .returned (.int .i64 (z + l + z)) ∧ Below w.heap.size w w' := by
  have hb0 := bl w (.cells #[.int .i64 z, .int .i64 d, .int .i64 s, .int .i64 l, .int .i64 a] 23)
  have hl : w.heap.size < (w.alloc (.cells #[.int .i64 z, .int .i64 d, .int .i64 s, .int .i64 l, .int .i64 a] 23)).heap.size := by simp
  obtain ⟨g0, g1, g2, g3, g4⟩ := five_new w z d s l a
  obtain ⟨h1, h2, h3, h4, h5⟩ := id ho
  go_enter Try.func39, Try.ntmps39
  go_wp2_with fail
  generalize w.alloc (.cells #[.int .i64 z, .int .i64 d, .int .i64 s, .int .i64 l, .int .i64 a] 23) = w0 at *
  go_region_held3 (fun W => W.cell? ⟨w.heap.size, 0, none⟩ = some (.int .i64 z) ∧ W.cell? ⟨w.heap.size, 1, none⟩ = some (.int .i64 d) ∧ W.cell? ⟨w.heap.size, 2, none⟩ = some (.int .i64 s) ∧ W.cell? ⟨w.heap.size, 3, none⟩ = some (.int .i64 l) ∧ W.cell? ⟨w.heap.size, 4, none⟩ = some (.int .i64 a) ∧ Below w0.heap.size w0 W)
    ((go_split_ands; refine ⟨?_, ?_, ?_, ?_, ?_, ?_⟩ <;> (first
      | assumption | exact below_dr (Below.refl _ _) | exact bt (by assumption) (by assumption)
      | exact kst (below_dr (Below.refl _ _)) hl (by assumption) | exact kst (by assumption) hl (by assumption) | exact kst (bt (by assumption) (by assumption)) hl (by assumption) | fail)))
    (first
      | (go_at_call 37; (with_reducible refine (tableSets_at z d s l a _ ho).mono ?_); rintro e w1 ⟨rfl, hb1⟩)
      | fail)
  go_split_ands
  rw [w6 (z + l + z) (by omega) (by omega)]
  go_wp2
  go_ret
  exact ⟨rfl, bt hb0 (by assumption)⟩
end Go.Proofs.Ytjadbekefonhlaa.gmt
