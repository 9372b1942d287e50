/-
  Package geom: what is a right geometry, and where each part begins, by the contract of each function. Conditions: each one's own.
  Package geom's functions for a geometry that is none: each answers nothing but why. Conditions: none.
  Package geom's functions for a right geometry: each answers its number, or why not. Conditions: a right geometry.
  Package geom's Set, for a right geometry: of which set a cell is one, or why not. Conditions: a right geometry.
  The document's own answers for geometries (as the statements' package gives them), each by its contract; what wakes a statement. Conditions: a right geometry.
  The document's own Set; what a cell is one of; a geometry made of any numbers; what is told: each by its contract. Conditions: a right geometry.
-/
import Derived.Test.YtbfdpibjicjagaaGreatDoorKeep
import Derived.Deep.RegionHeld3
import Derived.Lib.Hide
import Derived.Deep.QuietTactic
set_option maxRecDepth 100000
namespace Go.Proofs.YtbfdpibjicjagaaGreatDoor.gmt
open Go.RowKit Go.Lib
def Ok (z d s l a : Int) : Prop := (1 ≤ z ∧ z ≤ 4) ∧ (1 ≤ d ∧ d ≤ 4) ∧ (0 ≤ s ∧ s ≤ 2) ∧ (14 ≤ l ∧ l ≤ 30) ∧ 1 ≤ a ∧ a ≤ 3
instance (z d s l a : Int) : Decidable (Ok z d s l a) := by unfold Ok; infer_instance
theorem kal {a W : World} (h : Below a.heap.size a W) (o : Obj) : Below a.heap.size a (W.alloc o) := h.alloc h.size o
theorem bl (w : World) (o : Obj) : Below w.heap.size w (w.alloc o) := (Below.refl _ _).alloc (Nat.le_refl _) o
theorem kst {a W : World} (h : Below a.heap.size a W) {b o : Nat} {v : Value} (hb : b < a.heap.size) (hv : a.cell? ⟨b, o, none⟩ = some v) : W.cell? ⟨b, o, none⟩ = some v := (h.cell (p := ⟨b, o, none⟩) hb).trans hv
theorem isFrom_at (x : Bool) (n lo hi : Int) (w : World) (hx : x = true ↔ lo ≤ n ∧ n ≤ hi) :
  Calls Tryz.prog 60 #[.int .i64 n, .int .i64 lo, .int .i64 hi] w fun e w' => e = .returned (.bool x) ∧ w = w' := by
 by_cases h1 : lo ≤ n
 ·by_cases h2 : n ≤ hi
  ·obtain rfl : x = true := hx.2 ⟨h1, h2⟩
   clear hx
   go_enter Tryz.func60, Tryz.ntmps60
   go_wp2
   go_ret
   exact ⟨rfl, rfl⟩
  ·obtain rfl : x = false := by
    cases x with
    | false => rfl
    | true => exact absurd (hx.1 rfl).2 h2
   clear hx
   go_enter Tryz.func60, Tryz.ntmps60
   go_wp2
   go_ret
   exact ⟨rfl, rfl⟩
 ·obtain rfl : x = false := by
   cases x with
   | false => rfl
   | true => exact absurd (hx.1 rfl).1 h1
  clear hx
  go_enter Tryz.func60, Tryz.ntmps60
  go_wp2
  go_ret
  exact ⟨rfl, rfl⟩
theorem isIndex_at (x : Bool) (i n : Int) (w : World) (hx : x = true ↔ 0 ≤ i ∧ i < n) :
  Calls Tryz.prog 78 #[.int .i64 i, .int .i64 n] w fun e w' => e = .returned (.bool x) ∧ w = w' := by
 by_cases h1 : 0 ≤ i
 ·by_cases h2 : i < n
  ·obtain rfl : x = true := hx.2 ⟨h1, h2⟩
   clear hx
   go_enter Tryz.func78, Tryz.ntmps78
   go_wp2
   go_ret
   exact ⟨rfl, rfl⟩
  ·obtain rfl : x = false := by
    cases x with
    | false => rfl
    | true => exact absurd (hx.1 rfl).2 h2
   clear hx
   go_enter Tryz.func78, Tryz.ntmps78
   go_wp2
   go_ret
   exact ⟨rfl, rfl⟩
 ·obtain rfl : x = false := by
   cases x with
   | false => rfl
   | true => exact absurd (hx.1 rfl).1 h1
  clear hx
  go_enter Tryz.func78, Tryz.ntmps78
  go_wp2
  go_ret
  exact ⟨rfl, rfl⟩
theorem check_ok (z d s l a : Int) (w : World) (ho : Ok z d s l a) :
  Calls Tryz.prog 46 #[.agg #[.int .i64 z, .int .i64 d, .int .i64 s, .int .i64 l, .int .i64 a]] w fun e w' => e = .returned (.int .i64 0) ∧ Below w.heap.size w w' := by
 obtain ⟨h1, h2, h3, h4, h5⟩ := ho
 have c1 := fun W => isFrom_at true z 1 4 W (iff_of_true rfl h1)
 have c2 := fun W => isFrom_at true d 1 4 W (iff_of_true rfl h2)
 have c3 := fun W => isFrom_at true s 0 2 W (iff_of_true rfl h3)
 have c4 := fun W => isFrom_at true l 14 30 W (iff_of_true rfl h4)
 have c5 := fun W => isFrom_at true a 1 3 W (iff_of_true rfl h5)
 clear h1 h2 h3 h4 h5
 go_enter Tryz.func46, Tryz.ntmps46
 go_wp2_with (first
  | (go_at_call 60; (with_reducible refine (c1 _).mono ?_); rintro e w1 ⟨rfl, rfl⟩)
  | (go_at_call 60; (with_reducible refine (c2 _).mono ?_); rintro e w1 ⟨rfl, rfl⟩)
  | (go_at_call 60; (with_reducible refine (c3 _).mono ?_); rintro e w1 ⟨rfl, rfl⟩)
  | (go_at_call 60; (with_reducible refine (c4 _).mono ?_); rintro e w1 ⟨rfl, rfl⟩)
  | (go_at_call 60; (with_reducible refine (c5 _).mono ?_); rintro e w1 ⟨rfl, rfl⟩))
 go_ret
 exact ⟨rfl, bl w _⟩
theorem logStart_at (z d s l a : Int) (w : World) :
  Calls Tryz.prog 79 #[.agg #[.int .i64 z, .int .i64 d, .int .i64 s, .int .i64 l, .int .i64 a]] w fun e w' => e = .returned (.int .i64 a) ∧ Below w.heap.size w w' := by
 go_enter Tryz.func79, Tryz.ntmps79
 go_wp2
 go_ret
 exact ⟨rfl, bl w _⟩
theorem five_new (w : World) (z d s l a : Int) :
  (w.alloc (.cells #[.int .i64 z, .int .i64 d, .int .i64 s, .int .i64 l, .int .i64 a] 23)).cell? ⟨w.heap.size, 0, none⟩ = some (.int .i64 z) ∧
  (w.alloc (.cells #[.int .i64 z, .int .i64 d, .int .i64 s, .int .i64 l, .int .i64 a] 23)).cell? ⟨w.heap.size, 1, none⟩ = some (.int .i64 d) ∧
  (w.alloc (.cells #[.int .i64 z, .int .i64 d, .int .i64 s, .int .i64 l, .int .i64 a] 23)).cell? ⟨w.heap.size, 2, none⟩ = some (.int .i64 s) ∧
  (w.alloc (.cells #[.int .i64 z, .int .i64 d, .int .i64 s, .int .i64 l, .int .i64 a] 23)).cell? ⟨w.heap.size, 3, none⟩ = some (.int .i64 l) ∧
  (w.alloc (.cells #[.int .i64 z, .int .i64 d, .int .i64 s, .int .i64 l, .int .i64 a] 23)).cell? ⟨w.heap.size, 4, none⟩ = some (.int .i64 a) := by
 refine ⟨?_, ?_, ?_, ?_, ?_⟩ <;> (rw [cell_of_row _ _ _ _ _ _ (heap_alloc_new w _)]; rfl)
theorem w6 (x : Int) (h1 : -1099511627776 ≤ x) (h2 : x ≤ 1099511627776) : IntKind.i64.wrap x = x := by
 simp only [IntKind.wrap, IntKind.bits, IntKind.signed]; simp; omega
end Go.Proofs.YtbfdpibjicjagaaGreatDoor.gmt
namespace Go.Proofs.YtbfdpibjicjagaaGreatDoor.gmt
open Go.RowKit Go.Lib
theorem check_no (z d s l a : Int) (w : World) (ho : ¬ Ok z d s l a) :
  Calls Tryz.prog 46 #[.agg #[.int .i64 z, .int .i64 d, .int .i64 s, .int .i64 l, .int .i64 a]] w fun e w' => e = .returned (.int .i64 1) ∧ Below w.heap.size w w' := by
 by_cases h1 : 1 ≤ z ∧ z ≤ 4
 ·skip
  by_cases h2 : 1 ≤ d ∧ d ≤ 4
  ·skip
   by_cases h3 : 0 ≤ s ∧ s ≤ 2
   ·skip
    by_cases h4 : 14 ≤ l ∧ l ≤ 30
    ·skip
     by_cases h5 : 1 ≤ a ∧ a ≤ 3
     ·skip
      exact absurd ⟨h1, h2, h3, h4, h5⟩ ho
     ·clear ho
      have c1 := fun W => isFrom_at true z 1 4 W (iff_of_true rfl h1)
      have c2 := fun W => isFrom_at true d 1 4 W (iff_of_true rfl h2)
      have c3 := fun W => isFrom_at true s 0 2 W (iff_of_true rfl h3)
      have c4 := fun W => isFrom_at true l 14 30 W (iff_of_true rfl h4)
      have c5 := fun W => isFrom_at false a 1 3 W (iff_of_false Bool.false_ne_true h5)
      clear h1 h2 h3 h4 h5
      go_enter Tryz.func46, Tryz.ntmps46
      go_wp2_with (first
       | (go_at_call 60; (with_reducible refine (c1 _).mono ?_); rintro e w1 ⟨rfl, rfl⟩)
       | (go_at_call 60; (with_reducible refine (c2 _).mono ?_); rintro e w2 ⟨rfl, rfl⟩)
       | (go_at_call 60; (with_reducible refine (c3 _).mono ?_); rintro e w3 ⟨rfl, rfl⟩)
       | (go_at_call 60; (with_reducible refine (c4 _).mono ?_); rintro e w4 ⟨rfl, rfl⟩)
       | (go_at_call 60; (with_reducible refine (c5 _).mono ?_); rintro e w5 ⟨rfl, rfl⟩))
      go_ret
      exact ⟨rfl, bl w _⟩
    ·clear ho
     have c1 := fun W => isFrom_at true z 1 4 W (iff_of_true rfl h1)
     have c2 := fun W => isFrom_at true d 1 4 W (iff_of_true rfl h2)
     have c3 := fun W => isFrom_at true s 0 2 W (iff_of_true rfl h3)
     have c4 := fun W => isFrom_at false l 14 30 W (iff_of_false Bool.false_ne_true h4)
     clear h1 h2 h3 h4
     go_enter Tryz.func46, Tryz.ntmps46
     go_wp2_with (first
      | (go_at_call 60; (with_reducible refine (c1 _).mono ?_); rintro e w1 ⟨rfl, rfl⟩)
      | (go_at_call 60; (with_reducible refine (c2 _).mono ?_); rintro e w2 ⟨rfl, rfl⟩)
      | (go_at_call 60; (with_reducible refine (c3 _).mono ?_); rintro e w3 ⟨rfl, rfl⟩)
      | (go_at_call 60; (with_reducible refine (c4 _).mono ?_); rintro e w4 ⟨rfl, rfl⟩))
     go_ret
     exact ⟨rfl, bl w _⟩
   ·clear ho
    have c1 := fun W => isFrom_at true z 1 4 W (iff_of_true rfl h1)
    have c2 := fun W => isFrom_at true d 1 4 W (iff_of_true rfl h2)
    have c3 := fun W => isFrom_at false s 0 2 W (iff_of_false Bool.false_ne_true h3)
    clear h1 h2 h3
    go_enter Tryz.func46, Tryz.ntmps46
    go_wp2_with (first
     | (go_at_call 60; (with_reducible refine (c1 _).mono ?_); rintro e w1 ⟨rfl, rfl⟩)
     | (go_at_call 60; (with_reducible refine (c2 _).mono ?_); rintro e w2 ⟨rfl, rfl⟩)
     | (go_at_call 60; (with_reducible refine (c3 _).mono ?_); rintro e w3 ⟨rfl, rfl⟩))
    go_ret
    exact ⟨rfl, bl w _⟩
  ·clear ho
   have c1 := fun W => isFrom_at true z 1 4 W (iff_of_true rfl h1)
   have c2 := fun W => isFrom_at false d 1 4 W (iff_of_false Bool.false_ne_true h2)
   clear h1 h2
   go_enter Tryz.func46, Tryz.ntmps46
   go_wp2_with (first
    | (go_at_call 60; (with_reducible refine (c1 _).mono ?_); rintro e w1 ⟨rfl, rfl⟩)
    | (go_at_call 60; (with_reducible refine (c2 _).mono ?_); rintro e w2 ⟨rfl, rfl⟩))
   go_ret
   exact ⟨rfl, bl w _⟩
 ·clear ho
  have c1 := fun W => isFrom_at false z 1 4 W (iff_of_false Bool.false_ne_true h1)
  clear h1
  go_enter Tryz.func46, Tryz.ntmps46
  go_wp2_with (first
   | (go_at_call 60; (with_reducible refine (c1 _).mono ?_); rintro e w1 ⟨rfl, rfl⟩))
  go_ret
  exact ⟨rfl, bl w _⟩
end Go.Proofs.YtbfdpibjicjagaaGreatDoor.gmt
namespace Go.Proofs.YtbfdpibjicjagaaGreatDoor.gmt
open Go.RowKit Go.Lib
theorem mul_le {i n p P : Int} (hi : 0 ≤ i) (hn : i ≤ n) (hp : 0 ≤ p) (hP : p ≤ P) : 0 ≤ i * p ∧ i * p ≤ n * P :=
 ⟨Int.mul_nonneg hi hp, Int.mul_le_mul hn hP hp (by omega)⟩
def Told (R : Prop) (v why n e : Int) : Prop := (R → n = v ∧ e = 0) ∧ (¬ R → n = 0 ∧ e = why)
theorem log_at (z d s l a i j n e : Int) (w : World) (ho : Ok z d s l a) (ht : Told ((0 ≤ i ∧ i < 2) ∧ 0 ≤ j ∧ j < l) (a + i * l + j) 1 n e) :
  Calls Tryz.prog 66 #[.agg #[.int .i64 z, .int .i64 d, .int .i64 s, .int .i64 l, .int .i64 a], .int .i64 i, .int .i64 j] w fun r w' => r = .returned (.tuple #[.int .i64 n, .int .i64 e]) ∧ Below w.heap.size w w' := by
 have hb0 := bl w (.cells #[.int .i64 z, .int .i64 d, .int .i64 s, .int .i64 l, .int .i64 a] 23)
 have hl : w.heap.size < (w.alloc (.cells #[.int .i64 z, .int .i64 d, .int .i64 s, .int .i64 l, .int .i64 a] 23)).heap.size := by simp
 obtain ⟨g0, g1, g2, g3, g4⟩ := five_new w z d s l a
 obtain ⟨h1, h2, h3, h4, h5⟩ := id ho
 by_cases hi : 0 ≤ i ∧ i < 2
 ·by_cases hj : 0 ≤ j ∧ j < l
  ·obtain ⟨rfl, rfl⟩ := ht.1 ⟨hi, hj⟩
   have ci := fun W => isIndex_at true i (2) W (iff_of_true rfl hi)
   have cj := fun W => isIndex_at true j (l) W (iff_of_true rfl hj)
   have hq := mul_le (i := i) (n := 1) (p := l) (P := 30) (by omega) (by omega) (by omega) (by omega)
   clear ht
   go_enter Tryz.func66, Tryz.ntmps66
   go_wp2_with fail
   generalize w.alloc (.cells #[.int .i64 z, .int .i64 d, .int .i64 s, .int .i64 l, .int .i64 a] 23) = w0 at *
   go_wp2_with (first
    | (go_at_call 46; (with_reducible refine (check_ok z d s l a _ ho).mono ?_); rintro e w8 ⟨rfl, hb8⟩; have g0 := kst hb8 hl g0; have g1 := kst hb8 hl g1; have g2 := kst hb8 hl g2; have g3 := kst hb8 hl g3; have g4 := kst hb8 hl g4; have hl := Nat.lt_of_lt_of_le hl hb8.size)
    | (go_at_call 78; (with_reducible refine (ci _).mono ?_); rintro e w9 ⟨rfl, rfl⟩)
    | (go_at_call 78; (with_reducible refine (cj _).mono ?_); rintro e w10 ⟨rfl, rfl⟩))
   go_region_held3 (fun W => W.cell? ⟨w.heap.size, 0, none⟩ = some (.int .i64 z) ∧ W.cell? ⟨w.heap.size, 1, none⟩ = some (.int .i64 d) ∧ W.cell? ⟨w.heap.size, 2, none⟩ = some (.int .i64 s) ∧ W.cell? ⟨w.heap.size, 3, none⟩ = some (.int .i64 l) ∧ W.cell? ⟨w.heap.size, 4, none⟩ = some (.int .i64 a) ∧ Below w8.heap.size w8 W)
    ((go_split_ands; refine ⟨?_, ?_, ?_, ?_, ?_, ?_⟩ <;> (first
     | assumption | exact below_dr (Below.refl _ _) | exact bt (by assumption) (by assumption)
     | exact kst (below_dr (Below.refl _ _)) hl (by assumption) | exact kst (by assumption) hl (by assumption) | exact kst (bt (by assumption) (by assumption)) hl (by assumption) | fail)))
    (first
     | (go_at_call 79; (with_reducible refine (logStart_at z d s l a _).mono ?_); rintro e w1 ⟨rfl, hb1⟩)
     | fail)
   go_split_ands
   rw [w6 (i * l) (by omega) (by omega), w6 (a + i * l) (by omega) (by omega), w6 (a + i * l + j) (by omega) (by omega)]
   go_wp2
   go_ret2
   exact ⟨rfl, bt (bt hb0 hb8) (by assumption)⟩
  ·obtain ⟨rfl, rfl⟩ := ht.2 fun h => hj h.2
   have ci := fun W => isIndex_at true i (2) W (iff_of_true rfl hi)
   have cj := fun W => isIndex_at false j (l) W (iff_of_false Bool.false_ne_true hj)
   clear hi hj
   clear ht
   go_enter Tryz.func66, Tryz.ntmps66
   go_wp2_with fail
   generalize w.alloc (.cells #[.int .i64 z, .int .i64 d, .int .i64 s, .int .i64 l, .int .i64 a] 23) = w0 at *
   go_wp2_with (first
    | (go_at_call 46; (with_reducible refine (check_ok z d s l a _ ho).mono ?_); rintro e w8 ⟨rfl, hb8⟩; have g0 := kst hb8 hl g0; have g1 := kst hb8 hl g1; have g2 := kst hb8 hl g2; have g3 := kst hb8 hl g3; have g4 := kst hb8 hl g4; have hl := Nat.lt_of_lt_of_le hl hb8.size)
    | (go_at_call 78; (with_reducible refine (ci _).mono ?_); rintro e w9 ⟨rfl, rfl⟩)
    | (go_at_call 78; (with_reducible refine (cj _).mono ?_); rintro e w10 ⟨rfl, rfl⟩))
   go_ret2
   exact ⟨rfl, bt hb0 hb8⟩
 ·obtain ⟨rfl, rfl⟩ := ht.2 fun h => hi h.1
  have ci := fun W => isIndex_at false i (2) W (iff_of_false Bool.false_ne_true hi)
  clear hi
  clear ht
  go_enter Tryz.func66, Tryz.ntmps66
  go_wp2_with fail
  generalize w.alloc (.cells #[.int .i64 z, .int .i64 d, .int .i64 s, .int .i64 l, .int .i64 a] 23) = w0 at *
  go_wp2_with (first
   | (go_at_call 46; (with_reducible refine (check_ok z d s l a _ ho).mono ?_); rintro e w8 ⟨rfl, hb8⟩; have g0 := kst hb8 hl g0; have g1 := kst hb8 hl g1; have g2 := kst hb8 hl g2; have g3 := kst hb8 hl g3; have g4 := kst hb8 hl g4; have hl := Nat.lt_of_lt_of_le hl hb8.size)
   | (go_at_call 78; (with_reducible refine (ci _).mono ?_); rintro e w9 ⟨rfl, rfl⟩))
  go_ret2
  exact ⟨rfl, bt hb0 hb8⟩
end Go.Proofs.YtbfdpibjicjagaaGreatDoor.gmt
namespace Go.Proofs.YtbfdpibjicjagaaGreatDoor.gmt
open Go.RowKit Go.Lib
end Go.Proofs.YtbfdpibjicjagaaGreatDoor.gmt
namespace Go.Proofs.YtbfdpibjicjagaaGreatDoor.gmt
open Go.RowKit Go.Lib
theorem rin_at (x : Bool) (n lo hi : Int) (w : World) (hx : x = true ↔ lo ≤ n ∧ n ≤ hi) :
  Calls Tryz.prog 32 #[.int .i64 n, .int .i64 lo, .int .i64 hi] w fun e w' => e = .returned (.bool x) ∧ w = w' := by
 by_cases h1 : lo ≤ n
 ·by_cases h2 : n ≤ hi
  ·obtain rfl : x = true := hx.2 ⟨h1, h2⟩
   clear hx
   go_enter Tryz.func32, Tryz.ntmps32
   go_wp2
   go_ret
   exact ⟨rfl, rfl⟩
  ·obtain rfl : x = false := by
    cases x with
    | false => rfl
    | true => exact absurd (hx.1 rfl).2 h2
   clear hx
   go_enter Tryz.func32, Tryz.ntmps32
   go_wp2
   go_ret
   exact ⟨rfl, rfl⟩
 ·obtain rfl : x = false := by
   cases x with
   | false => rfl
   | true => exact absurd (hx.1 rfl).1 h1
  clear hx
  go_enter Tryz.func32, Tryz.ntmps32
  go_wp2
  go_ret
  exact ⟨rfl, rfl⟩
theorem rgeo_no (z d s l a : Int) (w : World) (ho : ¬ Ok z d s l a) :
  Calls Tryz.prog 15 #[.agg #[.int .i64 z, .int .i64 d, .int .i64 s, .int .i64 l, .int .i64 a]] w fun e w' => e = .returned (.bool false) ∧ Below w.heap.size w w' := by
 by_cases h1 : 1 ≤ z ∧ z ≤ 4
 ·skip
  by_cases h2 : 1 ≤ d ∧ d ≤ 4
  ·skip
   by_cases h3 : 0 ≤ s ∧ s ≤ 2
   ·skip
    by_cases h4 : 14 ≤ l ∧ l ≤ 30
    ·skip
     by_cases h5 : 1 ≤ a ∧ a ≤ 3
     ·skip
      exact absurd ⟨h1, h2, h3, h4, h5⟩ ho
     ·clear ho
      have c1 := fun W => rin_at true z 1 4 W (iff_of_true rfl h1)
      have c2 := fun W => rin_at true d 1 4 W (iff_of_true rfl h2)
      have c3 := fun W => rin_at true s 0 2 W (iff_of_true rfl h3)
      have c4 := fun W => rin_at true l 14 30 W (iff_of_true rfl h4)
      have c5 := fun W => rin_at false a 1 3 W (iff_of_false Bool.false_ne_true h5)
      clear h1 h2 h3 h4 h5
      go_enter Tryz.func15, Tryz.ntmps15
      go_wp2_with (first
       | (go_at_call 32; (with_reducible refine (c1 _).mono ?_); rintro e w1 ⟨rfl, rfl⟩)
       | (go_at_call 32; (with_reducible refine (c2 _).mono ?_); rintro e w2 ⟨rfl, rfl⟩)
       | (go_at_call 32; (with_reducible refine (c3 _).mono ?_); rintro e w3 ⟨rfl, rfl⟩)
       | (go_at_call 32; (with_reducible refine (c4 _).mono ?_); rintro e w4 ⟨rfl, rfl⟩)
       | (go_at_call 32; (with_reducible refine (c5 _).mono ?_); rintro e w5 ⟨rfl, rfl⟩))
      go_ret
      exact ⟨rfl, bl w _⟩
    ·clear ho
     have c1 := fun W => rin_at true z 1 4 W (iff_of_true rfl h1)
     have c2 := fun W => rin_at true d 1 4 W (iff_of_true rfl h2)
     have c3 := fun W => rin_at true s 0 2 W (iff_of_true rfl h3)
     have c4 := fun W => rin_at false l 14 30 W (iff_of_false Bool.false_ne_true h4)
     clear h1 h2 h3 h4
     go_enter Tryz.func15, Tryz.ntmps15
     go_wp2_with (first
      | (go_at_call 32; (with_reducible refine (c1 _).mono ?_); rintro e w1 ⟨rfl, rfl⟩)
      | (go_at_call 32; (with_reducible refine (c2 _).mono ?_); rintro e w2 ⟨rfl, rfl⟩)
      | (go_at_call 32; (with_reducible refine (c3 _).mono ?_); rintro e w3 ⟨rfl, rfl⟩)
      | (go_at_call 32; (with_reducible refine (c4 _).mono ?_); rintro e w4 ⟨rfl, rfl⟩))
     go_ret
     exact ⟨rfl, bl w _⟩
   ·clear ho
    have c1 := fun W => rin_at true z 1 4 W (iff_of_true rfl h1)
    have c2 := fun W => rin_at true d 1 4 W (iff_of_true rfl h2)
    have c3 := fun W => rin_at false s 0 2 W (iff_of_false Bool.false_ne_true h3)
    clear h1 h2 h3
    go_enter Tryz.func15, Tryz.ntmps15
    go_wp2_with (first
     | (go_at_call 32; (with_reducible refine (c1 _).mono ?_); rintro e w1 ⟨rfl, rfl⟩)
     | (go_at_call 32; (with_reducible refine (c2 _).mono ?_); rintro e w2 ⟨rfl, rfl⟩)
     | (go_at_call 32; (with_reducible refine (c3 _).mono ?_); rintro e w3 ⟨rfl, rfl⟩))
    go_ret
    exact ⟨rfl, bl w _⟩
  ·clear ho
   have c1 := fun W => rin_at true z 1 4 W (iff_of_true rfl h1)
   have c2 := fun W => rin_at false d 1 4 W (iff_of_false Bool.false_ne_true h2)
   clear h1 h2
   go_enter Tryz.func15, Tryz.ntmps15
   go_wp2_with (first
    | (go_at_call 32; (with_reducible refine (c1 _).mono ?_); rintro e w1 ⟨rfl, rfl⟩)
    | (go_at_call 32; (with_reducible refine (c2 _).mono ?_); rintro e w2 ⟨rfl, rfl⟩))
   go_ret
   exact ⟨rfl, bl w _⟩
 ·clear ho
  have c1 := fun W => rin_at false z 1 4 W (iff_of_false Bool.false_ne_true h1)
  clear h1
  go_enter Tryz.func15, Tryz.ntmps15
  go_wp2_with (first
   | (go_at_call 32; (with_reducible refine (c1 _).mono ?_); rintro e w1 ⟨rfl, rfl⟩))
  go_ret
  exact ⟨rfl, bl w _⟩
theorem rgeo_ok (z d s l a : Int) (w : World) (ho : Ok z d s l a) :
  Calls Tryz.prog 15 #[.agg #[.int .i64 z, .int .i64 d, .int .i64 s, .int .i64 l, .int .i64 a]] w fun e w' => e = .returned (.bool true) ∧ Below w.heap.size w w' := by
 obtain ⟨h1, h2, h3, h4, h5⟩ := ho
 have c1 := fun W => rin_at true z 1 4 W (iff_of_true rfl h1)
 have c2 := fun W => rin_at true d 1 4 W (iff_of_true rfl h2)
 have c3 := fun W => rin_at true s 0 2 W (iff_of_true rfl h3)
 have c4 := fun W => rin_at true l 14 30 W (iff_of_true rfl h4)
 have c5 := fun W => rin_at true a 1 3 W (iff_of_true rfl h5)
 clear h1 h2 h3 h4 h5
 go_enter Tryz.func15, Tryz.ntmps15
 go_wp2_with (first
  | (go_at_call 32; (with_reducible refine (c1 _).mono ?_); rintro e w1 ⟨rfl, rfl⟩)
  | (go_at_call 32; (with_reducible refine (c2 _).mono ?_); rintro e w2 ⟨rfl, rfl⟩)
  | (go_at_call 32; (with_reducible refine (c3 _).mono ?_); rintro e w3 ⟨rfl, rfl⟩)
  | (go_at_call 32; (with_reducible refine (c4 _).mono ?_); rintro e w4 ⟨rfl, rfl⟩)
  | (go_at_call 32; (with_reducible refine (c5 _).mono ?_); rintro e w5 ⟨rfl, rfl⟩))
 go_ret
 exact ⟨rfl, bl w _⟩
theorem rgeo_at (x : Bool) (z d s l a : Int) (w : World) (hx : x = true ↔ Ok z d s l a) :
  Calls Tryz.prog 15 #[.agg #[.int .i64 z, .int .i64 d, .int .i64 s, .int .i64 l, .int .i64 a]] w fun e w' => e = .returned (.bool x) ∧ Below w.heap.size w w' := by
 by_cases ho : Ok z d s l a
 ·obtain rfl : x = true := hx.2 ho
  exact rgeo_ok z d s l a w ho
 ·obtain rfl : x = false := by
   cases x with
   | false => rfl
   | true => exact absurd (hx.1 rfl) ho
  exact rgeo_no z d s l a w ho
theorem rlog_at (z d s l a i j : Int) (w : World) (ho : Ok z d s l a) (hi : 0 ≤ i ∧ i < 2) (hj : 0 ≤ j ∧ j < l) :
  Calls Tryz.prog 25 #[.agg #[.int .i64 z, .int .i64 d, .int .i64 s, .int .i64 l, .int .i64 a], .int .i64 i, .int .i64 j] w fun r w' => r = .returned (.int .i64 (a + i * l + j)) ∧ Below w.heap.size w w' := by
 have hb0 := bl w (.cells #[.int .i64 z, .int .i64 d, .int .i64 s, .int .i64 l, .int .i64 a] 23)
 have hl : w.heap.size < (w.alloc (.cells #[.int .i64 z, .int .i64 d, .int .i64 s, .int .i64 l, .int .i64 a] 23)).heap.size := by simp
 obtain ⟨g0, g1, g2, g3, g4⟩ := five_new w z d s l a
 obtain ⟨h1, h2, h3, h4, h5⟩ := id ho
 have hq := mul_le (i := i) (n := 1) (p := l) (P := 30) (by omega) (by omega) (by omega) (by omega)
 go_enter Tryz.func25, Tryz.ntmps25
 go_wp2
 go_ret
 exact ⟨rfl, hb0⟩
end Go.Proofs.YtbfdpibjicjagaaGreatDoor.gmt
namespace Go.Proofs.YtbfdpibjicjagaaGreatDoor.gmt
open Go.RowKit Go.Lib
theorem wrap_mod (i m : Int) (hm : 0 < m) : 0 ≤ (IntKind.u64.wrap i).tmod m ∧ (IntKind.u64.wrap i).tmod m < m := by
 rw [Int.tmod_eq_emod_of_nonneg (wrap_nonneg i)]
 exact ⟨Int.emod_nonneg _ (by omega), Int.emod_lt_of_pos _ hm⟩
end Go.Proofs.YtbfdpibjicjagaaGreatDoor.gmt
