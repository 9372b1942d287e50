/-
  GeomBent walked: a right geometry is none with a number beyond its bounds. Conditions: none.
-/
import Derived.Test.YtjadbekefonhlaaGmF
namespace Go.Proofs.Ytjadbekefonhlaa.gmt
open Go.RowKit Go.Lib

theorem two_boxes {w W : World} {z d s l a p q r m n : Int} (h : Below ((w.alloc (.cells #[.int .i64 z, .int .i64 d, .int .i64 s, .int .i64 l, .int .i64 a] 23)).alloc (.cells #[.int .i64 p, .int .i64 q, .int .i64 r, .int .i64 m, .int .i64 n] 23)).heap.size ((w.alloc (.cells #[.int .i64 z, .int .i64 d, .int .i64 s, .int .i64 l, .int .i64 a] 23)).alloc (.cells #[.int .i64 p, .int .i64 q, .int .i64 r, .int .i64 m, .int .i64 n] 23)) W) :
    (W.cell? ⟨w.heap.size, 0, none⟩ = some (.int .i64 z) ∧ W.cell? ⟨w.heap.size, 1, none⟩ = some (.int .i64 d) ∧ W.cell? ⟨w.heap.size, 2, none⟩ = some (.int .i64 s) ∧ W.cell? ⟨w.heap.size, 3, none⟩ = some (.int .i64 l) ∧ W.cell? ⟨w.heap.size, 4, none⟩ = some (.int .i64 a) ∧ W.cell? ⟨w.heap.size + 1, 0, none⟩ = some (.int .i64 p) ∧ W.cell? ⟨w.heap.size + 1, 1, none⟩ = some (.int .i64 q) ∧ W.cell? ⟨w.heap.size + 1, 2, none⟩ = some (.int .i64 r) ∧ W.cell? ⟨w.heap.size + 1, 3, none⟩ = some (.int .i64 m) ∧ W.cell? ⟨w.heap.size + 1, 4, none⟩ = some (.int .i64 n)) ∧ Below w.heap.size w W ∧ w.heap.size + 1 < W.heap.size := by
  obtain ⟨g0, g1, g2, g3, g4⟩ := five_new w z d s l a
  obtain ⟨k0, k1, k2, k3, k4⟩ := five_new (w.alloc (.cells #[.int .i64 z, .int .i64 d, .int .i64 s, .int .i64 l, .int .i64 a] 23)) p q r m n
  have e : (w.alloc (.cells #[.int .i64 z, .int .i64 d, .int .i64 s, .int .i64 l, .int .i64 a] 23)).heap.size = w.heap.size + 1 := by simp
  have hx := kal (bl w (.cells #[.int .i64 z, .int .i64 d, .int .i64 s, .int .i64 l, .int .i64 a] 23)) (.cells #[.int .i64 p, .int .i64 q, .int .i64 r, .int .i64 m, .int .i64 n] 23)
  have hy := bl (w.alloc (.cells #[.int .i64 z, .int .i64 d, .int .i64 s, .int .i64 l, .int .i64 a] 23)) (.cells #[.int .i64 p, .int .i64 q, .int .i64 r, .int .i64 m, .int .i64 n] 23)
  have hs : w.heap.size + 1 < ((w.alloc (.cells #[.int .i64 z, .int .i64 d, .int .i64 s, .int .i64 l, .int .i64 a] 23)).alloc (.cells #[.int .i64 p, .int .i64 q, .int .i64 r, .int .i64 m, .int .i64 n] 23)).heap.size := by simp
  rw [e] at k0 k1 k2 k3 k4
  have hs' := h.size
  refine ⟨⟨?_, ?_, ?_, ?_, ?_, ?_, ?_, ?_, ?_, ?_⟩, bt hx h, by omega⟩
  · exact kst (bt hy h) (by omega) g0
  · exact kst (bt hy h) (by omega) g1
  · exact kst (bt hy h) (by omega) g2
  · exact kst (bt hy h) (by omega) g3
  · exact kst (bt hy h) (by omega) g4
  · exact kst h hs k0
  · exact kst h hs k1
  · exact kst h hs k2
  · exact kst h hs k3
  · exact kst h hs k4

set_option maxRecDepth 100000 in
set_option maxHeartbeats 1000000 in
theorem geombent_law (z' d' s' l' a' how : Int) (w : World) :
    Calls Try.prog 7 #[.int .i64 z', .int .i64 d', .int .i64 s', .int .i64 l', .int .i64 a', .int .i64 how] w fun e w' => e = .returned (.bool true) ∧ Below w.heap.size w w' := by
  have hm := wrap_mod how 10 (by omega)
  obtain hk | hk | hk | hk | hk | hk | hk | hk | hk | hk : (IntKind.u64.wrap how).tmod 10 = 0 ∨ (IntKind.u64.wrap how).tmod 10 = 1 ∨ (IntKind.u64.wrap how).tmod 10 = 2 ∨ (IntKind.u64.wrap how).tmod 10 = 3 ∨ (IntKind.u64.wrap how).tmod 10 = 4 ∨ (IntKind.u64.wrap how).tmod 10 = 5 ∨ (IntKind.u64.wrap how).tmod 10 = 6 ∨ (IntKind.u64.wrap how).tmod 10 = 7 ∨ (IntKind.u64.wrap how).tmod 10 = 8 ∨ (IntKind.u64.wrap how).tmod 10 = 9 := by omega
  · clear hm
    go_enter Try.func7, Try.ntmps7
    go_wp2_with (first
      | (go_at_call 28; (with_reducible refine (some_any _ _ _ _ _ _).mono ?_); rintro e w1 ⟨⟨z, d, s, l, a, ho, rfl⟩, hb1⟩; obtain ⟨h1, h2, h3, h4, h5⟩ := id ho)
      | (go_at_call 11; (with_reducible refine (cells_no _ _ _ _ _ _ (by unfold Ok; omega)).mono ?_); rintro e w2 ⟨rfl, hb2⟩; obtain ⟨⟨g0, g1, g2, g3, g4, k0, k1, k2, k3, k4⟩, hb2', hl⟩ := two_boxes hb2; clear hb2)
      | (go_at_call 10; (with_reducible refine (check_ok z d s l a _ ho).mono ?_); rintro e w3 ⟨rfl, hb3⟩; replace k0 := kst hb3 hl k0; replace k1 := kst hb3 hl k1; replace k2 := kst hb3 hl k2; replace k3 := kst hb3 hl k3; replace k4 := kst hb3 hl k4)
      | (go_at_call 10; (with_reducible refine (check_no _ _ _ _ _ _ (by unfold Ok; omega)).mono ?_); rintro e w4 ⟨rfl, hb4⟩)
      | (go_at_call 20; (with_reducible refine (wakes_any _).mono ?_); rintro e w5 ⟨rfl, hb5⟩))
    go_ret
    exact ⟨rfl, bt (bt (bt (bt hb1 hb2') hb3) hb4) hb5⟩
  · clear hm
    go_enter Try.func7, Try.ntmps7
    go_wp2_with (first
      | (go_at_call 28; (with_reducible refine (some_any _ _ _ _ _ _).mono ?_); rintro e w1 ⟨⟨z, d, s, l, a, ho, rfl⟩, hb1⟩; obtain ⟨h1, h2, h3, h4, h5⟩ := id ho)
      | (go_at_call 11; (with_reducible refine (cells_no _ _ _ _ _ _ (by unfold Ok; omega)).mono ?_); rintro e w2 ⟨rfl, hb2⟩; obtain ⟨⟨g0, g1, g2, g3, g4, k0, k1, k2, k3, k4⟩, hb2', hl⟩ := two_boxes hb2; clear hb2)
      | (go_at_call 10; (with_reducible refine (check_ok z d s l a _ ho).mono ?_); rintro e w3 ⟨rfl, hb3⟩; replace k0 := kst hb3 hl k0; replace k1 := kst hb3 hl k1; replace k2 := kst hb3 hl k2; replace k3 := kst hb3 hl k3; replace k4 := kst hb3 hl k4)
      | (go_at_call 10; (with_reducible refine (check_no _ _ _ _ _ _ (by unfold Ok; omega)).mono ?_); rintro e w4 ⟨rfl, hb4⟩)
      | (go_at_call 20; (with_reducible refine (wakes_any _).mono ?_); rintro e w5 ⟨rfl, hb5⟩))
    go_ret
    exact ⟨rfl, bt (bt (bt (bt hb1 hb2') hb3) hb4) hb5⟩
  · clear hm
    go_enter Try.func7, Try.ntmps7
    go_wp2_with (first
      | (go_at_call 28; (with_reducible refine (some_any _ _ _ _ _ _).mono ?_); rintro e w1 ⟨⟨z, d, s, l, a, ho, rfl⟩, hb1⟩; obtain ⟨h1, h2, h3, h4, h5⟩ := id ho)
      | (go_at_call 11; (with_reducible refine (cells_no _ _ _ _ _ _ (by unfold Ok; omega)).mono ?_); rintro e w2 ⟨rfl, hb2⟩; obtain ⟨⟨g0, g1, g2, g3, g4, k0, k1, k2, k3, k4⟩, hb2', hl⟩ := two_boxes hb2; clear hb2)
      | (go_at_call 10; (with_reducible refine (check_ok z d s l a _ ho).mono ?_); rintro e w3 ⟨rfl, hb3⟩; replace k0 := kst hb3 hl k0; replace k1 := kst hb3 hl k1; replace k2 := kst hb3 hl k2; replace k3 := kst hb3 hl k3; replace k4 := kst hb3 hl k4)
      | (go_at_call 10; (with_reducible refine (check_no _ _ _ _ _ _ (by unfold Ok; omega)).mono ?_); rintro e w4 ⟨rfl, hb4⟩)
      | (go_at_call 20; (with_reducible refine (wakes_any _).mono ?_); rintro e w5 ⟨rfl, hb5⟩))
    go_ret
    exact ⟨rfl, bt (bt (bt (bt hb1 hb2') hb3) hb4) hb5⟩
  · clear hm
    go_enter Try.func7, Try.ntmps7
    go_wp2_with (first
      | (go_at_call 28; (with_reducible refine (some_any _ _ _ _ _ _).mono ?_); rintro e w1 ⟨⟨z, d, s, l, a, ho, rfl⟩, hb1⟩; obtain ⟨h1, h2, h3, h4, h5⟩ := id ho)
      | (go_at_call 11; (with_reducible refine (cells_no _ _ _ _ _ _ (by unfold Ok; omega)).mono ?_); rintro e w2 ⟨rfl, hb2⟩; obtain ⟨⟨g0, g1, g2, g3, g4, k0, k1, k2, k3, k4⟩, hb2', hl⟩ := two_boxes hb2; clear hb2)
      | (go_at_call 10; (with_reducible refine (check_ok z d s l a _ ho).mono ?_); rintro e w3 ⟨rfl, hb3⟩; replace k0 := kst hb3 hl k0; replace k1 := kst hb3 hl k1; replace k2 := kst hb3 hl k2; replace k3 := kst hb3 hl k3; replace k4 := kst hb3 hl k4)
      | (go_at_call 10; (with_reducible refine (check_no _ _ _ _ _ _ (by unfold Ok; omega)).mono ?_); rintro e w4 ⟨rfl, hb4⟩)
      | (go_at_call 20; (with_reducible refine (wakes_any _).mono ?_); rintro e w5 ⟨rfl, hb5⟩))
    go_ret
    exact ⟨rfl, bt (bt (bt (bt hb1 hb2') hb3) hb4) hb5⟩
  · clear hm
    go_enter Try.func7, Try.ntmps7
    go_wp2_with (first
      | (go_at_call 28; (with_reducible refine (some_any _ _ _ _ _ _).mono ?_); rintro e w1 ⟨⟨z, d, s, l, a, ho, rfl⟩, hb1⟩; obtain ⟨h1, h2, h3, h4, h5⟩ := id ho)
      | (go_at_call 11; (with_reducible refine (cells_no _ _ _ _ _ _ (by unfold Ok; omega)).mono ?_); rintro e w2 ⟨rfl, hb2⟩; obtain ⟨⟨g0, g1, g2, g3, g4, k0, k1, k2, k3, k4⟩, hb2', hl⟩ := two_boxes hb2; clear hb2)
      | (go_at_call 10; (with_reducible refine (check_ok z d s l a _ ho).mono ?_); rintro e w3 ⟨rfl, hb3⟩; replace k0 := kst hb3 hl k0; replace k1 := kst hb3 hl k1; replace k2 := kst hb3 hl k2; replace k3 := kst hb3 hl k3; replace k4 := kst hb3 hl k4)
      | (go_at_call 10; (with_reducible refine (check_no _ _ _ _ _ _ (by unfold Ok; omega)).mono ?_); rintro e w4 ⟨rfl, hb4⟩)
      | (go_at_call 20; (with_reducible refine (wakes_any _).mono ?_); rintro e w5 ⟨rfl, hb5⟩))
    go_ret
    exact ⟨rfl, bt (bt (bt (bt hb1 hb2') hb3) hb4) hb5⟩
  · clear hm
    go_enter Try.func7, Try.ntmps7
    go_wp2_with (first
      | (go_at_call 28; (with_reducible refine (some_any _ _ _ _ _ _).mono ?_); rintro e w1 ⟨⟨z, d, s, l, a, ho, rfl⟩, hb1⟩; obtain ⟨h1, h2, h3, h4, h5⟩ := id ho)
      | (go_at_call 11; (with_reducible refine (cells_no _ _ _ _ _ _ (by unfold Ok; omega)).mono ?_); rintro e w2 ⟨rfl, hb2⟩; obtain ⟨⟨g0, g1, g2, g3, g4, k0, k1, k2, k3, k4⟩, hb2', hl⟩ := two_boxes hb2; clear hb2)
      | (go_at_call 10; (with_reducible refine (check_ok z d s l a _ ho).mono ?_); rintro e w3 ⟨rfl, hb3⟩; replace k0 := kst hb3 hl k0; replace k1 := kst hb3 hl k1; replace k2 := kst hb3 hl k2; replace k3 := kst hb3 hl k3; replace k4 := kst hb3 hl k4)
      | (go_at_call 10; (with_reducible refine (check_no _ _ _ _ _ _ (by unfold Ok; omega)).mono ?_); rintro e w4 ⟨rfl, hb4⟩)
      | (go_at_call 20; (with_reducible refine (wakes_any _).mono ?_); rintro e w5 ⟨rfl, hb5⟩))
    go_ret
    exact ⟨rfl, bt (bt (bt (bt hb1 hb2') hb3) hb4) hb5⟩
  · clear hm
    go_enter Try.func7, Try.ntmps7
    go_wp2_with (first
      | (go_at_call 28; (with_reducible refine (some_any _ _ _ _ _ _).mono ?_); rintro e w1 ⟨⟨z, d, s, l, a, ho, rfl⟩, hb1⟩; obtain ⟨h1, h2, h3, h4, h5⟩ := id ho)
      | (go_at_call 11; (with_reducible refine (cells_no _ _ _ _ _ _ (by unfold Ok; omega)).mono ?_); rintro e w2 ⟨rfl, hb2⟩; obtain ⟨⟨g0, g1, g2, g3, g4, k0, k1, k2, k3, k4⟩, hb2', hl⟩ := two_boxes hb2; clear hb2)
      | (go_at_call 10; (with_reducible refine (check_ok z d s l a _ ho).mono ?_); rintro e w3 ⟨rfl, hb3⟩; replace k0 := kst hb3 hl k0; replace k1 := kst hb3 hl k1; replace k2 := kst hb3 hl k2; replace k3 := kst hb3 hl k3; replace k4 := kst hb3 hl k4)
      | (go_at_call 10; (with_reducible refine (check_no _ _ _ _ _ _ (by unfold Ok; omega)).mono ?_); rintro e w4 ⟨rfl, hb4⟩)
      | (go_at_call 20; (with_reducible refine (wakes_any _).mono ?_); rintro e w5 ⟨rfl, hb5⟩))
    go_ret
    exact ⟨rfl, bt (bt (bt (bt hb1 hb2') hb3) hb4) hb5⟩
  · clear hm
    go_enter Try.func7, Try.ntmps7
    go_wp2_with (first
      | (go_at_call 28; (with_reducible refine (some_any _ _ _ _ _ _).mono ?_); rintro e w1 ⟨⟨z, d, s, l, a, ho, rfl⟩, hb1⟩; obtain ⟨h1, h2, h3, h4, h5⟩ := id ho)
      | (go_at_call 11; (with_reducible refine (cells_no _ _ _ _ _ _ (by unfold Ok; omega)).mono ?_); rintro e w2 ⟨rfl, hb2⟩; obtain ⟨⟨g0, g1, g2, g3, g4, k0, k1, k2, k3, k4⟩, hb2', hl⟩ := two_boxes hb2; clear hb2)
      | (go_at_call 10; (with_reducible refine (check_ok z d s l a _ ho).mono ?_); rintro e w3 ⟨rfl, hb3⟩; replace k0 := kst hb3 hl k0; replace k1 := kst hb3 hl k1; replace k2 := kst hb3 hl k2; replace k3 := kst hb3 hl k3; replace k4 := kst hb3 hl k4)
      | (go_at_call 10; (with_reducible refine (check_no _ _ _ _ _ _ (by unfold Ok; omega)).mono ?_); rintro e w4 ⟨rfl, hb4⟩)
      | (go_at_call 20; (with_reducible refine (wakes_any _).mono ?_); rintro e w5 ⟨rfl, hb5⟩))
    go_ret
    exact ⟨rfl, bt (bt (bt (bt hb1 hb2') hb3) hb4) hb5⟩
  · clear hm
    go_enter Try.func7, Try.ntmps7
    go_wp2_with (first
      | (go_at_call 28; (with_reducible refine (some_any _ _ _ _ _ _).mono ?_); rintro e w1 ⟨⟨z, d, s, l, a, ho, rfl⟩, hb1⟩; obtain ⟨h1, h2, h3, h4, h5⟩ := id ho)
      | (go_at_call 11; (with_reducible refine (cells_no _ _ _ _ _ _ (by unfold Ok; omega)).mono ?_); rintro e w2 ⟨rfl, hb2⟩; obtain ⟨⟨g0, g1, g2, g3, g4, k0, k1, k2, k3, k4⟩, hb2', hl⟩ := two_boxes hb2; clear hb2)
      | (go_at_call 10; (with_reducible refine (check_ok z d s l a _ ho).mono ?_); rintro e w3 ⟨rfl, hb3⟩; replace k0 := kst hb3 hl k0; replace k1 := kst hb3 hl k1; replace k2 := kst hb3 hl k2; replace k3 := kst hb3 hl k3; replace k4 := kst hb3 hl k4)
      | (go_at_call 10; (with_reducible refine (check_no _ _ _ _ _ _ (by unfold Ok; omega)).mono ?_); rintro e w4 ⟨rfl, hb4⟩)
      | (go_at_call 20; (with_reducible refine (wakes_any _).mono ?_); rintro e w5 ⟨rfl, hb5⟩))
    go_ret
    exact ⟨rfl, bt (bt (bt (bt hb1 hb2') hb3) hb4) hb5⟩
  · clear hm
    go_enter Try.func7, Try.ntmps7
    go_wp2_with (first
      | (go_at_call 28; (with_reducible refine (some_any _ _ _ _ _ _).mono ?_); rintro e w1 ⟨⟨z, d, s, l, a, ho, rfl⟩, hb1⟩; obtain ⟨h1, h2, h3, h4, h5⟩ := id ho)
      | (go_at_call 11; (with_reducible refine (cells_no _ _ _ _ _ _ (by unfold Ok; omega)).mono ?_); rintro e w2 ⟨rfl, hb2⟩; obtain ⟨⟨g0, g1, g2, g3, g4, k0, k1, k2, k3, k4⟩, hb2', hl⟩ := two_boxes hb2; clear hb2)
      | (go_at_call 10; (with_reducible refine (check_ok z d s l a _ ho).mono ?_); rintro e w3 ⟨rfl, hb3⟩; replace k0 := kst hb3 hl k0; replace k1 := kst hb3 hl k1; replace k2 := kst hb3 hl k2; replace k3 := kst hb3 hl k3; replace k4 := kst hb3 hl k4)
      | (go_at_call 10; (with_reducible refine (check_no _ _ _ _ _ _ (by unfold Ok; omega)).mono ?_); rintro e w4 ⟨rfl, hb4⟩)
      | (go_at_call 20; (with_reducible refine (wakes_any _).mono ?_); rintro e w5 ⟨rfl, hb5⟩))
    go_ret
    exact ⟨rfl, bt (bt (bt (bt hb1 hb2') hb3) hb4) hb5⟩
end Go.Proofs.Ytjadbekefonhlaa.gmt
