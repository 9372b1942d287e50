/-
  GeomParts walked: each cell is told once, of one kind. Conditions: none.
-/
import Derived.Test.YtjadbekefonhlaaGmQ
import Derived.Deep.CutRange
import Derived.Deep.CutBlock
namespace Go.Proofs.Ytjadbekefonhlaa.gmt
open Go.RowKit Go.Lib

set_option maxRecDepth 100000 in
set_option maxHeartbeats 1000000 in
theorem geomparts_law (z' d' s' l' a' : Int) (w : World) :
    Calls Try.prog 4 #[.int .i64 z', .int .i64 d', .int .i64 s', .int .i64 l', .int .i64 a'] w fun e w' => e = .returned (.bool true) ∧ Below w.heap.size w w' := by
  go_enter Try.func4, Try.ntmps4
  go_wp2_with (first
    | (go_at_call 28; (with_reducible refine (some_any _ _ _ _ _ _).mono ?_); rintro e w1 ⟨⟨z, d, s, l, a, ho, rfl⟩, hb1⟩; obtain ⟨h1, h2, h3, h4, h5⟩ := id ho))
  have hb0 := bt hb1 (bl w1 (.cells #[.int .i64 z, .int .i64 d, .int .i64 s, .int .i64 l, .int .i64 a] 23))
  have hl : w1.heap.size < (w1.alloc (.cells #[.int .i64 z, .int .i64 d, .int .i64 s, .int .i64 l, .int .i64 a] 23)).heap.size := by simp
  obtain ⟨g0, g1, g2, g3, g4⟩ := five_new w1 z d s l a
  have hp := per_le ho
  have hq1 := mul_le (i := z) (n := 4) (P := 7) (by omega) (by omega) (by omega) hp.2
  obtain ⟨N, hN⟩ : ∃ N : Nat, a + 2 * l + 2 * z + z * (d + 1 + s) = N := ⟨(a + 2 * l + 2 * z + z * (d + 1 + s)).toNat, by omega⟩
  have cn := fun W => cells_ok z d s l a W ho
  rw [hN] at cn
  have hN0 : 1 ≤ N := by omega
  have hN1 : N ≤ 300 := by omega
  have i0 : 1 ≤ (N : Int) := by omega
  have i1 : (N : Int) ≤ 300 := by omega
  have HN := Lib.hid hN
  clear hN hq1
  generalize w1.alloc (.cells #[.int .i64 z, .int .i64 d, .int .i64 s, .int .i64 l, .int .i64 a] 23) = w0 at *
  go_wp2_with (first
    | (go_at_call 11; (with_reducible refine (cn _).mono ?_); rintro e w2 ⟨rfl, hb2⟩; have hmk := make_ints N (by omega) w2; replace g0 := kst hb2 hl g0; replace g1 := kst hb2 hl g1; replace g2 := kst hb2 hl g2; replace g3 := kst hb2 hl g3; replace g4 := kst hb2 hl g4; replace hl := Nat.lt_of_lt_of_le hl hb2.size))
  have hS : St w (w2.alloc (.cells (icells N) 3)) w1.heap.size w2.heap.size z d s l a N fun _ => 0 := St.new (by omega) g0 g1 g2 g3 g4 hl hb1.size (bt hb0 hb2)
  have hM := Met.start ho HN.out
  generalize (fun _ : Nat => (0 : Int)) = f at hS hM
  clear hmk g0 g1 g2 g3 g4 hl cn hb0 hb2
  generalize w2.alloc (.cells (icells N) 3) = W at *
  generalize w1.heap.size = b at *
  generalize w2.heap.size = g at *
  go_loopw [15] (fun i W => ∃ (i0 : Nat) (f : Nat → Int), i = .int .i64 i0 ∧ i0 ≤ 4 ∧ St w W b g z d s l a N f ∧ Met z d s l a N (30 * (i0 : Int) + 0) f) (fun i _ => 4 - (RowKit.intOf i).toNat)
  case atStart => exact ⟨0, f, rfl, by omega, hS, hM⟩
  case round =>
    clear hM hS f
    rename_i wr
    obtain ⟨i, f, rfl, hi4, hS, hM⟩ := hrel
    obtain ⟨g0, g1, g2, g3, g4, -, -, -, -, -⟩ := id hS
    by_cases hi : i < 4
    · have ii : (i : Int) < 4 := by omega
      go_wp2
      go_loopw [16] (fun k W => ∃ (k0 : Nat) (f : Nat → Int), k = .int .i64 k0 ∧ k0 ≤ 30 ∧ St w W b g z d s l a N f ∧ Met z d s l a N (30 * (i : Int) + (k0 : Int)) f) (fun k _ => 30 - (RowKit.intOf k).toNat)
      case atStart => exact ⟨0, f, rfl, by omega, hS, hM⟩
      case round =>
        clear hM hS f g0 g1 g2 g3 g4
        rename_i wi
        obtain ⟨k, f, rfl, hk30, hS, hM⟩ := hrel
        obtain ⟨g0, g1, g2, g3, g4, -, -, -, -, -⟩ := id hS
        by_cases hk : k < 30
        · have kk : (k : Int) < 30 := by omega
          have hil := mul_le (i := (i : Int)) (n := 3) (p := l) (P := 30) (by omega) (by omega) (by omega) (by omega)
          have hip := mul_le (i := (i : Int)) (n := 3) (P := 7) (by omega) (by omega) (by omega) hp.2
          obtain ⟨b1, A1, n1, e1, t1, c1⟩ := at_of (R := (0 ≤ (i : Int) ∧ (i : Int) < 2) ∧ 0 ≤ (k : Int) ∧ (k : Int) < l) (v := a + i * l + k) (N := N) (fun h => ⟨by omega, by
            have hN := HN.out
            have hzz := mul_le (i := z) (n := 4) (P := 7) (by omega) (by omega) (by omega) hp.2
            obtain h0 | h0 : (i : Int) = 0 ∨ (i : Int) = 1 := by omega
            · rw [h0]; omega
            · rw [h0]; omega⟩)
          obtain ⟨b2, A2, n2, e2, t2, c2⟩ := at_of (R := (0 ≤ (i : Int) ∧ (i : Int) < z) ∧ 0 ≤ (k : Int) ∧ (k : Int) < 2) (v := a + 2 * l + i * 2 + k) (N := N) (fun h => ⟨by omega, by
            have hN := HN.out
            have hzz := mul_le (i := z) (n := 4) (P := 7) (by omega) (by omega) (by omega) hp.2
            omega⟩)
          obtain ⟨b3, A3, n3, e3, t3, c3⟩ := at_of (R := (0 ≤ (i : Int) ∧ (i : Int) < z) ∧ 0 ≤ (k : Int) ∧ (k : Int) < d + 1 + s) (v := a + 2 * l + 2 * z + i * (d + 1 + s) + k) (N := N) (fun h => ⟨by omega, by
            have hN := HN.out
            have h6 : ((i : Int) + 1) * (d + 1 + s) ≤ z * (d + 1 + s) := Int.mul_le_mul (by omega) (Int.le_refl _) (by omega) (by omega)
            have h7 : ((i : Int) + 1) * (d + 1 + s) = i * (d + 1 + s) + (d + 1 + s) := by rw [Int.add_mul, Int.one_mul]
            omega⟩)
          obtain ⟨b4, A4, n4, e4, t4, c4⟩ := at_of (R := 0 ≤ (k : Int) ∧ (k : Int) < a) (v := (k : Int)) (N := N) (fun h => ⟨by omega, by
            have hN := HN.out
            have hzz := mul_le (i := z) (n := 4) (P := 7) (by omega) (by omega) (by omega) hp.2
            omega⟩)
          obtain ⟨b5, h5'⟩ : ∃ b5 : Bool, b5 = true ↔ b4 = true ∧ (i : Int) = 0 := ⟨decide (b4 = true ∧ (i : Int) = 0), decide_eq_true_iff⟩
          have HM : Hid (Met z d s l a N (30 * (i : Int) + ((k : Int) + 1)) (bumpIf b5 (bumpIf b3 (bumpIf b2 (bumpIf b1 f A1) A2) A3) A4)) := Lib.hid (hM.next ho HN.out (by omega) (by omega) t1 t2 t3 t4 h5')
          have bd := hM.bd
          have l1 := fun W => log_at z d s l a i k n1 e1 W ho c1
          have l2 := fun W => table_at z d s l a i k n2 e2 W ho c2
          have l3 := fun W => slot_at z d s l a i k n3 e3 W ho c3
          have l4 := fun W => anchor_at z d s l a k n4 e4 W ho c4
          have q23 : b2 = true → b3 = true := fun h => t3.1.2 (by have := t2.1.1 h; omega)
          have q1 := t1.2
          have q2 := t2.2
          have q3 := t3.2
          have q4 := t4.2
          clear t1 t2 t3 t4 c1 c2 c3 c4 hM hil hip
          go_upto_region 16 with (first
            | (go_at_call 14; (with_reducible refine (l1 _).mono ?_); rintro e w4 ⟨rfl, hb4⟩; replace hS := hS.below hb4; clear g0 g1 g2 g3 g4; obtain ⟨g0, g1, g2, g3, g4, -, -, -, -, -⟩ := id hS)
            | (go_at_call 15; (with_reducible refine (l2 _).mono ?_); rintro e w5 ⟨rfl, hb5⟩; replace hS := hS.below hb5; clear g0 g1 g2 g3 g4; obtain ⟨g0, g1, g2, g3, g4, -, -, -, -, -⟩ := id hS)
            | (go_at_call 16; (with_reducible refine (l3 _).mono ?_); rintro e w6 ⟨rfl, hb6⟩; replace hS := hS.below hb6; clear g0 g1 g2 g3 g4; obtain ⟨g0, g1, g2, g3, g4, -, -, -, -, -⟩ := id hS)
            | (go_at_call 13; (with_reducible refine (l4 _).mono ?_); rintro e w7 ⟨rfl, hb7⟩; replace hS := hS.below hb7; clear g0 g1 g2 g3 g4; obtain ⟨g0, g1, g2, g3, g4, -, -, -, -, -⟩ := id hS))
          clear l1 l2 l3 l4
          cases b1
          · skip
            obtain ⟨rfl, rfl⟩ := q1.2 rfl
            clear q1
            cases b2
            · skip
              obtain ⟨rfl, rfl⟩ := q2.2 rfl
              clear q2
              cases b3
              · skip
                obtain ⟨rfl, rfl⟩ := q3.2 rfl
                clear q3
                clear q23
                cases b4
                · skip
                  obtain ⟨rfl, rfl⟩ := q4.2 rfl
                  clear q4
                  by_cases iz : i = 0
                  · obtain rfl : b5 = false := by cases b5; rfl; exact absurd (h5'.1 rfl).1 Bool.false_ne_true
                    have iz' : ((i : Int) == 0) = true := beq_iff_eq.2 (by omega)
                    clear h5'
                    go_wp2
                    go_roundw
                    case rel => exact ⟨k + 1, _, by go_num, by omega, hS, HM.out⟩
                    case measure => simp [RowKit.intOf]; omega
                  · obtain rfl : b5 = false := by cases b5; rfl; exact absurd (h5'.1 rfl).2 (by omega)
                    have iz' : ((i : Int) == 0) = false := beq_eq_false_iff_ne.2 (by omega)
                    clear h5'
                    go_wp2
                    go_roundw
                    case rel => exact ⟨k + 1, _, by go_num, by omega, hS, HM.out⟩
                    case measure => simp [RowKit.intOf]; omega
                · skip
                  obtain ⟨rfl, rfl, -, m4⟩ := q4.1 rfl
                  clear q4
                  by_cases iz : i = 0
                  · obtain rfl : b5 = true := h5'.2 ⟨rfl, by omega⟩
                    have iz' : ((i : Int) == 0) = true := beq_iff_eq.2 (by omega)
                    clear h5'
                    go_upto_region 22 with fail
                    have gA := hS.cell m4
                    have gz := hS.frozen A4
                    have vb := bd A4 m4
                    replace hS := hS.store m4
                    clear g0 g1 g2 g3 g4
                    go_wp2
                    obtain ⟨g0, g1, g2, g3, g4, -, -, -, -, -⟩ := id hS
                    clear gA gz vb
                    generalize w7.setCell ⟨g, A4, none⟩ (.int .i64 (f A4 + 1)) = w20 at *
                    have bd20 := bd.bump A4
                    clear bd
                    go_roundw
                    case rel => exact ⟨k + 1, _, by go_num, by omega, hS, HM.out⟩
                    case measure => simp [RowKit.intOf]; omega
                  · obtain rfl : b5 = false := by cases b5; rfl; exact absurd (h5'.1 rfl).2 (by omega)
                    have iz' : ((i : Int) == 0) = false := beq_eq_false_iff_ne.2 (by omega)
                    clear h5'
                    go_wp2
                    go_roundw
                    case rel => exact ⟨k + 1, _, by go_num, by omega, hS, HM.out⟩
                    case measure => simp [RowKit.intOf]; omega
              · skip
                obtain ⟨rfl, rfl, -, m3⟩ := q3.1 rfl
                clear q3
                clear q23
                cases b4
                · skip
                  obtain ⟨rfl, rfl⟩ := q4.2 rfl
                  clear q4
                  by_cases iz : i = 0
                  · obtain rfl : b5 = false := by cases b5; rfl; exact absurd (h5'.1 rfl).1 Bool.false_ne_true
                    have iz' : ((i : Int) == 0) = true := beq_iff_eq.2 (by omega)
                    clear h5'
                    go_upto_region 20 with fail
                    have gA := hS.cell m3
                    have gz := hS.frozen A3
                    have vb := bd A3 m3
                    replace hS := hS.store m3
                    clear g0 g1 g2 g3 g4
                    go_wp2
                    obtain ⟨g0, g1, g2, g3, g4, -, -, -, -, -⟩ := id hS
                    clear gA gz vb
                    generalize w7.setCell ⟨g, A3, none⟩ (.int .i64 (f A3 + 1)) = w20 at *
                    have bd20 := bd.bump A3
                    clear bd
                    go_roundw
                    case rel => exact ⟨k + 1, _, by go_num, by omega, hS, HM.out⟩
                    case measure => simp [RowKit.intOf]; omega
                  · obtain rfl : b5 = false := by cases b5; rfl; exact absurd (h5'.1 rfl).2 (by omega)
                    have iz' : ((i : Int) == 0) = false := beq_eq_false_iff_ne.2 (by omega)
                    clear h5'
                    go_upto_region 20 with fail
                    have gA := hS.cell m3
                    have gz := hS.frozen A3
                    have vb := bd A3 m3
                    replace hS := hS.store m3
                    clear g0 g1 g2 g3 g4
                    go_wp2
                    obtain ⟨g0, g1, g2, g3, g4, -, -, -, -, -⟩ := id hS
                    clear gA gz vb
                    generalize w7.setCell ⟨g, A3, none⟩ (.int .i64 (f A3 + 1)) = w20 at *
                    have bd20 := bd.bump A3
                    clear bd
                    go_roundw
                    case rel => exact ⟨k + 1, _, by go_num, by omega, hS, HM.out⟩
                    case measure => simp [RowKit.intOf]; omega
                · skip
                  obtain ⟨rfl, rfl, -, m4⟩ := q4.1 rfl
                  clear q4
                  by_cases iz : i = 0
                  · obtain rfl : b5 = true := h5'.2 ⟨rfl, by omega⟩
                    have iz' : ((i : Int) == 0) = true := beq_iff_eq.2 (by omega)
                    clear h5'
                    go_upto_region 20 with fail
                    have gA := hS.cell m3
                    have gz := hS.frozen A3
                    have vb := bd A3 m3
                    replace hS := hS.store m3
                    clear g0 g1 g2 g3 g4
                    go_upto_region 22 with fail
                    obtain ⟨g0, g1, g2, g3, g4, -, -, -, -, -⟩ := id hS
                    clear gA gz vb
                    generalize w7.setCell ⟨g, A3, none⟩ (.int .i64 (f A3 + 1)) = w20 at *
                    have bd20 := bd.bump A3
                    clear bd
                    have gA := hS.cell m4
                    have gz := hS.frozen A4
                    have vb := bd20 A4 m4
                    replace hS := hS.store m4
                    clear g0 g1 g2 g3 g4
                    go_wp2
                    obtain ⟨g0, g1, g2, g3, g4, -, -, -, -, -⟩ := id hS
                    clear gA gz vb
                    generalize w20.setCell ⟨g, A4, none⟩ (.int .i64 ((bump f A3) A4 + 1)) = w21 at *
                    have bd21 := bd20.bump A4
                    clear bd20
                    go_roundw
                    case rel => exact ⟨k + 1, _, by go_num, by omega, hS, HM.out⟩
                    case measure => simp [RowKit.intOf]; omega
                  · obtain rfl : b5 = false := by cases b5; rfl; exact absurd (h5'.1 rfl).2 (by omega)
                    have iz' : ((i : Int) == 0) = false := beq_eq_false_iff_ne.2 (by omega)
                    clear h5'
                    go_upto_region 20 with fail
                    have gA := hS.cell m3
                    have gz := hS.frozen A3
                    have vb := bd A3 m3
                    replace hS := hS.store m3
                    clear g0 g1 g2 g3 g4
                    go_wp2
                    obtain ⟨g0, g1, g2, g3, g4, -, -, -, -, -⟩ := id hS
                    clear gA gz vb
                    generalize w7.setCell ⟨g, A3, none⟩ (.int .i64 (f A3 + 1)) = w20 at *
                    have bd20 := bd.bump A3
                    clear bd
                    go_roundw
                    case rel => exact ⟨k + 1, _, by go_num, by omega, hS, HM.out⟩
                    case measure => simp [RowKit.intOf]; omega
            · skip
              obtain ⟨rfl, rfl, -, m2⟩ := q2.1 rfl
              clear q2
              cases b3
              · skip
                obtain ⟨rfl, rfl⟩ := q3.2 rfl
                clear q3
                exact absurd (q23 rfl) Bool.false_ne_true
              · skip
                obtain ⟨rfl, rfl, -, m3⟩ := q3.1 rfl
                clear q3
                clear q23
                cases b4
                · skip
                  obtain ⟨rfl, rfl⟩ := q4.2 rfl
                  clear q4
                  by_cases iz : i = 0
                  · obtain rfl : b5 = false := by cases b5; rfl; exact absurd (h5'.1 rfl).1 Bool.false_ne_true
                    have iz' : ((i : Int) == 0) = true := beq_iff_eq.2 (by omega)
                    clear h5'
                    go_upto_region 18 with fail
                    have gA := hS.cell m2
                    have gz := hS.frozen A2
                    have vb := bd A2 m2
                    replace hS := hS.store m2
                    clear g0 g1 g2 g3 g4
                    go_upto_region 20 with fail
                    obtain ⟨g0, g1, g2, g3, g4, -, -, -, -, -⟩ := id hS
                    clear gA gz vb
                    generalize w7.setCell ⟨g, A2, none⟩ (.int .i64 (f A2 + 1)) = w20 at *
                    have bd20 := bd.bump A2
                    clear bd
                    have gA := hS.cell m3
                    have gz := hS.frozen A3
                    have vb := bd20 A3 m3
                    replace hS := hS.store m3
                    clear g0 g1 g2 g3 g4
                    go_wp2
                    obtain ⟨g0, g1, g2, g3, g4, -, -, -, -, -⟩ := id hS
                    clear gA gz vb
                    generalize w20.setCell ⟨g, A3, none⟩ (.int .i64 ((bump f A2) A3 + 1)) = w21 at *
                    have bd21 := bd20.bump A3
                    clear bd20
                    go_roundw
                    case rel => exact ⟨k + 1, _, by go_num, by omega, hS, HM.out⟩
                    case measure => simp [RowKit.intOf]; omega
                  · obtain rfl : b5 = false := by cases b5; rfl; exact absurd (h5'.1 rfl).2 (by omega)
                    have iz' : ((i : Int) == 0) = false := beq_eq_false_iff_ne.2 (by omega)
                    clear h5'
                    go_upto_region 18 with fail
                    have gA := hS.cell m2
                    have gz := hS.frozen A2
                    have vb := bd A2 m2
                    replace hS := hS.store m2
                    clear g0 g1 g2 g3 g4
                    go_upto_region 20 with fail
                    obtain ⟨g0, g1, g2, g3, g4, -, -, -, -, -⟩ := id hS
                    clear gA gz vb
                    generalize w7.setCell ⟨g, A2, none⟩ (.int .i64 (f A2 + 1)) = w20 at *
                    have bd20 := bd.bump A2
                    clear bd
                    have gA := hS.cell m3
                    have gz := hS.frozen A3
                    have vb := bd20 A3 m3
                    replace hS := hS.store m3
                    clear g0 g1 g2 g3 g4
                    go_wp2
                    obtain ⟨g0, g1, g2, g3, g4, -, -, -, -, -⟩ := id hS
                    clear gA gz vb
                    generalize w20.setCell ⟨g, A3, none⟩ (.int .i64 ((bump f A2) A3 + 1)) = w21 at *
                    have bd21 := bd20.bump A3
                    clear bd20
                    go_roundw
                    case rel => exact ⟨k + 1, _, by go_num, by omega, hS, HM.out⟩
                    case measure => simp [RowKit.intOf]; omega
                · skip
                  obtain ⟨rfl, rfl, -, m4⟩ := q4.1 rfl
                  clear q4
                  by_cases iz : i = 0
                  · obtain rfl : b5 = true := h5'.2 ⟨rfl, by omega⟩
                    have iz' : ((i : Int) == 0) = true := beq_iff_eq.2 (by omega)
                    clear h5'
                    go_upto_region 18 with fail
                    have gA := hS.cell m2
                    have gz := hS.frozen A2
                    have vb := bd A2 m2
                    replace hS := hS.store m2
                    clear g0 g1 g2 g3 g4
                    go_upto_region 20 with fail
                    obtain ⟨g0, g1, g2, g3, g4, -, -, -, -, -⟩ := id hS
                    clear gA gz vb
                    generalize w7.setCell ⟨g, A2, none⟩ (.int .i64 (f A2 + 1)) = w20 at *
                    have bd20 := bd.bump A2
                    clear bd
                    have gA := hS.cell m3
                    have gz := hS.frozen A3
                    have vb := bd20 A3 m3
                    replace hS := hS.store m3
                    clear g0 g1 g2 g3 g4
                    go_upto_region 22 with fail
                    obtain ⟨g0, g1, g2, g3, g4, -, -, -, -, -⟩ := id hS
                    clear gA gz vb
                    generalize w20.setCell ⟨g, A3, none⟩ (.int .i64 ((bump f A2) A3 + 1)) = w21 at *
                    have bd21 := bd20.bump A3
                    clear bd20
                    have gA := hS.cell m4
                    have gz := hS.frozen A4
                    have vb := bd21 A4 m4
                    replace hS := hS.store m4
                    clear g0 g1 g2 g3 g4
                    go_wp2
                    obtain ⟨g0, g1, g2, g3, g4, -, -, -, -, -⟩ := id hS
                    clear gA gz vb
                    generalize w21.setCell ⟨g, A4, none⟩ (.int .i64 ((bump (bump f A2) A3) A4 + 1)) = w22 at *
                    have bd22 := bd21.bump A4
                    clear bd21
                    go_roundw
                    case rel => exact ⟨k + 1, _, by go_num, by omega, hS, HM.out⟩
                    case measure => simp [RowKit.intOf]; omega
                  · obtain rfl : b5 = false := by cases b5; rfl; exact absurd (h5'.1 rfl).2 (by omega)
                    have iz' : ((i : Int) == 0) = false := beq_eq_false_iff_ne.2 (by omega)
                    clear h5'
                    go_upto_region 18 with fail
                    have gA := hS.cell m2
                    have gz := hS.frozen A2
                    have vb := bd A2 m2
                    replace hS := hS.store m2
                    clear g0 g1 g2 g3 g4
                    go_upto_region 20 with fail
                    obtain ⟨g0, g1, g2, g3, g4, -, -, -, -, -⟩ := id hS
                    clear gA gz vb
                    generalize w7.setCell ⟨g, A2, none⟩ (.int .i64 (f A2 + 1)) = w20 at *
                    have bd20 := bd.bump A2
                    clear bd
                    have gA := hS.cell m3
                    have gz := hS.frozen A3
                    have vb := bd20 A3 m3
                    replace hS := hS.store m3
                    clear g0 g1 g2 g3 g4
                    go_wp2
                    obtain ⟨g0, g1, g2, g3, g4, -, -, -, -, -⟩ := id hS
                    clear gA gz vb
                    generalize w20.setCell ⟨g, A3, none⟩ (.int .i64 ((bump f A2) A3 + 1)) = w21 at *
                    have bd21 := bd20.bump A3
                    clear bd20
                    go_roundw
                    case rel => exact ⟨k + 1, _, by go_num, by omega, hS, HM.out⟩
                    case measure => simp [RowKit.intOf]; omega
          · skip
            obtain ⟨rfl, rfl, -, m1⟩ := q1.1 rfl
            clear q1
            cases b2
            · skip
              obtain ⟨rfl, rfl⟩ := q2.2 rfl
              clear q2
              cases b3
              · skip
                obtain ⟨rfl, rfl⟩ := q3.2 rfl
                clear q3
                clear q23
                cases b4
                · skip
                  obtain ⟨rfl, rfl⟩ := q4.2 rfl
                  clear q4
                  by_cases iz : i = 0
                  · obtain rfl : b5 = false := by cases b5; rfl; exact absurd (h5'.1 rfl).1 Bool.false_ne_true
                    have iz' : ((i : Int) == 0) = true := beq_iff_eq.2 (by omega)
                    clear h5'
                    have gA := hS.cell m1
                    have gz := hS.frozen A1
                    have vb := bd A1 m1
                    replace hS := hS.store m1
                    clear g0 g1 g2 g3 g4
                    go_wp2
                    obtain ⟨g0, g1, g2, g3, g4, -, -, -, -, -⟩ := id hS
                    clear gA gz vb
                    generalize w7.setCell ⟨g, A1, none⟩ (.int .i64 (f A1 + 1)) = w20 at *
                    have bd20 := bd.bump A1
                    clear bd
                    go_roundw
                    case rel => exact ⟨k + 1, _, by go_num, by omega, hS, HM.out⟩
                    case measure => simp [RowKit.intOf]; omega
                  · obtain rfl : b5 = false := by cases b5; rfl; exact absurd (h5'.1 rfl).2 (by omega)
                    have iz' : ((i : Int) == 0) = false := beq_eq_false_iff_ne.2 (by omega)
                    clear h5'
                    have gA := hS.cell m1
                    have gz := hS.frozen A1
                    have vb := bd A1 m1
                    replace hS := hS.store m1
                    clear g0 g1 g2 g3 g4
                    go_wp2
                    obtain ⟨g0, g1, g2, g3, g4, -, -, -, -, -⟩ := id hS
                    clear gA gz vb
                    generalize w7.setCell ⟨g, A1, none⟩ (.int .i64 (f A1 + 1)) = w20 at *
                    have bd20 := bd.bump A1
                    clear bd
                    go_roundw
                    case rel => exact ⟨k + 1, _, by go_num, by omega, hS, HM.out⟩
                    case measure => simp [RowKit.intOf]; omega
                · skip
                  obtain ⟨rfl, rfl, -, m4⟩ := q4.1 rfl
                  clear q4
                  by_cases iz : i = 0
                  · obtain rfl : b5 = true := h5'.2 ⟨rfl, by omega⟩
                    have iz' : ((i : Int) == 0) = true := beq_iff_eq.2 (by omega)
                    clear h5'
                    have gA := hS.cell m1
                    have gz := hS.frozen A1
                    have vb := bd A1 m1
                    replace hS := hS.store m1
                    clear g0 g1 g2 g3 g4
                    go_upto_region 22 with fail
                    obtain ⟨g0, g1, g2, g3, g4, -, -, -, -, -⟩ := id hS
                    clear gA gz vb
                    generalize w7.setCell ⟨g, A1, none⟩ (.int .i64 (f A1 + 1)) = w20 at *
                    have bd20 := bd.bump A1
                    clear bd
                    have gA := hS.cell m4
                    have gz := hS.frozen A4
                    have vb := bd20 A4 m4
                    replace hS := hS.store m4
                    clear g0 g1 g2 g3 g4
                    go_wp2
                    obtain ⟨g0, g1, g2, g3, g4, -, -, -, -, -⟩ := id hS
                    clear gA gz vb
                    generalize w20.setCell ⟨g, A4, none⟩ (.int .i64 ((bump f A1) A4 + 1)) = w21 at *
                    have bd21 := bd20.bump A4
                    clear bd20
                    go_roundw
                    case rel => exact ⟨k + 1, _, by go_num, by omega, hS, HM.out⟩
                    case measure => simp [RowKit.intOf]; omega
                  · obtain rfl : b5 = false := by cases b5; rfl; exact absurd (h5'.1 rfl).2 (by omega)
                    have iz' : ((i : Int) == 0) = false := beq_eq_false_iff_ne.2 (by omega)
                    clear h5'
                    have gA := hS.cell m1
                    have gz := hS.frozen A1
                    have vb := bd A1 m1
                    replace hS := hS.store m1
                    clear g0 g1 g2 g3 g4
                    go_wp2
                    obtain ⟨g0, g1, g2, g3, g4, -, -, -, -, -⟩ := id hS
                    clear gA gz vb
                    generalize w7.setCell ⟨g, A1, none⟩ (.int .i64 (f A1 + 1)) = w20 at *
                    have bd20 := bd.bump A1
                    clear bd
                    go_roundw
                    case rel => exact ⟨k + 1, _, by go_num, by omega, hS, HM.out⟩
                    case measure => simp [RowKit.intOf]; omega
              · skip
                obtain ⟨rfl, rfl, -, m3⟩ := q3.1 rfl
                clear q3
                clear q23
                cases b4
                · skip
                  obtain ⟨rfl, rfl⟩ := q4.2 rfl
                  clear q4
                  by_cases iz : i = 0
                  · obtain rfl : b5 = false := by cases b5; rfl; exact absurd (h5'.1 rfl).1 Bool.false_ne_true
                    have iz' : ((i : Int) == 0) = true := beq_iff_eq.2 (by omega)
                    clear h5'
                    have gA := hS.cell m1
                    have gz := hS.frozen A1
                    have vb := bd A1 m1
                    replace hS := hS.store m1
                    clear g0 g1 g2 g3 g4
                    go_upto_region 20 with fail
                    obtain ⟨g0, g1, g2, g3, g4, -, -, -, -, -⟩ := id hS
                    clear gA gz vb
                    generalize w7.setCell ⟨g, A1, none⟩ (.int .i64 (f A1 + 1)) = w20 at *
                    have bd20 := bd.bump A1
                    clear bd
                    have gA := hS.cell m3
                    have gz := hS.frozen A3
                    have vb := bd20 A3 m3
                    replace hS := hS.store m3
                    clear g0 g1 g2 g3 g4
                    go_wp2
                    obtain ⟨g0, g1, g2, g3, g4, -, -, -, -, -⟩ := id hS
                    clear gA gz vb
                    generalize w20.setCell ⟨g, A3, none⟩ (.int .i64 ((bump f A1) A3 + 1)) = w21 at *
                    have bd21 := bd20.bump A3
                    clear bd20
                    go_roundw
                    case rel => exact ⟨k + 1, _, by go_num, by omega, hS, HM.out⟩
                    case measure => simp [RowKit.intOf]; omega
                  · obtain rfl : b5 = false := by cases b5; rfl; exact absurd (h5'.1 rfl).2 (by omega)
                    have iz' : ((i : Int) == 0) = false := beq_eq_false_iff_ne.2 (by omega)
                    clear h5'
                    have gA := hS.cell m1
                    have gz := hS.frozen A1
                    have vb := bd A1 m1
                    replace hS := hS.store m1
                    clear g0 g1 g2 g3 g4
                    go_upto_region 20 with fail
                    obtain ⟨g0, g1, g2, g3, g4, -, -, -, -, -⟩ := id hS
                    clear gA gz vb
                    generalize w7.setCell ⟨g, A1, none⟩ (.int .i64 (f A1 + 1)) = w20 at *
                    have bd20 := bd.bump A1
                    clear bd
                    have gA := hS.cell m3
                    have gz := hS.frozen A3
                    have vb := bd20 A3 m3
                    replace hS := hS.store m3
                    clear g0 g1 g2 g3 g4
                    go_wp2
                    obtain ⟨g0, g1, g2, g3, g4, -, -, -, -, -⟩ := id hS
                    clear gA gz vb
                    generalize w20.setCell ⟨g, A3, none⟩ (.int .i64 ((bump f A1) A3 + 1)) = w21 at *
                    have bd21 := bd20.bump A3
                    clear bd20
                    go_roundw
                    case rel => exact ⟨k + 1, _, by go_num, by omega, hS, HM.out⟩
                    case measure => simp [RowKit.intOf]; omega
                · skip
                  obtain ⟨rfl, rfl, -, m4⟩ := q4.1 rfl
                  clear q4
                  by_cases iz : i = 0
                  · obtain rfl : b5 = true := h5'.2 ⟨rfl, by omega⟩
                    have iz' : ((i : Int) == 0) = true := beq_iff_eq.2 (by omega)
                    clear h5'
                    have gA := hS.cell m1
                    have gz := hS.frozen A1
                    have vb := bd A1 m1
                    replace hS := hS.store m1
                    clear g0 g1 g2 g3 g4
                    go_upto_region 20 with fail
                    obtain ⟨g0, g1, g2, g3, g4, -, -, -, -, -⟩ := id hS
                    clear gA gz vb
                    generalize w7.setCell ⟨g, A1, none⟩ (.int .i64 (f A1 + 1)) = w20 at *
                    have bd20 := bd.bump A1
                    clear bd
                    have gA := hS.cell m3
                    have gz := hS.frozen A3
                    have vb := bd20 A3 m3
                    replace hS := hS.store m3
                    clear g0 g1 g2 g3 g4
                    go_upto_region 22 with fail
                    obtain ⟨g0, g1, g2, g3, g4, -, -, -, -, -⟩ := id hS
                    clear gA gz vb
                    generalize w20.setCell ⟨g, A3, none⟩ (.int .i64 ((bump f A1) A3 + 1)) = w21 at *
                    have bd21 := bd20.bump A3
                    clear bd20
                    have gA := hS.cell m4
                    have gz := hS.frozen A4
                    have vb := bd21 A4 m4
                    replace hS := hS.store m4
                    clear g0 g1 g2 g3 g4
                    go_wp2
                    obtain ⟨g0, g1, g2, g3, g4, -, -, -, -, -⟩ := id hS
                    clear gA gz vb
                    generalize w21.setCell ⟨g, A4, none⟩ (.int .i64 ((bump (bump f A1) A3) A4 + 1)) = w22 at *
                    have bd22 := bd21.bump A4
                    clear bd21
                    go_roundw
                    case rel => exact ⟨k + 1, _, by go_num, by omega, hS, HM.out⟩
                    case measure => simp [RowKit.intOf]; omega
                  · obtain rfl : b5 = false := by cases b5; rfl; exact absurd (h5'.1 rfl).2 (by omega)
                    have iz' : ((i : Int) == 0) = false := beq_eq_false_iff_ne.2 (by omega)
                    clear h5'
                    have gA := hS.cell m1
                    have gz := hS.frozen A1
                    have vb := bd A1 m1
                    replace hS := hS.store m1
                    clear g0 g1 g2 g3 g4
                    go_upto_region 20 with fail
                    obtain ⟨g0, g1, g2, g3, g4, -, -, -, -, -⟩ := id hS
                    clear gA gz vb
                    generalize w7.setCell ⟨g, A1, none⟩ (.int .i64 (f A1 + 1)) = w20 at *
                    have bd20 := bd.bump A1
                    clear bd
                    have gA := hS.cell m3
                    have gz := hS.frozen A3
                    have vb := bd20 A3 m3
                    replace hS := hS.store m3
                    clear g0 g1 g2 g3 g4
                    go_wp2
                    obtain ⟨g0, g1, g2, g3, g4, -, -, -, -, -⟩ := id hS
                    clear gA gz vb
                    generalize w20.setCell ⟨g, A3, none⟩ (.int .i64 ((bump f A1) A3 + 1)) = w21 at *
                    have bd21 := bd20.bump A3
                    clear bd20
                    go_roundw
                    case rel => exact ⟨k + 1, _, by go_num, by omega, hS, HM.out⟩
                    case measure => simp [RowKit.intOf]; omega
            · skip
              obtain ⟨rfl, rfl, -, m2⟩ := q2.1 rfl
              clear q2
              cases b3
              · skip
                obtain ⟨rfl, rfl⟩ := q3.2 rfl
                clear q3
                exact absurd (q23 rfl) Bool.false_ne_true
              · skip
                obtain ⟨rfl, rfl, -, m3⟩ := q3.1 rfl
                clear q3
                clear q23
                cases b4
                · skip
                  obtain ⟨rfl, rfl⟩ := q4.2 rfl
                  clear q4
                  by_cases iz : i = 0
                  · obtain rfl : b5 = false := by cases b5; rfl; exact absurd (h5'.1 rfl).1 Bool.false_ne_true
                    have iz' : ((i : Int) == 0) = true := beq_iff_eq.2 (by omega)
                    clear h5'
                    have gA := hS.cell m1
                    have gz := hS.frozen A1
                    have vb := bd A1 m1
                    replace hS := hS.store m1
                    clear g0 g1 g2 g3 g4
                    go_upto_region 18 with fail
                    obtain ⟨g0, g1, g2, g3, g4, -, -, -, -, -⟩ := id hS
                    clear gA gz vb
                    generalize w7.setCell ⟨g, A1, none⟩ (.int .i64 (f A1 + 1)) = w20 at *
                    have bd20 := bd.bump A1
                    clear bd
                    have gA := hS.cell m2
                    have gz := hS.frozen A2
                    have vb := bd20 A2 m2
                    replace hS := hS.store m2
                    clear g0 g1 g2 g3 g4
                    go_upto_region 20 with fail
                    obtain ⟨g0, g1, g2, g3, g4, -, -, -, -, -⟩ := id hS
                    clear gA gz vb
                    generalize w20.setCell ⟨g, A2, none⟩ (.int .i64 ((bump f A1) A2 + 1)) = w21 at *
                    have bd21 := bd20.bump A2
                    clear bd20
                    have gA := hS.cell m3
                    have gz := hS.frozen A3
                    have vb := bd21 A3 m3
                    replace hS := hS.store m3
                    clear g0 g1 g2 g3 g4
                    go_wp2
                    obtain ⟨g0, g1, g2, g3, g4, -, -, -, -, -⟩ := id hS
                    clear gA gz vb
                    generalize w21.setCell ⟨g, A3, none⟩ (.int .i64 ((bump (bump f A1) A2) A3 + 1)) = w22 at *
                    have bd22 := bd21.bump A3
                    clear bd21
                    go_roundw
                    case rel => exact ⟨k + 1, _, by go_num, by omega, hS, HM.out⟩
                    case measure => simp [RowKit.intOf]; omega
                  · obtain rfl : b5 = false := by cases b5; rfl; exact absurd (h5'.1 rfl).2 (by omega)
                    have iz' : ((i : Int) == 0) = false := beq_eq_false_iff_ne.2 (by omega)
                    clear h5'
                    have gA := hS.cell m1
                    have gz := hS.frozen A1
                    have vb := bd A1 m1
                    replace hS := hS.store m1
                    clear g0 g1 g2 g3 g4
                    go_upto_region 18 with fail
                    obtain ⟨g0, g1, g2, g3, g4, -, -, -, -, -⟩ := id hS
                    clear gA gz vb
                    generalize w7.setCell ⟨g, A1, none⟩ (.int .i64 (f A1 + 1)) = w20 at *
                    have bd20 := bd.bump A1
                    clear bd
                    have gA := hS.cell m2
                    have gz := hS.frozen A2
                    have vb := bd20 A2 m2
                    replace hS := hS.store m2
                    clear g0 g1 g2 g3 g4
                    go_upto_region 20 with fail
                    obtain ⟨g0, g1, g2, g3, g4, -, -, -, -, -⟩ := id hS
                    clear gA gz vb
                    generalize w20.setCell ⟨g, A2, none⟩ (.int .i64 ((bump f A1) A2 + 1)) = w21 at *
                    have bd21 := bd20.bump A2
                    clear bd20
                    have gA := hS.cell m3
                    have gz := hS.frozen A3
                    have vb := bd21 A3 m3
                    replace hS := hS.store m3
                    clear g0 g1 g2 g3 g4
                    go_wp2
                    obtain ⟨g0, g1, g2, g3, g4, -, -, -, -, -⟩ := id hS
                    clear gA gz vb
                    generalize w21.setCell ⟨g, A3, none⟩ (.int .i64 ((bump (bump f A1) A2) A3 + 1)) = w22 at *
                    have bd22 := bd21.bump A3
                    clear bd21
                    go_roundw
                    case rel => exact ⟨k + 1, _, by go_num, by omega, hS, HM.out⟩
                    case measure => simp [RowKit.intOf]; omega
                · skip
                  obtain ⟨rfl, rfl, -, m4⟩ := q4.1 rfl
                  clear q4
                  by_cases iz : i = 0
                  · obtain rfl : b5 = true := h5'.2 ⟨rfl, by omega⟩
                    have iz' : ((i : Int) == 0) = true := beq_iff_eq.2 (by omega)
                    clear h5'
                    have gA := hS.cell m1
                    have gz := hS.frozen A1
                    have vb := bd A1 m1
                    replace hS := hS.store m1
                    clear g0 g1 g2 g3 g4
                    go_upto_region 18 with fail
                    obtain ⟨g0, g1, g2, g3, g4, -, -, -, -, -⟩ := id hS
                    clear gA gz vb
                    generalize w7.setCell ⟨g, A1, none⟩ (.int .i64 (f A1 + 1)) = w20 at *
                    have bd20 := bd.bump A1
                    clear bd
                    have gA := hS.cell m2
                    have gz := hS.frozen A2
                    have vb := bd20 A2 m2
                    replace hS := hS.store m2
                    clear g0 g1 g2 g3 g4
                    go_upto_region 20 with fail
                    obtain ⟨g0, g1, g2, g3, g4, -, -, -, -, -⟩ := id hS
                    clear gA gz vb
                    generalize w20.setCell ⟨g, A2, none⟩ (.int .i64 ((bump f A1) A2 + 1)) = w21 at *
                    have bd21 := bd20.bump A2
                    clear bd20
                    have gA := hS.cell m3
                    have gz := hS.frozen A3
                    have vb := bd21 A3 m3
                    replace hS := hS.store m3
                    clear g0 g1 g2 g3 g4
                    go_upto_region 22 with fail
                    obtain ⟨g0, g1, g2, g3, g4, -, -, -, -, -⟩ := id hS
                    clear gA gz vb
                    generalize w21.setCell ⟨g, A3, none⟩ (.int .i64 ((bump (bump f A1) A2) A3 + 1)) = w22 at *
                    have bd22 := bd21.bump A3
                    clear bd21
                    have gA := hS.cell m4
                    have gz := hS.frozen A4
                    have vb := bd22 A4 m4
                    replace hS := hS.store m4
                    clear g0 g1 g2 g3 g4
                    go_wp2
                    obtain ⟨g0, g1, g2, g3, g4, -, -, -, -, -⟩ := id hS
                    clear gA gz vb
                    generalize w22.setCell ⟨g, A4, none⟩ (.int .i64 ((bump (bump (bump f A1) A2) A3) A4 + 1)) = w23 at *
                    have bd23 := bd22.bump A4
                    clear bd22
                    go_roundw
                    case rel => exact ⟨k + 1, _, by go_num, by omega, hS, HM.out⟩
                    case measure => simp [RowKit.intOf]; omega
                  · obtain rfl : b5 = false := by cases b5; rfl; exact absurd (h5'.1 rfl).2 (by omega)
                    have iz' : ((i : Int) == 0) = false := beq_eq_false_iff_ne.2 (by omega)
                    clear h5'
                    have gA := hS.cell m1
                    have gz := hS.frozen A1
                    have vb := bd A1 m1
                    replace hS := hS.store m1
                    clear g0 g1 g2 g3 g4
                    go_upto_region 18 with fail
                    obtain ⟨g0, g1, g2, g3, g4, -, -, -, -, -⟩ := id hS
                    clear gA gz vb
                    generalize w7.setCell ⟨g, A1, none⟩ (.int .i64 (f A1 + 1)) = w20 at *
                    have bd20 := bd.bump A1
                    clear bd
                    have gA := hS.cell m2
                    have gz := hS.frozen A2
                    have vb := bd20 A2 m2
                    replace hS := hS.store m2
                    clear g0 g1 g2 g3 g4
                    go_upto_region 20 with fail
                    obtain ⟨g0, g1, g2, g3, g4, -, -, -, -, -⟩ := id hS
                    clear gA gz vb
                    generalize w20.setCell ⟨g, A2, none⟩ (.int .i64 ((bump f A1) A2 + 1)) = w21 at *
                    have bd21 := bd20.bump A2
                    clear bd20
                    have gA := hS.cell m3
                    have gz := hS.frozen A3
                    have vb := bd21 A3 m3
                    replace hS := hS.store m3
                    clear g0 g1 g2 g3 g4
                    go_wp2
                    obtain ⟨g0, g1, g2, g3, g4, -, -, -, -, -⟩ := id hS
                    clear gA gz vb
                    generalize w21.setCell ⟨g, A3, none⟩ (.int .i64 ((bump (bump f A1) A2) A3 + 1)) = w22 at *
                    have bd22 := bd21.bump A3
                    clear bd21
                    go_roundw
                    case rel => exact ⟨k + 1, _, by go_num, by omega, hS, HM.out⟩
                    case measure => simp [RowKit.intOf]; omega
        · have kk : ¬ (k : Int) < 30 := by omega
          obtain rfl : k = 30 := by omega
          go_wp2
          go_roundw
          case rel => exact ⟨i + 1, f, by go_num, by omega, hS, by rwa [show 30 * ((i + 1 : Nat) : Int) + 0 = 30 * (i : Int) + (30 : Nat) by omega]⟩
          case measure => simp [RowKit.intOf]; omega
    · have ii : ¬ (i : Int) < 4 := by omega
      obtain rfl : i = 4 := by omega
      have H1 : Hid (∀ x, x < N → f x = 1) := Lib.hid fun x hx => Met.all ho HN.out hM hx
      clear hM
      go_wp2
      go_loop [25] (fun j => ∃ j0 : Nat, j = .int .i64 j0 ∧ j0 ≤ N) (fun j => N - (RowKit.intOf j).toNat)
      case atStart => exact ⟨0, rfl, by omega⟩
      case round =>
        obtain ⟨j, rfl, hj⟩ := hrel
        by_cases hjN : j < N
        · have jj : (j : Int) < (N : Int) := by omega
          have gj := hS.cell hjN
          rw [H1.out j hjN] at gj
          go_wp2
          go_round
          case rel => exact ⟨j + 1, by go_num, by omega⟩
          case measure => simp [RowKit.intOf]; omega
        · have jj : ¬ (j : Int) < (N : Int) := by omega
          go_wp2_with (first
            | (go_at_call 20; (with_reducible refine (wakes_any _).mono ?_); rintro e w9 ⟨rfl, hb9⟩))
          go_ret
          exact ⟨rfl, bt hS.hw hb9⟩
end Go.Proofs.Ytjadbekefonhlaa.gmt
