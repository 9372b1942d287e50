/-
  GeomExact walked: all that package geom answers of any geometry is the document's. Conditions: none.
-/
import Derived.Test.YtjadbekefonhlaaGmK
namespace Go.Proofs.Ytjadbekefonhlaa.gmt
open Go.RowKit Go.Lib

set_option maxRecDepth 100000 in
set_option maxHeartbeats 8000000 in
theorem exact_ok (z d s l a i j k : Int) (w : World) (ho : Ok z d s l a) :
    Calls Try.prog 3 #[.agg #[.int .i64 z, .int .i64 d, .int .i64 s, .int .i64 l, .int .i64 a], .int .i64 i, .int .i64 j, .int .i64 k] w fun e w' => e = .returned (.bool true) ∧ Below w.heap.size w w' := by
  have hB := Bx.new w z d s l a
  obtain ⟨g0, g1, g2, g3, g4, -, -⟩ := id hB
  obtain ⟨h1, h2, h3, h4, h5⟩ := id ho
  have hp := per_le ho
  have hq := mul_le (i := z) (n := 4) (P := 7) (by omega) (by omega) (by omega) hp.2
  have hzd := mul_le (i := z) (n := 4) (p := d) (P := 4) (by omega) (by omega) (by omega) (by omega)
  obtain ⟨n1, e1, t1⟩ := told_of (0 ≤ i ∧ i < a) i 1
  obtain ⟨n2, e2, t2⟩ := told_of ((0 ≤ i ∧ i < 2) ∧ 0 ≤ j ∧ j < l) (a + i * l + j) 1
  obtain ⟨n3, e3, t3⟩ := told_of ((0 ≤ i ∧ i < z) ∧ 0 ≤ j ∧ j < 2) (a + 2 * l + i * 2 + j) 1
  obtain ⟨n4, e4, t4⟩ := told_of ((0 ≤ i ∧ i < z) ∧ 0 ≤ j ∧ j < d + 1 + s) (a + 2 * l + 2 * z + i * (d + 1 + s) + j) 1
  obtain ⟨n5, e5, t5⟩ := told_of (0 ≤ k ∧ k < a + 2 * l + 2 * z + z * (d + 1 + s)) (setN z d s l a k) 1
  obtain ⟨q1, q2, e6, t6, t6'⟩ : ∃ q1 q2 e6, Told (0 ≤ k ∧ k < z * d) (k / d) 17 q1 e6 ∧ Told (0 ≤ k ∧ k < z * d) (k % d) 17 q2 e6 := by
    by_cases h : 0 ≤ k ∧ k < z * d
    · exact ⟨k / d, k % d, 0, ⟨fun _ => ⟨rfl, rfl⟩, fun x => absurd h x⟩, fun _ => ⟨rfl, rfl⟩, fun x => absurd h x⟩
    · exact ⟨0, 0, 17, ⟨fun x => absurd x h, fun _ => ⟨rfl, rfl⟩⟩, fun x => absurd x h, fun _ => ⟨rfl, rfl⟩⟩
  have cN := fun W => cells_ok z d s l a W ho
  have rN := fun W => rcells_at z d s l a W ho
  have cM := fun W => blocks_ok z d s l a W ho
  have cS := fun W => set_at z d s l a k n5 e5 W ho t5
  have cP := fun W => split_at z d s l a k q1 q2 e6 W ho ⟨t6, t6'⟩
  have cQ := fun W => sets_ok z d s l a W ho
  rw [show z + l + z + 1 = 2 * z + l + 1 by omega] at cQ
  have rS := fun (W : World) (h : 0 ≤ k ∧ k < a + 2 * l + 2 * z + z * (d + 1 + s)) => rset_at z d s l a k W ho h
  replace t1 := Lib.hid t1
  replace t2 := Lib.hid t2
  replace t3 := Lib.hid t3
  replace t4 := Lib.hid t4
  obtain ⟨N, hN⟩ : ∃ N, a + 2 * l + 2 * z + z * (d + 1 + s) = N := ⟨_, rfl⟩
  rw [hN] at cN rN t5 rS
  obtain ⟨M, hM⟩ : ∃ M, z * d = M := ⟨_, rfl⟩
  rw [hM] at cM t6 t6' hzd
  replace t5 := Lib.hid t5
  replace t6 := Lib.hid t6
  replace t6' := Lib.hid t6'
  have x1 : (N != N) = false := bne_self_eq_false _
  have x2 : (M != M) = false := bne_self_eq_false _
  have x3 : (2 * z + l + 1 != 2 * z + l + 1) = false := bne_self_eq_false _
  clear hN hq
  go_enter Try.func3, Try.ntmps3
  go_upto_region 1 with fail
  generalize w.alloc (.cells #[.int .i64 z, .int .i64 d, .int .i64 s, .int .i64 l, .int .i64 a] 23) = w0 at *
  go_upto_region 17 with (first
    | (go_at_call 9; (with_reducible refine (rgeo_ok z d s l a _ ho).mono ?_); rintro e w10 ⟨rfl, hb10⟩; replace hB := hB.below hb10; clear g0 g1 g2 g3 g4; obtain ⟨g0, g1, g2, g3, g4, -, -⟩ := id hB)
    | (go_at_call 10; (with_reducible refine (check_ok z d s l a _ ho).mono ?_); rintro e w11 ⟨rfl, hb11⟩; replace hB := hB.below hb11; clear g0 g1 g2 g3 g4; obtain ⟨g0, g1, g2, g3, g4, -, -⟩ := id hB)
    | (go_at_call 11; (with_reducible refine (cN _).mono ?_); rintro e w12 ⟨rfl, hb12⟩; replace hB := hB.below hb12; clear g0 g1 g2 g3 g4; obtain ⟨g0, g1, g2, g3, g4, -, -⟩ := id hB)
    | (go_at_call 12; (with_reducible refine (cM _).mono ?_); rintro e w13 ⟨rfl, hb13⟩; replace hB := hB.below hb13; clear g0 g1 g2 g3 g4; obtain ⟨g0, g1, g2, g3, g4, -, -⟩ := id hB)
    | (go_at_call 13; (with_reducible refine (anchor_at z d s l a i n1 e1 _ ho t1.out).mono ?_); rintro e w14 ⟨rfl, hb14⟩; replace hB := hB.below hb14; clear g0 g1 g2 g3 g4; obtain ⟨g0, g1, g2, g3, g4, -, -⟩ := id hB)
    | (go_at_call 14; (with_reducible refine (log_at z d s l a i j n2 e2 _ ho t2.out).mono ?_); rintro e w15 ⟨rfl, hb15⟩; replace hB := hB.below hb15; clear g0 g1 g2 g3 g4; obtain ⟨g0, g1, g2, g3, g4, -, -⟩ := id hB)
    | (go_at_call 15; (with_reducible refine (table_at z d s l a i j n3 e3 _ ho t3.out).mono ?_); rintro e w16 ⟨rfl, hb16⟩; replace hB := hB.below hb16; clear g0 g1 g2 g3 g4; obtain ⟨g0, g1, g2, g3, g4, -, -⟩ := id hB)
    | (go_at_call 16; (with_reducible refine (slot_at z d s l a i j n4 e4 _ ho t4.out).mono ?_); rintro e w17 ⟨rfl, hb17⟩; replace hB := hB.below hb17; clear g0 g1 g2 g3 g4; obtain ⟨g0, g1, g2, g3, g4, -, -⟩ := id hB)
    | (go_at_call 17; (with_reducible refine (cS _).mono ?_); rintro e w18 ⟨rfl, hb18⟩; replace hB := hB.below hb18; clear g0 g1 g2 g3 g4; obtain ⟨g0, g1, g2, g3, g4, -, -⟩ := id hB)
    | (go_at_call 18; (with_reducible refine (cQ _).mono ?_); rintro e w19 ⟨rfl, hb19⟩; replace hB := hB.below hb19; clear g0 g1 g2 g3 g4; obtain ⟨g0, g1, g2, g3, g4, -, -⟩ := id hB)
    | (go_at_call 19; (with_reducible refine (cP _).mono ?_); rintro e w20 ⟨rfl, hb20⟩; replace hB := hB.below hb20; clear g0 g1 g2 g3 g4; obtain ⟨g0, g1, g2, g3, g4, -, -⟩ := id hB)
    | (go_at_call 21; (with_reducible refine (rN _).mono ?_); rintro e w21 ⟨rfl, hb21⟩; replace hB := hB.below hb21; clear g0 g1 g2 g3 g4; obtain ⟨g0, g1, g2, g3, g4, -, -⟩ := id hB))
  clear cN rN cM cS cP cQ x1 x2 x3 hM g0 g1 g2 g3 g4
  go_cut [210] from 381 (fun v wc => v = .bool false ∧ Bx w wc w.heap.size z d s l a)
  case first =>
    obtain ⟨g0, g1, g2, g3, g4, -, -⟩ := id hB
    by_cases i0 : 0 ≤ i
    · by_cases i1 : i < a
      · obtain ⟨hn, rfl⟩ := t1.out.1 ⟨i0, i1⟩
        subst n1
        clear t1
        go_wp2_with (go_at_call 22; (with_reducible refine (told_yes _ _ _).mono ?_); rintro e wt ⟨rfl, rfl⟩)
        go_meet
        case rel => exact ⟨rfl, hB⟩
      · obtain ⟨rfl, rfl⟩ := t1.out.2 (by omega)
        clear t1
        go_wp2_with (go_at_call 22; (with_reducible refine (told_no _ _ _).mono ?_); rintro e wt ⟨rfl, rfl⟩)
        go_meet
        case rel => exact ⟨rfl, hB⟩
    · obtain ⟨rfl, rfl⟩ := t1.out.2 (by omega)
      clear t1
      go_wp2_with (go_at_call 22; (with_reducible refine (told_no _ _ _).mono ?_); rintro e wt ⟨rfl, rfl⟩)
      go_meet
      case rel => exact ⟨rfl, hB⟩
  case' rest =>
    obtain ⟨W1, rfl⟩ : ∃ x, x = wc := ⟨wc, rfl⟩
    obtain ⟨hv, hB'⟩ := hcut
    replace hB := hB'
    clear hB'
    subst hv
    clear t1
  go_upto_region 19 with fail
  go_cut [29] from 381 (fun v wc => (∃ c : Bool, v = .bool c ∧ (c = true ↔ (0 ≤ i ∧ i < 2) ∧ 0 ≤ j ∧ j < l)) ∧ Bx w wc w.heap.size z d s l a)
  case first =>
    obtain ⟨g0, g1, g2, g3, g4, -, -⟩ := id hB
    by_cases y0 : i = 0
    · have z0 : (i == 0) = true := beq_iff_eq.2 (by omega)
      have Hy0 := Lib.hid y0
      clear y0
      by_cases j0 : 0 ≤ j
      · by_cases j1 : j < l
        · skip
          go_wp2
          have y0 := Hy0.out
          go_meet
          case rel => exact ⟨⟨true, (by first | rfl | (simp; omega)), iff_of_true rfl (by omega)⟩, hB⟩
        · skip
          go_wp2
          have y0 := Hy0.out
          go_meet
          case rel => exact ⟨⟨false, (by first | rfl | (simp; omega)), iff_of_false Bool.false_ne_true (by omega)⟩, hB⟩
      · skip
        go_wp2
        have y0 := Hy0.out
        go_meet
        case rel => exact ⟨⟨false, (by first | rfl | (simp; omega)), iff_of_false Bool.false_ne_true (by omega)⟩, hB⟩
    · have z0 : (i == 0) = false := beq_eq_false_iff_ne.2 (by omega)
      by_cases y1 : i = 1
      · have z1 : (i == 1) = true := beq_iff_eq.2 (by omega)
        have Hy0 := Lib.hid y0
        clear y0
        have Hy1 := Lib.hid y1
        clear y1
        by_cases j0 : 0 ≤ j
        · by_cases j1 : j < l
          · skip
            go_wp2
            have y0 := Hy0.out
            have y1 := Hy1.out
            go_meet
            case rel => exact ⟨⟨true, (by first | rfl | (simp; omega)), iff_of_true rfl (by omega)⟩, hB⟩
          · skip
            go_wp2
            have y0 := Hy0.out
            have y1 := Hy1.out
            go_meet
            case rel => exact ⟨⟨false, (by first | rfl | (simp; omega)), iff_of_false Bool.false_ne_true (by omega)⟩, hB⟩
        · skip
          go_wp2
          have y0 := Hy0.out
          have y1 := Hy1.out
          go_meet
          case rel => exact ⟨⟨false, (by first | rfl | (simp; omega)), iff_of_false Bool.false_ne_true (by omega)⟩, hB⟩
      · have z1 : (i == 1) = false := beq_eq_false_iff_ne.2 (by omega)
        have Hy0 := Lib.hid y0
        clear y0
        have Hy1 := Lib.hid y1
        clear y1
        go_wp2
        have y0 := Hy0.out
        have y1 := Hy1.out
        go_meet
        case rel => exact ⟨⟨false, (by first | rfl | (simp; omega)), iff_of_false Bool.false_ne_true (by omega)⟩, hB⟩
  case' rest =>
    obtain ⟨W2, rfl⟩ : ∃ x, x = wc := ⟨wc, rfl⟩
    obtain ⟨hv, hB'⟩ := hcut
    replace hB := hB'
    clear hB'
    obtain ⟨c, rfl, hc⟩ := hv
  go_upto_region 20 with fail
  go_cut [247] from 381 (fun v wc => v = .bool false ∧ Bx w wc w.heap.size z d s l a)
  case first =>
    obtain ⟨g0, g1, g2, g3, g4, -, -⟩ := id hB
    cases c
    · obtain ⟨rfl, rfl⟩ := t2.out.2 (fun h => Bool.false_ne_true (hc.2 h))
      clear t2 hc
      go_wp2_with (go_at_call 22; (with_reducible refine (told_no _ _ _).mono ?_); rintro e wt ⟨rfl, rfl⟩)
      go_meet
      case rel => exact ⟨rfl, hB⟩
    · have hR := hc.1 rfl
      obtain ⟨hn, rfl⟩ := t2.out.1 hR
      subst n2
      have cr := fun W => rlog_at z d s l a i j W ho hR.1 hR.2
      clear t2 hc
      go_wp2_with (first
        | (go_at_call 23; (with_reducible refine (cr _).mono ?_); rintro e w3 ⟨rfl, hb3⟩; replace hB := hB.below hb3)
        | (go_at_call 22; (with_reducible refine (told_yes _ _ _).mono ?_); rintro e wt ⟨rfl, rfl⟩))
      go_meet
      case rel => exact ⟨rfl, hB⟩
  case' rest =>
    obtain ⟨W3, rfl⟩ : ∃ x, x = wc := ⟨wc, rfl⟩
    obtain ⟨hv, hB'⟩ := hcut
    replace hB := hB'
    clear hB'
    subst hv
    clear t2 hc
  go_upto_region 22 with fail
  go_cut [29] from 381 (fun v wc => (∃ c : Bool, v = .bool c ∧ (c = true ↔ (0 ≤ i ∧ i < z) ∧ 0 ≤ j ∧ j < 2)) ∧ Bx w wc w.heap.size z d s l a)
  case first =>
    obtain ⟨g0, g1, g2, g3, g4, -, -⟩ := id hB
    by_cases i0 : 0 ≤ i
    · by_cases i1 : i < z
      · skip
        by_cases y0 : j = 0
        · have z0 : (j == 0) = true := beq_iff_eq.2 (by omega)
          have Hy0 := Lib.hid y0
          clear y0
          go_wp2
          have y0 := Hy0.out
          go_meet
          case rel => exact ⟨⟨true, (by first | rfl | (simp; omega)), iff_of_true rfl (by omega)⟩, hB⟩
        · have z0 : (j == 0) = false := beq_eq_false_iff_ne.2 (by omega)
          by_cases y1 : j = 1
          · have z1 : (j == 1) = true := beq_iff_eq.2 (by omega)
            have Hy0 := Lib.hid y0
            clear y0
            have Hy1 := Lib.hid y1
            clear y1
            go_wp2
            have y0 := Hy0.out
            have y1 := Hy1.out
            go_meet
            case rel => exact ⟨⟨true, (by first | rfl | (simp; omega)), iff_of_true rfl (by omega)⟩, hB⟩
          · have z1 : (j == 1) = false := beq_eq_false_iff_ne.2 (by omega)
            have Hy0 := Lib.hid y0
            clear y0
            have Hy1 := Lib.hid y1
            clear y1
            go_wp2
            have y0 := Hy0.out
            have y1 := Hy1.out
            go_meet
            case rel => exact ⟨⟨false, (by first | rfl | (simp; omega)), iff_of_false Bool.false_ne_true (by omega)⟩, hB⟩
      · skip
        go_wp2
        go_meet
        case rel => exact ⟨⟨false, (by first | rfl | (simp; omega)), iff_of_false Bool.false_ne_true (by omega)⟩, hB⟩
    · skip
      go_wp2
      go_meet
      case rel => exact ⟨⟨false, (by first | rfl | (simp; omega)), iff_of_false Bool.false_ne_true (by omega)⟩, hB⟩
  case' rest =>
    obtain ⟨W4, rfl⟩ : ∃ x, x = wc := ⟨wc, rfl⟩
    obtain ⟨hv, hB'⟩ := hcut
    replace hB := hB'
    clear hB'
    obtain ⟨c, rfl, hc⟩ := hv
  go_upto_region 23 with fail
  go_cut [284] from 381 (fun v wc => v = .bool false ∧ Bx w wc w.heap.size z d s l a)
  case first =>
    obtain ⟨g0, g1, g2, g3, g4, -, -⟩ := id hB
    cases c
    · obtain ⟨rfl, rfl⟩ := t3.out.2 (fun h => Bool.false_ne_true (hc.2 h))
      clear t3 hc
      go_wp2_with (go_at_call 22; (with_reducible refine (told_no _ _ _).mono ?_); rintro e wt ⟨rfl, rfl⟩)
      go_meet
      case rel => exact ⟨rfl, hB⟩
    · have hR := hc.1 rfl
      obtain ⟨hn, rfl⟩ := t3.out.1 hR
      subst n3
      have cr := fun W => (show Calls Try.prog 24 #[.agg #[.int .i64 z, .int .i64 d, .int .i64 s, .int .i64 l, .int .i64 a], .int .i64 i, .int .i64 j] W fun r w' => r = .returned (.int .i64 (a + 2 * l + i * 2 + j)) ∧ Below W.heap.size W w' by have := rtab_at z d s l a i j W ho hR.1 hR.2; rwa [show 2 * i = i * 2 by omega] at this)
      clear t3 hc
      go_wp2_with (first
        | (go_at_call 24; (with_reducible refine (cr _).mono ?_); rintro e w3 ⟨rfl, hb3⟩; replace hB := hB.below hb3)
        | (go_at_call 22; (with_reducible refine (told_yes _ _ _).mono ?_); rintro e wt ⟨rfl, rfl⟩))
      go_meet
      case rel => exact ⟨rfl, hB⟩
  case' rest =>
    obtain ⟨W5, rfl⟩ : ∃ x, x = wc := ⟨wc, rfl⟩
    obtain ⟨hv, hB'⟩ := hcut
    replace hB := hB'
    clear hB'
    subst hv
    clear t3 hc
  go_upto_region 25 with fail
  go_cut [29] from 381 (fun v wc => (∃ c : Bool, v = .bool c ∧ (c = true ↔ (0 ≤ i ∧ i < z) ∧ 0 ≤ j ∧ j < d + 1 + s)) ∧ Bx w wc w.heap.size z d s l a)
  case first =>
    obtain ⟨g0, g1, g2, g3, g4, -, -⟩ := id hB
    by_cases i0 : 0 ≤ i
    · by_cases i1 : i < z
      · skip
        by_cases j0 : 0 ≤ j
        · by_cases j1 : j < d + 1 + s
          · skip
            go_wp2_with (go_at_call 25; (with_reducible refine (rper_at z d s l a _ ho).mono ?_); rintro e w3 ⟨rfl, hb3⟩; replace hB := hB.below hb3)
            go_meet
            case rel => exact ⟨⟨true, (by first | rfl | (simp; omega)), iff_of_true rfl (by omega)⟩, hB⟩
          · skip
            go_wp2_with (go_at_call 25; (with_reducible refine (rper_at z d s l a _ ho).mono ?_); rintro e w3 ⟨rfl, hb3⟩; replace hB := hB.below hb3)
            go_meet
            case rel => exact ⟨⟨false, (by first | rfl | (simp; omega)), iff_of_false Bool.false_ne_true (by omega)⟩, hB⟩
        · skip
          go_wp2
          go_meet
          case rel => exact ⟨⟨false, (by first | rfl | (simp; omega)), iff_of_false Bool.false_ne_true (by omega)⟩, hB⟩
      · skip
        go_wp2
        go_meet
        case rel => exact ⟨⟨false, (by first | rfl | (simp; omega)), iff_of_false Bool.false_ne_true (by omega)⟩, hB⟩
    · skip
      go_wp2
      go_meet
      case rel => exact ⟨⟨false, (by first | rfl | (simp; omega)), iff_of_false Bool.false_ne_true (by omega)⟩, hB⟩
  case' rest =>
    obtain ⟨W6, rfl⟩ : ∃ x, x = wc := ⟨wc, rfl⟩
    obtain ⟨hv, hB'⟩ := hcut
    replace hB := hB'
    clear hB'
    obtain ⟨c, rfl, hc⟩ := hv
  go_upto_region 26 with fail
  go_cut [323] from 381 (fun v wc => v = .bool false ∧ Bx w wc w.heap.size z d s l a)
  case first =>
    obtain ⟨g0, g1, g2, g3, g4, -, -⟩ := id hB
    cases c
    · obtain ⟨rfl, rfl⟩ := t4.out.2 (fun h => Bool.false_ne_true (hc.2 h))
      clear t4 hc
      go_wp2_with (go_at_call 22; (with_reducible refine (told_no _ _ _).mono ?_); rintro e wt ⟨rfl, rfl⟩)
      go_meet
      case rel => exact ⟨rfl, hB⟩
    · have hR := hc.1 rfl
      obtain ⟨hn, rfl⟩ := t4.out.1 hR
      subst n4
      have cr := fun W => rslot_at z d s l a i j W ho hR.1 hR.2
      clear t4 hc
      go_wp2_with (first
        | (go_at_call 26; (with_reducible refine (cr _).mono ?_); rintro e w3 ⟨rfl, hb3⟩; replace hB := hB.below hb3)
        | (go_at_call 22; (with_reducible refine (told_yes _ _ _).mono ?_); rintro e wt ⟨rfl, rfl⟩))
      go_meet
      case rel => exact ⟨rfl, hB⟩
  case' rest =>
    obtain ⟨W7, rfl⟩ : ∃ x, x = wc := ⟨wc, rfl⟩
    obtain ⟨hv, hB'⟩ := hcut
    replace hB := hB'
    clear hB'
    subst hv
    clear t4 hc
  go_upto_region 28 with fail
  go_cut [330] from 381 (fun v wc => (∃ c : Bool, v = .bool c ∧ (c = true ↔ ¬ (0 ≤ k ∧ k < N))) ∧ Bx w wc w.heap.size z d s l a)
  case first =>
    obtain ⟨g0, g1, g2, g3, g4, -, -⟩ := id hB
    by_cases k0 : 0 ≤ k
    · by_cases k1 : k < N
      · skip
        go_wp2
        go_meet
        case rel => exact ⟨⟨false, (by first | rfl | (simp; omega)), iff_of_false Bool.false_ne_true (by omega)⟩, hB⟩
      · skip
        go_wp2
        go_meet
        case rel => exact ⟨⟨true, (by first | rfl | (simp; omega)), iff_of_true rfl (by omega)⟩, hB⟩
    · skip
      go_wp2
      go_meet
      case rel => exact ⟨⟨true, (by first | rfl | (simp; omega)), iff_of_true rfl (by omega)⟩, hB⟩
  case' rest =>
    obtain ⟨W8, rfl⟩ : ∃ x, x = wc := ⟨wc, rfl⟩
    obtain ⟨hv, hB'⟩ := hcut
    replace hB := hB'
    clear hB'
    obtain ⟨c, rfl, hc⟩ := hv
    go_upto_if 330 with fail
    go_cut [] from 381 (fun wc => Bx w wc w.heap.size z d s l a)
    case first =>
      obtain ⟨g0, g1, g2, g3, g4, -, -⟩ := id hB
      cases c
      · have hR : 0 ≤ k ∧ k < N := Classical.not_not.1 fun h => Bool.false_ne_true (hc.2 h)
        obtain ⟨hn, rfl⟩ := t5.out.1 hR
        subst n5
        have cr := fun W => rS W hR
        clear t5 rS hc
        go_wp2_with (first
          | (go_at_call 27; (with_reducible refine (cr _).mono ?_); rintro e w3 ⟨rfl, hb3⟩; replace hB := hB.below hb3)
          | (go_at_call 22; (with_reducible refine (told_yes _ _ _).mono ?_); rintro e wt ⟨rfl, rfl⟩))
        go_meet
        case rel => exact hB
      · obtain ⟨rfl, rfl⟩ := t5.out.2 (hc.1 rfl)
        clear t5 rS hc
        go_wp2_with (go_at_call 22; (with_reducible refine (told_no _ _ _).mono ?_); rintro e wt ⟨rfl, rfl⟩)
        go_meet
        case rel => exact hB
    case' rest =>
      obtain ⟨W9, rfl⟩ : ∃ x, x = wc := ⟨wc, rfl⟩
      replace hB := hcut
      clear hcut t5 rS hc
  go_upto_region 33 with fail
  go_cut [348] from 381 (fun v wc => (∃ c : Bool, v = .bool c ∧ (c = true ↔ ¬ (0 ≤ k ∧ k < M))) ∧ Bx w wc w.heap.size z d s l a)
  case first =>
    obtain ⟨g0, g1, g2, g3, g4, -, -⟩ := id hB
    by_cases k0 : 0 ≤ k
    · by_cases k1 : k < M
      · skip
        go_wp2
        go_meet
        case rel => exact ⟨⟨false, (by first | rfl | (simp; omega)), iff_of_false Bool.false_ne_true (by omega)⟩, hB⟩
      · skip
        go_wp2
        go_meet
        case rel => exact ⟨⟨true, (by first | rfl | (simp; omega)), iff_of_true rfl (by omega)⟩, hB⟩
    · skip
      go_wp2
      go_meet
      case rel => exact ⟨⟨true, (by first | rfl | (simp; omega)), iff_of_true rfl (by omega)⟩, hB⟩
  case' rest =>
    obtain ⟨W10, rfl⟩ : ∃ x, x = wc := ⟨wc, rfl⟩
    obtain ⟨hv, hB'⟩ := hcut
    replace hB := hB'
    clear hB'
    obtain ⟨c, rfl, hc⟩ := hv
    obtain ⟨g0, g1, g2, g3, g4, -, -⟩ := id hB
    cases c
    · have hR : 0 ≤ k ∧ k < M := Classical.not_not.1 fun h => Bool.false_ne_true (hc.2 h)
      obtain ⟨hn, rfl⟩ := t6.out.1 hR
      obtain ⟨hm, -⟩ := t6'.out.1 hR
      subst q1 q2
      have y1 : (k / d == k / d) = true := beq_self_eq_true _
      have y2 : (k % d == k % d) = true := beq_self_eq_true _
      have y3 : (d == 0) = false := beq_eq_false_iff_ne.2 (by omega)
      have k0 := hR.1
      clear t6 t6' hc
      go_wp2_with (first
        | (go_at_call 20; (with_reducible refine (wakes_any _).mono ?_); rintro e w3 ⟨rfl, hb3⟩; replace hB := hB.below hb3))
      go_ret
      exact ⟨rfl, hB.hw⟩
    · obtain ⟨rfl, rfl⟩ := t6.out.2 (hc.1 rfl)
      obtain ⟨rfl, -⟩ := t6'.out.2 (hc.1 rfl)
      clear t6 t6' hc
      go_wp2_with (first
        | (go_at_call 20; (with_reducible refine (wakes_any _).mono ?_); rintro e w3 ⟨rfl, hb3⟩; replace hB := hB.below hb3))
      go_ret
      exact ⟨rfl, hB.hw⟩
theorem geomexact_law (z d s l a i j k : Int) (w : World) :
    Calls Try.prog 3 #[.agg #[.int .i64 z, .int .i64 d, .int .i64 s, .int .i64 l, .int .i64 a], .int .i64 i, .int .i64 j, .int .i64 k] w fun e w' => e = .returned (.bool true) ∧ Below w.heap.size w w' := by
  by_cases ho : Ok z d s l a
  · exact exact_ok z d s l a i j k w ho
  · exact exact_no z d s l a i j k w ho
end Go.Proofs.Ytjadbekefonhlaa.gmt
