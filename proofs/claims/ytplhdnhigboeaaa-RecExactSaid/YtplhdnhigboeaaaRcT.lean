/-
  The document's own answer: is a record right (Rec). Conditions: a right geometry.
-/
import Derived.Test.YtplhdnhigboeaaaRcS
namespace Go.Proofs.Ytplhdnhigboeaaa.lrc
open Go.RowKit Go.Lib
open Go.Proofs.Ytplhdnhigboeaaa.gmt (Ok)
open Go.Proofs.Ytplhdnhigboeaaa.anc (bl kal kst ks bm ka)
open Go.Proofs.Ytplhdnhigboeaaa.tbl (C1 c1_new G5 g5_new)
open Go.Proofs.Ytplhdnhigboeaaa.img

set_option maxRecDepth 100000 in
set_option maxHeartbeats 8000000 in
theorem rrec_c (c : Bool) (z d s l a : Int) (r : RcR) (n : Nat) (w : World) (ho : Ok z d s l a) (hx : BIn w w.heap.size r.i) (hn : r.i.l.length = n) (hn1 : n ≤ 1048576) (hc : c = true ↔ RecOk z d r.d) :
    Calls Try.prog 25 #[.agg #[.int .i64 z, .int .i64 d, .int .i64 s, .int .i64 l, .int .i64 a], .agg #[.int .i64 r.kd, .int .i64 r.sq, .int .i64 r.ep, .int .i64 r.ps, .int .i64 r.nm, .int .i64 r.i.z, .int .i64 r.i.wh, .slice r.i.A n r.i.c]] w fun e w' => e = .returned (.bool c) ∧ Below w.heap.size w w' := by
  have s1 : (w.alloc (.cells #[.int .i64 z, .int .i64 d, .int .i64 s, .int .i64 l, .int .i64 a] 23)).heap.size = w.heap.size + 1 := by simp
  have hx2 := bl (w.alloc (.cells #[.int .i64 z, .int .i64 d, .int .i64 s, .int .i64 l, .int .i64 a] 23)) (.cells #[.int .i64 r.kd, .int .i64 r.sq, .int .i64 r.ep, .int .i64 r.ps, .int .i64 r.nm, .int .i64 r.i.z, .int .i64 r.i.wh, .slice r.i.A n r.i.c] 28)
  have GG := (g5_new w z d s l a).keep hx2 (by omega)
  have XX := c8_new (w.alloc (.cells #[.int .i64 z, .int .i64 d, .int .i64 s, .int .i64 l, .int .i64 a] 23)) (.int .i64 r.kd) (.int .i64 r.sq) (.int .i64 r.ep) (.int .i64 r.ps) (.int .i64 r.nm) (.int .i64 r.i.z) (.int .i64 r.i.wh) (.slice r.i.A n r.i.c) 28
  rw [s1] at XX
  have hw := kal (bl w (.cells #[.int .i64 z, .int .i64 d, .int .i64 s, .int .i64 l, .int .i64 a] 23)) (.cells #[.int .i64 r.kd, .int .i64 r.sq, .int .i64 r.ep, .int .i64 r.ps, .int .i64 r.nm, .int .i64 r.i.z, .int .i64 r.i.wh, .slice r.i.A n r.i.c] 28)
  have l2 : ((w.alloc (.cells #[.int .i64 z, .int .i64 d, .int .i64 s, .int .i64 l, .int .i64 a] 23)).alloc (.cells #[.int .i64 r.kd, .int .i64 r.sq, .int .i64 r.ep, .int .i64 r.ps, .int .i64 r.nm, .int .i64 r.i.z, .int .i64 r.i.wh, .slice r.i.A n r.i.c] 28)).heap.size = w.heap.size + 2 := by simp
  have HX := Lib.hid (hx.next hw)
  have HC := Lib.hid hc
  have HO := Lib.hid ho
  have HN := Lib.hid hn
  obtain ⟨bn, hbn⟩ := bool_of (None8 r.d)
  obtain ⟨b1, hb1⟩ := bool_of (0 ≤ r.sq ∧ r.sq ≤ 4294967295)
  obtain ⟨b2, hb2⟩ := bool_of (0 ≤ r.ep ∧ r.ep ≤ 4294967295)
  obtain ⟨b3, hb3⟩ := bool_of (2 ≤ r.nm ∧ r.nm ≤ 30)
  obtain ⟨b4, hb4⟩ := bool_of (0 ≤ r.ps ∧ r.ps ≤ r.nm - 2)
  obtain ⟨bi, hbi⟩ := bool_of (ImOk z d r.i.z r.i.wh r.i.l)
  have HKI := Lib.hid (show Calls Try.prog 30 #[.agg #[.int .i64 r.i.z, .int .i64 r.i.wh, .slice r.i.A n r.i.c], .agg #[.int .i64 0, .int .i64 0, .slice none 0 0]] ((w.alloc (.cells #[.int .i64 z, .int .i64 d, .int .i64 s, .int .i64 l, .int .i64 a] 23)).alloc (.cells #[.int .i64 r.kd, .int .i64 r.sq, .int .i64 r.ep, .int .i64 r.ps, .int .i64 r.nm, .int .i64 r.i.z, .int .i64 r.i.wh, .slice r.i.A n r.i.c] 28)) fun e w' => e = .returned (.bool bn) ∧ Below ((w.alloc (.cells #[.int .i64 z, .int .i64 d, .int .i64 s, .int .i64 l, .int .i64 a] 23)).alloc (.cells #[.int .i64 r.kd, .int .i64 r.sq, .int .i64 r.ep, .int .i64 r.ps, .int .i64 r.nm, .int .i64 r.i.z, .int .i64 r.i.wh, .slice r.i.A n r.i.c] 28)).heap.size ((w.alloc (.cells #[.int .i64 z, .int .i64 d, .int .i64 s, .int .i64 l, .int .i64 a] 23)).alloc (.cells #[.int .i64 r.kd, .int .i64 r.sq, .int .i64 r.ep, .int .i64 r.ps, .int .i64 r.nm, .int .i64 r.i.z, .int .i64 r.i.wh, .slice r.i.A n r.i.c] 28)) w' from by
    have h9 := img_c (decide (r.i.l = [])) r.i.z r.i.wh 0 0 r.i.A none n 0 r.i.c 0 ((w.alloc (.cells #[.int .i64 z, .int .i64 d, .int .i64 s, .int .i64 l, .int .i64 a] 23)).alloc (.cells #[.int .i64 r.kd, .int .i64 r.sq, .int .i64 r.ep, .int .i64 r.ps, .int .i64 r.nm, .int .i64 r.i.z, .int .i64 r.i.wh, .slice r.i.A n r.i.c] 28)) fun W hW => by
      have h10 := keep_bin r.i ⟨0, 0, none, 0, []⟩ W ((hx.next hw).next hW) ⟨Sl.nil _ _ _, Nat.le_refl 0, Nat.zero_le _⟩ (by omega)
      rw [hn] at h10
      exact h10
    have he : (decide (r.i.z = 0) && (decide (r.i.wh = 0) && decide (r.i.l = []))) = bn := by
      rw [Bool.eq_iff_iff, hbn]
      unfold None8 RcR.d
      simp only [Bool.and_eq_true, decide_eq_true_eq]
    rw [he] at h9
    exact h9)
  have I1 := Lib.hid fun W => in15 b1 r.sq 0 4294967295 W hb1
  have I2 := Lib.hid fun W => in15 b2 r.ep 0 4294967295 W hb2
  have I3 := Lib.hid fun W => in15 b3 r.nm 2 30 W hb3
  have I4 := Lib.hid fun W => in15 b4 r.ps 0 (r.nm - 2) W hb4
  have HR := Lib.hid (show RecOk z d r.d ↔ ((r.kd = 0 ∧ r.sq = 0 ∧ r.ep = 0 ∧ r.ps = 0 ∧ r.nm = 0 ∧ bn = true) ∨ ((b1 = true ∧ b2 = true ∧ b3 = true) ∧ r.kd = 2 ∧ r.ps = r.nm - 1 ∧ bn = true) ∨ ((b1 = true ∧ b2 = true ∧ b3 = true) ∧ r.kd = 1 ∧ b4 = true ∧ bi = true)) from by
    rw [hbn, hb1, hb2, hb3, hb4, hbi]
    exact Iff.rfl)
  have HBI := Lib.hid hbi
  have HB3 := Lib.hid hb3
  clear hx hc ho hn s1 hx2 hbn hb1 hb2 hb3 hb4 hbi
  go_enter Try.func25, Try.ntmps25
  go_upto_region 1 with fail
  generalize ((w.alloc (.cells #[.int .i64 z, .int .i64 d, .int .i64 s, .int .i64 l, .int .i64 a] 23)).alloc (.cells #[.int .i64 r.kd, .int .i64 r.sq, .int .i64 r.ep, .int .i64 r.ps, .int .i64 r.nm, .int .i64 r.i.z, .int .i64 r.i.wh, .slice r.i.A n r.i.c] 28)) = w0 at *
  obtain ⟨x0, x1, x2, x3, x4, x5, x6, x7⟩ := id XX
  go_upto_region 2 with (go_at_call 30; (with_reducible refine HKI.out.mono ?_); rintro e w1 ⟨rfl, hb1⟩)
  have GG1 := GG.keep hb1 (by omega)
  have XX1 := XX.keep hb1 (by omega)
  have hw1 := bt hw hb1
  have HX1 := Lib.hid (HX.out.next hb1)
  have lw1 := hb1.size
  clear hb1 x0 x1 x2 x3 x4 x5 x6 x7 HKI GG XX hw HX
  obtain ⟨g0, g1, g2, g3, g4⟩ := id GG1
  obtain ⟨x0, x1, x2, x3, x4, x5, x6, x7⟩ := id XX1
  by_cases h0 : r.kd = 0
  · have q0 : (r.kd == 0) = true := beq_iff_eq.2 h0
    have HK := Lib.hid (show c = true ↔ (r.sq = 0 ∧ r.ep = 0 ∧ r.ps = 0 ∧ r.nm = 0 ∧ bn = true) from by
      rw [HC.out, HR.out]
      exact ⟨fun h => h.elim (fun g => g.2) fun g => g.elim (fun k => absurd k.2.1 (by omega)) fun k => absurd k.2.1 (by omega), fun h => .inl ⟨h0, h⟩⟩)
    clear h0
    by_cases k0 : r.sq = 0
    case neg =>
      have p0 : (r.sq == 0) = false := beq_eq_false_iff_ne.2 k0
      have H : Hid (c = false) := Lib.hid (by
        cases c
        · rfl
        · exact absurd (HK.out.1 rfl).1 k0)
      clear k0
      go_wp2_with fail
      go_ret
      exact ⟨ret_bool H.out.symm, hw1⟩
    have p0 : (r.sq == 0) = true := beq_iff_eq.2 k0
    have K0 := Lib.hid k0
    clear k0
    by_cases k1 : r.ep = 0
    case neg =>
      have p1 : (r.ep == 0) = false := beq_eq_false_iff_ne.2 k1
      have H : Hid (c = false) := Lib.hid (by
        cases c
        · rfl
        · exact absurd (HK.out.1 rfl).2.1 k1)
      clear k1
      go_wp2_with fail
      go_ret
      exact ⟨ret_bool H.out.symm, hw1⟩
    have p1 : (r.ep == 0) = true := beq_iff_eq.2 k1
    have K1 := Lib.hid k1
    clear k1
    by_cases k2 : r.ps = 0
    case neg =>
      have p2 : (r.ps == 0) = false := beq_eq_false_iff_ne.2 k2
      have H : Hid (c = false) := Lib.hid (by
        cases c
        · rfl
        · exact absurd (HK.out.1 rfl).2.2.1 k2)
      clear k2
      go_wp2_with fail
      go_ret
      exact ⟨ret_bool H.out.symm, hw1⟩
    have p2 : (r.ps == 0) = true := beq_iff_eq.2 k2
    have K2 := Lib.hid k2
    clear k2
    by_cases k3 : r.nm = 0
    case neg =>
      have p3 : (r.nm == 0) = false := beq_eq_false_iff_ne.2 k3
      have H : Hid (c = false) := Lib.hid (by
        cases c
        · rfl
        · exact absurd (HK.out.1 rfl).2.2.2.1 k3)
      clear k3
      go_wp2_with fail
      go_ret
      exact ⟨ret_bool H.out.symm, hw1⟩
    have p3 : (r.nm == 0) = true := beq_iff_eq.2 k3
    have K3 := Lib.hid k3
    clear k3
    have H : Hid (c = bn) := Lib.hid (by rw [Bool.eq_iff_iff, HK.out]; exact ⟨fun h => h.2.2.2.2, fun h => ⟨K0.out, K1.out, K2.out, K3.out, h⟩⟩)
    go_wp2_with fail
    go_ret
    exact ⟨ret_bool H.out.symm, hw1⟩
  have q0 : (r.kd == 0) = false := beq_eq_false_iff_ne.2 h0
  have HK := Lib.hid (show c = true ↔ (b1 = true ∧ b2 = true ∧ b3 = true) ∧ ((r.kd = 2 ∧ r.ps = r.nm - 1 ∧ bn = true) ∨ (r.kd = 1 ∧ b4 = true ∧ bi = true)) from by
    rw [HC.out, HR.out]
    constructor
    · rintro (⟨h, -⟩ | ⟨h, h2⟩ | ⟨h, h2⟩)
      · exact absurd h h0
      · exact ⟨h, .inl h2⟩
      · exact ⟨h, .inr h2⟩
    · rintro ⟨h, h2 | h2⟩
      · exact .inr (.inl ⟨h, h2⟩)
      · exact .inr (.inr ⟨h, h2⟩))
  clear h0
  cases b1
  case false =>
    have H : Hid (c = false) := Lib.hid (by
      cases c
      · rfl
      · exact absurd (HK.out.1 rfl).1.1 Bool.false_ne_true)
    go_wp2_with (first | (go_at_call 47; (with_reducible refine (I1.out _).mono ?_); rintro e w2 ⟨rfl, rfl⟩) | fail)
    go_ret
    exact ⟨ret_bool H.out.symm, hw1⟩
  cases b2
  case false =>
    have H : Hid (c = false) := Lib.hid (by
      cases c
      · rfl
      · exact absurd (HK.out.1 rfl).1.2.1 Bool.false_ne_true)
    go_wp2_with (first | (go_at_call 47; (with_reducible refine (I1.out _).mono ?_); rintro e w2 ⟨rfl, rfl⟩) | (go_at_call 47; (with_reducible refine (I2.out _).mono ?_); rintro e w2 ⟨rfl, rfl⟩) | fail)
    go_ret
    exact ⟨ret_bool H.out.symm, hw1⟩
  cases b3
  case false =>
    have H : Hid (c = false) := Lib.hid (by
      cases c
      · rfl
      · exact absurd (HK.out.1 rfl).1.2.2 Bool.false_ne_true)
    go_wp2_with (first | (go_at_call 47; (with_reducible refine (I1.out _).mono ?_); rintro e w2 ⟨rfl, rfl⟩) | (go_at_call 47; (with_reducible refine (I2.out _).mono ?_); rintro e w2 ⟨rfl, rfl⟩) | (go_at_call 47; (with_reducible refine (I3.out _).mono ?_); rintro e w2 ⟨rfl, rfl⟩) | fail)
    go_ret
    exact ⟨ret_bool H.out.symm, hw1⟩
  have H3 := Lib.hid (HB3.out.1 rfl)
  have HK2 := Lib.hid (show c = true ↔ ((r.kd = 2 ∧ r.ps = r.nm - 1 ∧ bn = true) ∨ (r.kd = 1 ∧ b4 = true ∧ bi = true)) from by
    rw [HK.out]
    exact ⟨fun h => h.2, fun h => ⟨⟨rfl, rfl, rfl⟩, h⟩⟩)
  clear HK HB3
  go_upto_region 6 with (first | (go_at_call 47; (with_reducible refine (I1.out _).mono ?_); rintro e w2 ⟨rfl, rfl⟩) | (go_at_call 47; (with_reducible refine (I2.out _).mono ?_); rintro e w2 ⟨rfl, rfl⟩) | (go_at_call 47; (with_reducible refine (I3.out _).mono ?_); rintro e w2 ⟨rfl, rfl⟩) | fail)
  have h3 := H3.out
  have n1 : IntKind.i64.wrap (r.nm - 1) = r.nm - 1 := gmt.w6 _ (by omega) (by omega)
  have n2 : IntKind.i64.wrap (r.nm - 2) = r.nm - 2 := gmt.w6 _ (by omega) (by omega)
  clear h3
  by_cases h2 : r.kd = 2
  · have q2 : (r.kd == 2) = true := beq_iff_eq.2 h2
    have HJ := Lib.hid (show c = true ↔ (r.ps = r.nm - 1 ∧ bn = true) from by
      rw [HK2.out]
      exact ⟨fun h => h.elim (fun g => g.2) fun g => absurd g.1 (by omega), fun h => .inl ⟨h2, h⟩⟩)
    clear h2
    by_cases h4 : r.ps = r.nm - 1
    · have q4 : (r.ps == r.nm - 1) = true := beq_iff_eq.2 h4
      have H : Hid (c = bn) := Lib.hid (by rw [Bool.eq_iff_iff, HJ.out]; exact ⟨fun h => h.2, fun h => ⟨h4, h⟩⟩)
      clear h4
      go_wp2_with fail
      go_ret
      exact ⟨ret_bool H.out.symm, hw1⟩
    · have q4 : (r.ps == r.nm - 1) = false := beq_eq_false_iff_ne.2 h4
      have H : Hid (c = false) := Lib.hid (by
        cases c
        · rfl
        · exact absurd (HJ.out.1 rfl).1 h4)
      clear h4
      go_wp2_with fail
      go_ret
      exact ⟨ret_bool H.out.symm, hw1⟩
  · have q2 : (r.kd == 2) = false := beq_eq_false_iff_ne.2 h2
    have HJ := Lib.hid (show c = true ↔ (r.kd = 1 ∧ b4 = true ∧ bi = true) from by
      rw [HK2.out]
      exact ⟨fun h => h.elim (fun g => absurd g.1 h2) fun g => g, fun h => .inr h⟩)
    clear h2
    by_cases h4 : r.kd = 1
    case neg =>
      have q4 : (r.kd == 1) = false := beq_eq_false_iff_ne.2 h4
      have H : Hid (c = false) := Lib.hid (by
        cases c
        · rfl
        · exact absurd (HJ.out.1 rfl).1 h4)
      clear h4
      go_wp2_with fail
      go_ret
      exact ⟨ret_bool H.out.symm, hw1⟩
    have q4 : (r.kd == 1) = true := beq_iff_eq.2 h4
    have HIM := Lib.hid (show Calls Try.prog 22 #[.agg #[.int .i64 z, .int .i64 d, .int .i64 s, .int .i64 l, .int .i64 a], .agg #[.int .i64 r.i.z, .int .i64 r.i.wh, .slice r.i.A n r.i.c]] w1 fun e w' => e = .returned (.bool bi) ∧ Below w1.heap.size w1 w' from rimage_c bi z d s l a r.i n w1 HO.out HX1.out HN.out HBI.out)
    cases b4
    · have H : Hid (c = false) := Lib.hid (by
        cases c
        · rfl
        · exact absurd (HJ.out.1 rfl).2.1 Bool.false_ne_true)
      clear h4
      go_wp2_with (go_at_call 47; (with_reducible refine (I4.out _).mono ?_); rintro e w2 ⟨rfl, rfl⟩)
      go_ret
      exact ⟨ret_bool H.out.symm, hw1⟩
    · have H : Hid (c = bi) := Lib.hid (by rw [Bool.eq_iff_iff, HJ.out]; exact ⟨fun h => h.2.2, fun h => ⟨h4, rfl, h⟩⟩)
      clear h4
      go_wp2_with (first
        | (go_at_call 47; (with_reducible refine (I4.out _).mono ?_); rintro e w2 ⟨rfl, rfl⟩)
        | (go_at_call 22; (with_reducible refine HIM.out.mono ?_); rintro e w2 ⟨rfl, hb2⟩))
      go_ret
      exact ⟨ret_bool H.out.symm, bt hw1 hb2⟩
end Go.Proofs.Ytplhdnhigboeaaa.lrc
