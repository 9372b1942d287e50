/-
  The document's own answer: is an image right (Image), a record (Rec). Conditions: a right geometry.
-/
import Derived.Test.YtpcadoekhoediaaGreatDoorRcK
import Derived.Test.YtpcadoekhoediaaGreatDoorGTa
import Derived.Test.YtpcadoekhoediaaGreatDoorRcP
namespace Go.Proofs.YtpcadoekhoediaaGreatDoor.lrc
open Go.RowKit Go.Lib
open Go.Proofs.YtpcadoekhoediaaGreatDoor.gmt (Ok)
open Go.Proofs.YtpcadoekhoediaaGreatDoor.anc (bl kal kst ks bm ka)
open Go.Proofs.YtpcadoekhoediaaGreatDoor.tbl (C1 c1_new G5 g5_new)
open Go.Proofs.YtpcadoekhoediaaGreatDoor.img

set_option maxRecDepth 100000 in
theorem in15 (b : Bool) (n lo hi : Int) (w : World) (hb : b = true ↔ lo ≤ n ∧ n ≤ hi) :
    Calls Tryz.prog 35 #[.int .i64 n, .int .i64 lo, .int .i64 hi] w fun e w' => e = .returned (.bool b) ∧ w = w' := by
  by_cases h1 : lo ≤ n
  · by_cases h2 : n ≤ hi
    · obtain rfl : b = true := hb.2 ⟨h1, h2⟩
      clear hb
      go_enter Tryz.func35, Tryz.ntmps35
      go_wp2
      go_ret
      exact ⟨rfl, rfl⟩
    · obtain rfl : b = false := by
        cases b
        · rfl
        · exact absurd (hb.1 rfl).2 h2
      clear hb
      go_enter Tryz.func35, Tryz.ntmps35
      go_wp2
      go_ret
      exact ⟨rfl, rfl⟩
  · obtain rfl : b = false := by
      cases b
      · rfl
      · exact absurd (hb.1 rfl).1 h1
    clear hb
    go_enter Tryz.func35, Tryz.ntmps35
    go_wp2
    go_ret
    exact ⟨rfl, rfl⟩
theorem bool_of (P : Prop) : ∃ b : Bool, b = true ↔ P := by
  by_cases h : P
  · exact ⟨true, iff_of_true rfl h⟩
  · exact ⟨false, iff_of_false Bool.false_ne_true h⟩
set_option maxRecDepth 100000 in
set_option maxHeartbeats 8000000 in
theorem what15 (b : Bool) (z d s l a i : Int) (w : World) (ho : Ok z d s l a) (hb : b = true ↔ -1 ≤ i ∧ i ≤ d - 1) :
    Calls Tryz.prog 37 #[.agg #[.int .i64 z, .int .i64 d, .int .i64 s, .int .i64 l, .int .i64 a], .int .i64 i] w fun e w' => e = .returned (.bool b) ∧ Below w.heap.size w w' := by
  have GG := g5_new w z d s l a
  have hx := bl w (.cells #[.int .i64 z, .int .i64 d, .int .i64 s, .int .i64 l, .int .i64 a] 23)
  obtain ⟨g0, g1, g2, g3, g4⟩ := id GG
  have o2 := ho.2.1
  have HI := Lib.hid fun W => tbl.r8in_at b i (-1) (d - 1) W hb
  have n1 : IntKind.i64.wrap (d - 1) = d - 1 := gmt.w6 _ (by omega) (by omega)
  clear ho hb o2
  go_enter Tryz.func37, Tryz.ntmps37
  go_upto_region 1 with fail
  generalize w.alloc (.cells #[.int .i64 z, .int .i64 d, .int .i64 s, .int .i64 l, .int .i64 a] 23) = w0 at *
  go_wp2_with (go_at_call 33; (with_reducible refine (HI.out _).mono ?_); rintro e w1 ⟨rfl, rfl⟩)
  go_ret
  exact ⟨rfl, hx⟩
set_option maxRecDepth 100000 in
set_option maxHeartbeats 8000000 in
theorem rimage_c (c : Bool) (z d s l a : Int) (x : ImR) (n : Nat) (w : World) (ho : Ok z d s l a) (hx : BIn w w.heap.size x) (hn : x.l.length = n) (hc : c = true ↔ ImOk z d x.z x.wh x.l) :
    Calls Tryz.prog 18 #[.agg #[.int .i64 z, .int .i64 d, .int .i64 s, .int .i64 l, .int .i64 a], .agg #[.int .i64 x.z, .int .i64 x.wh, .slice x.A n x.c]] w fun e w' => e = .returned (.bool c) ∧ Below w.heap.size w w' := by
  have s1 : (w.alloc (.cells #[.int .i64 z, .int .i64 d, .int .i64 s, .int .i64 l, .int .i64 a] 23)).heap.size = w.heap.size + 1 := by simp
  have hx2 := bl (w.alloc (.cells #[.int .i64 z, .int .i64 d, .int .i64 s, .int .i64 l, .int .i64 a] 23)) (.cells #[.int .i64 x.z, .int .i64 x.wh, .slice x.A n x.c] 32)
  have GG := (g5_new w z d s l a).keep hx2 (by omega)
  have XX := c3_new (w.alloc (.cells #[.int .i64 z, .int .i64 d, .int .i64 s, .int .i64 l, .int .i64 a] 23)) (.int .i64 x.z) (.int .i64 x.wh) (.slice x.A n x.c) 32
  rw [s1] at XX
  have hw := kal (bl w (.cells #[.int .i64 z, .int .i64 d, .int .i64 s, .int .i64 l, .int .i64 a] 23)) (.cells #[.int .i64 x.z, .int .i64 x.wh, .slice x.A n x.c] 32)
  have l2 : ((w.alloc (.cells #[.int .i64 z, .int .i64 d, .int .i64 s, .int .i64 l, .int .i64 a] 23)).alloc (.cells #[.int .i64 x.z, .int .i64 x.wh, .slice x.A n x.c] 32)).heap.size = w.heap.size + 2 := by simp
  have HX := Lib.hid (hx.next hw)
  have HC := Lib.hid hc
  have HO := Lib.hid ho
  have HN := Lib.hid hn
  have o1 := ho.1
  obtain ⟨b1, hb1⟩ := bool_of (0 ≤ x.z ∧ x.z ≤ z - 1)
  have HI := Lib.hid fun W => in15 b1 x.z 0 (z - 1) W hb1
  have HB1 := Lib.hid hb1
  have n1 : IntKind.i64.wrap (z - 1) = z - 1 := gmt.w6 _ (by omega) (by omega)
  clear hx hc ho hn s1 hx2 hb1 o1
  go_enter Tryz.func18, Tryz.ntmps18
  go_upto_region 1 with fail
  generalize ((w.alloc (.cells #[.int .i64 z, .int .i64 d, .int .i64 s, .int .i64 l, .int .i64 a] 23)).alloc (.cells #[.int .i64 x.z, .int .i64 x.wh, .slice x.A n x.c] 32)) = w0 at *
  obtain ⟨g0, g1, g2, g3, g4⟩ := id GG
  obtain ⟨x0, x1, x2⟩ := id XX
  cases b1
  case false =>
    have H : Hid (c = false) := Lib.hid (by
      cases c
      · rfl
      · exact absurd (HB1.out.2 (HC.out.1 rfl).1) Bool.false_ne_true)
    go_wp2_with (go_at_call 35; (with_reducible refine (HI.out _).mono ?_); rintro e w1 ⟨rfl, rfl⟩)
    go_ret
    exact ⟨ret_bool H.out.symm, hw⟩
  by_cases h2 : x.wh = 255
  · obtain ⟨b2, hb2⟩ := bool_of (tbl.Told d x.l)
    have HRT := Lib.hid (show Calls Tryz.prog 36 #[.agg #[.int .i64 z, .int .i64 d, .int .i64 s, .int .i64 l, .int .i64 a], .slice x.A n x.c] w0 fun e w' => (∃ t : tbl.TV, e = .returned (.tuple #[t.v, .bool b2])) ∧ Below w0.heap.size w0 w' from by
      have h9 := tbl.rread_tab b2 z d s l a x.A n x.c x.l w0 HO.out HN.out (by have := HX.out.2; rw [HN.out] at this; exact this.1) HX.out.2.2 HX.out.1 hb2
      refine h9.mono ?_
      rintro e w' ⟨⟨t, rfl, -, -⟩, hb⟩
      exact ⟨⟨t, rfl⟩, hb⟩)
    have H : Hid (c = b2) := Lib.hid (by
      rw [Bool.eq_iff_iff, HC.out, hb2]
      exact ⟨fun h => h.2.elim (fun g => g.2) fun g => absurd h2 g.1, fun h => ⟨HB1.out.1 rfl, .inl ⟨h2, h⟩⟩⟩)
    have q : (x.wh == 255) = true := beq_iff_eq.2 h2
    clear hb2 h2
    go_upto_region 4 with (go_at_call 35; (with_reducible refine (HI.out _).mono ?_); rintro e w1 ⟨rfl, rfl⟩)
    go_upto_region 5 with (go_at_call 36; (with_reducible refine HRT.out.mono ?_); rintro e w1 ⟨⟨t, rfl⟩, hb1⟩; rw [tbl.TV.v]; generalize t.es.length = tn)
    have hbT := bl w1 (.cells #[.slice t.A tn t.c] 86)
    have hw1 := bt (bt hw hb1) hbT
    clear hb1 hbT g0 g1 g2 g3 g4 x0 x1 x2 HRT GG XX
    generalize w1.alloc (.cells #[.slice t.A tn t.c] 86) = w2 at *
    go_wp2_with fail
    go_ret
    exact ⟨ret_bool H.out.symm, hw1⟩
  · obtain ⟨b2, hb2⟩ := bool_of (-1 ≤ x.wh ∧ x.wh ≤ d - 1)
    have HWH := Lib.hid (show ∀ W, Below w0.heap.size w0 W → Calls Tryz.prog 37 #[.agg #[.int .i64 z, .int .i64 d, .int .i64 s, .int .i64 l, .int .i64 a], .int .i64 x.wh] W fun e w' => e = .returned (.bool b2) ∧ Below W.heap.size W w' from fun W _ => what15 b2 z d s l a x.wh W HO.out hb2)
    have q : (x.wh == 255) = false := beq_eq_false_iff_ne.2 h2
    have H : Hid (c = (b2 && ((n : Int) == 8))) := Lib.hid (by
      rw [Bool.eq_iff_iff, HC.out, Bool.and_eq_true, hb2, beq_iff_eq]
      unfold ImOk
      constructor
      · rintro ⟨-, h⟩
        rcases h with h | ⟨-, h3, h4⟩
        · exact absurd h.1 h2
        · exact ⟨h3, by rw [← HN.out, h4]; rfl⟩
      · rintro ⟨h3, h4⟩
        exact ⟨HB1.out.1 rfl, .inr ⟨h2, h3, by have := HN.out; omega⟩⟩)
    clear hb2 h2
    go_upto_region 6 with (go_at_call 35; (with_reducible refine (HI.out _).mono ?_); rintro e w1 ⟨rfl, rfl⟩)
    cases b2
    · go_wp2_with (go_at_call 37; (with_reducible refine (HWH.out _ (Below.refl _ _)).mono ?_); rintro e w1 ⟨rfl, hb1⟩)
      go_ret
      exact ⟨by rw [H.out]; rfl, bt hw hb1⟩
    · go_upto_region 6 with fail
      go_wp2_with (go_at_call 37; (with_reducible refine (HWH.out _ (Below.refl _ _)).mono ?_); rintro e w1 ⟨rfl, hb1⟩; have x21 := kst hb1 (show w.heap.size + 1 < w0.heap.size by omega) x2)
      go_ret
      exact ⟨by rw [H.out]; rfl, bt hw hb1⟩
end Go.Proofs.YtpcadoekhoediaaGreatDoor.lrc
