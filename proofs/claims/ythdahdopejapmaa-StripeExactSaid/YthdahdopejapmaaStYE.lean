/-
  The developers' own Write where something is wrong. Conditions: each theorem's own.
-/
import Derived.Test.YthdahdopejapmaaStYA
import Derived.Test.YthdahdopejapmaaStYC
namespace Go.Proofs.Ythdahdopejapmaa.stp
open Go.RowKit Go.Lib
open Go.Proofs.Ythdahdopejapmaa.gmt (Ok)
open Go.Proofs.Ythdahdopejapmaa.anc (bl kal kst ks bm ka)
open Go.Proofs.Ythdahdopejapmaa.tbl (Ent EntOk C1 c1_new G5 g5_new OwnE)
open Go.Proofs.Ythdahdopejapmaa.zon

set_option maxRecDepth 100000 in
set_option maxHeartbeats 8000000 in
theorem write_zone (v z d s l a st : Int) (x : tbl.TV) (N : Nat) (hA : Option Addr) (n hq : Nat) (aA : Option Addr) (m ac : Nat) (bA : Option Addr) (k bc : Nat) (w : World) (hv : v ≠ 0) (cC : ∀ W, Below w.heap.size w W → Calls Try.prog 27 #[.agg #[.int .i64 z, .int .i64 d, .int .i64 s, .int .i64 l, .int .i64 a], .agg #[.slice x.A N x.c], .slice hA n hq] W fun e w' => AllNo v e ∧ Below W.heap.size W w') :
    Calls Try.prog 11 #[.agg #[.int .i64 z, .int .i64 d, .int .i64 s, .int .i64 l, .int .i64 a], .agg #[.slice x.A N x.c], .slice hA n hq, .slice aA m ac, .slice bA k bc, .int .i64 st] w fun e w' => NoW v e ∧ Below w.heap.size w w' := by
  have q : (v != 0) = true := bne_iff_ne.2 hv
  have HC := Lib.hid cC
  clear cC hv
  have s1 : (w.alloc (.cells #[.int .i64 z, .int .i64 d, .int .i64 s, .int .i64 l, .int .i64 a] 23)).heap.size = w.heap.size + 1 := by simp
  have s2 : ((w.alloc (.cells #[.int .i64 z, .int .i64 d, .int .i64 s, .int .i64 l, .int .i64 a] 23)).alloc (.cells #[.slice x.A N x.c] 26)).heap.size = w.heap.size + 2 := by simp
  have s3 : (((w.alloc (.cells #[.int .i64 z, .int .i64 d, .int .i64 s, .int .i64 l, .int .i64 a] 23)).alloc (.cells #[.slice x.A N x.c] 26)).alloc (.cells #[.slice none 0 0] 26)).heap.size = w.heap.size + 3 := by simp
  have x2 := bl (w.alloc (.cells #[.int .i64 z, .int .i64 d, .int .i64 s, .int .i64 l, .int .i64 a] 23)) (.cells #[.slice x.A N x.c] 26)
  have x3 := bl ((w.alloc (.cells #[.int .i64 z, .int .i64 d, .int .i64 s, .int .i64 l, .int .i64 a] 23)).alloc (.cells #[.slice x.A N x.c] 26)) (.cells #[.slice none 0 0] 26)
  have GG := ((g5_new w z d s l a).keep x2 (by omega)).keep x3 (by omega)
  have TT := (c1_new (w.alloc (.cells #[.int .i64 z, .int .i64 d, .int .i64 s, .int .i64 l, .int .i64 a] 23)) (.slice x.A N x.c) 26).keep x3 (by omega)
  have RR := c1_new ((w.alloc (.cells #[.int .i64 z, .int .i64 d, .int .i64 s, .int .i64 l, .int .i64 a] 23)).alloc (.cells #[.slice x.A N x.c] 26)) (.slice none 0 0) 26
  rw [s1] at TT
  rw [s2] at RR
  have hw := kal (kal (bl w (.cells #[.int .i64 z, .int .i64 d, .int .i64 s, .int .i64 l, .int .i64 a] 23)) (.cells #[.slice x.A N x.c] 26)) (.cells #[.slice none 0 0] 26)
  clear s1 s2 x2 x3
  go_enter Try.func11, Try.ntmps11
  go_upto_region 1 with fail
  generalize (((w.alloc (.cells #[.int .i64 z, .int .i64 d, .int .i64 s, .int .i64 l, .int .i64 a] 23)).alloc (.cells #[.slice x.A N x.c] 26)).alloc (.cells #[.slice none 0 0] 26)) = w0 at *
  obtain ⟨g0, g1, g2, g3, g4⟩ := id GG
  have t0 := TT.c0
  go_upto_region 3 with (go_at_call 27; (with_reducible refine (HC.out _ hw).mono ?_); rintro e w1 ⟨⟨X, xc, K, kc, rfl⟩, hb1⟩)
  have RRE := RR.keep hb1 (by omega)
  have hw1 := bt hw hb1
  have r0 := RRE.c0
  have rf := RRE.f0
  clear g0 g1 g2 g3 g4 t0 hb1 RR TT GG hw
  go_wp2_with fail
  have k9 : C1 (w1.setCell ⟨w.heap.size + 1 + 1, 0, none⟩ (.slice none 0 0)) (w.heap.size + 1 + 1) (.slice none 0 0) := C1.set RRE _
  exact bodyPost_ret (v := .tuple #[.agg #[.slice none 0 0], .slice none 0 0, .int .i64 v]) (by simp [results, Try.results11, go_sem, k9.c0]) rfl ⟨⟨none, 0, none, 0, by decide, by decide, rfl⟩, hw1.setCell (p := ⟨w.heap.size + 1 + 1, 0, none⟩) (by show w.heap.size ≤ w.heap.size + 1 + 1; omega) _⟩
set_option maxRecDepth 100000 in
set_option maxHeartbeats 8000000 in
theorem write_arg (b : Bool) (z s l a st : Int) (D M : Nat) (L : List (List UInt8)) (x : tbl.TV) (N : Nat) (hA : Option Addr) (n hq : Nat) (aA : Option Addr) (m ac : Nat) (bA : Option Addr) (k bc : Nat) (w : World) (hb : ¬ (b = true ∧ StOk st)) (cC : ∀ W, Below w.heap.size w W → Calls Try.prog 27 #[.agg #[.int .i64 z, .int .i64 D, .int .i64 s, .int .i64 l, .int .i64 a], .agg #[.slice x.A N x.c], .slice hA n hq] W fun e w' => AllO W.heap.size M L e w' ∧ Below W.heap.size W w') (cI : ∀ W, Below w.heap.size w W → Calls Try.prog 31 #[.agg #[.int .i64 z, .int .i64 D, .int .i64 s, .int .i64 l, .int .i64 a], .slice aA m ac] W fun e w' => e = .returned (.bool b) ∧ Below W.heap.size W w') :
    Calls Try.prog 11 #[.agg #[.int .i64 z, .int .i64 D, .int .i64 s, .int .i64 l, .int .i64 a], .agg #[.slice x.A N x.c], .slice hA n hq, .slice aA m ac, .slice bA k bc, .int .i64 st] w fun e w' => NoW 1 e ∧ Below w.heap.size w w' := by
  have HC := Lib.hid cC
  have HI := Lib.hid cI
  have HB := Lib.hid hb
  clear cC cI hb
  have s1 : (w.alloc (.cells #[.int .i64 z, .int .i64 D, .int .i64 s, .int .i64 l, .int .i64 a] 23)).heap.size = w.heap.size + 1 := by simp
  have s2 : ((w.alloc (.cells #[.int .i64 z, .int .i64 D, .int .i64 s, .int .i64 l, .int .i64 a] 23)).alloc (.cells #[.slice x.A N x.c] 26)).heap.size = w.heap.size + 2 := by simp
  have s3 : (((w.alloc (.cells #[.int .i64 z, .int .i64 D, .int .i64 s, .int .i64 l, .int .i64 a] 23)).alloc (.cells #[.slice x.A N x.c] 26)).alloc (.cells #[.slice none 0 0] 26)).heap.size = w.heap.size + 3 := by simp
  have x2 := bl (w.alloc (.cells #[.int .i64 z, .int .i64 D, .int .i64 s, .int .i64 l, .int .i64 a] 23)) (.cells #[.slice x.A N x.c] 26)
  have x3 := bl ((w.alloc (.cells #[.int .i64 z, .int .i64 D, .int .i64 s, .int .i64 l, .int .i64 a] 23)).alloc (.cells #[.slice x.A N x.c] 26)) (.cells #[.slice none 0 0] 26)
  have GG := ((g5_new w z D s l a).keep x2 (by omega)).keep x3 (by omega)
  have TT := (c1_new (w.alloc (.cells #[.int .i64 z, .int .i64 D, .int .i64 s, .int .i64 l, .int .i64 a] 23)) (.slice x.A N x.c) 26).keep x3 (by omega)
  have RR := c1_new ((w.alloc (.cells #[.int .i64 z, .int .i64 D, .int .i64 s, .int .i64 l, .int .i64 a] 23)).alloc (.cells #[.slice x.A N x.c] 26)) (.slice none 0 0) 26
  rw [s1] at TT
  rw [s2] at RR
  have hw := kal (kal (bl w (.cells #[.int .i64 z, .int .i64 D, .int .i64 s, .int .i64 l, .int .i64 a] 23)) (.cells #[.slice x.A N x.c] 26)) (.cells #[.slice none 0 0] 26)
  clear s1 s2 x2 x3
  go_enter Try.func11, Try.ntmps11
  go_upto_region 1 with fail
  generalize (((w.alloc (.cells #[.int .i64 z, .int .i64 D, .int .i64 s, .int .i64 l, .int .i64 a] 23)).alloc (.cells #[.slice x.A N x.c] 26)).alloc (.cells #[.slice none 0 0] 26)) = w0 at *
  obtain ⟨g0, g1, g2, g3, g4⟩ := id GG
  have t0 := TT.c0
  go_upto_region 4 with (go_at_call 27; (with_reducible refine (HC.out _ hw).mono ?_); rintro e w1 ⟨⟨g, yc, yr, K, kc, rfl, -, -, -, -, -⟩, hb1⟩)
  have lw1 := hb1.size
  have GG1 := GG.keep hb1 (by omega)
  have RR1 := RR.keep hb1 (by omega)
  have hw1 := bt hw hb1
  clear g0 g1 g2 g3 g4 t0 hb1 RR TT GG hw HC
  obtain ⟨g0, g1, g2, g3, g4⟩ := id GG1
  have IX := Lib.hid (HI.out _ hw1)
  have hway : b = false ∨ (b = true ∧ st < 0) ∨ (b = true ∧ ¬ st < 0 ∧ 4294967295 < st) := by
    cases b
    · exact .inl rfl
    · by_cases h : st < 0
      · exact .inr (.inl ⟨rfl, h⟩)
      · refine .inr (.inr ⟨rfl, h, ?_⟩)
        by_cases h2 : 4294967295 < st
        · exact h2
        · exact absurd ⟨rfl, by unfold StOk; omega⟩ HB.out
  clear HB
  rcases hway with rfl | ⟨rfl, y1⟩ | ⟨rfl, y1, y2⟩
  all_goals
    go_upto_region 5 with (go_at_call 31; (with_reducible refine IX.out.mono ?_); rintro e w2 ⟨rfl, hb2⟩)
    have RRE := RR1.keep hb2 (by omega)
    have hw2 := bt hw1 hb2
    have r0 := RRE.c0
    have rf := RRE.f0
    clear g0 g1 g2 g3 g4 hb2 RR1 GG1 hw1
    go_wp2_with fail
    have k9 : C1 (w2.setCell ⟨w.heap.size + 1 + 1, 0, none⟩ (.slice none 0 0)) (w.heap.size + 1 + 1) (.slice none 0 0) := C1.set RRE _
    exact bodyPost_ret (v := .tuple #[.agg #[.slice none 0 0], .slice none 0 0, .int .i64 1]) (by simp [results, Try.results11, go_sem, k9.c0]) rfl ⟨⟨none, 0, none, 0, by decide, by decide, rfl⟩, hw2.setCell (p := ⟨w.heap.size + 1 + 1, 0, none⟩) (by show w.heap.size ≤ w.heap.size + 1 + 1; omega) _⟩
set_option maxRecDepth 100000 in
set_option maxHeartbeats 8000000 in
theorem write_len (z s l a st : Int) (D M : Nat) (L : List (List UInt8)) (x : tbl.TV) (N : Nat) (hA : Option Addr) (n hq : Nat) (aA : Option Addr) (m ac : Nat) (bA : Option Addr) (k bc : Nat) (w : World) (hst : StOk st) (cC : ∀ W, Below w.heap.size w W → Calls Try.prog 27 #[.agg #[.int .i64 z, .int .i64 D, .int .i64 s, .int .i64 l, .int .i64 a], .agg #[.slice x.A N x.c], .slice hA n hq] W fun e w' => AllO W.heap.size M L e w' ∧ Below W.heap.size W w') (cI : ∀ W, Below w.heap.size w W → Calls Try.prog 31 #[.agg #[.int .i64 z, .int .i64 D, .int .i64 s, .int .i64 l, .int .i64 a], .slice aA m ac] W fun e w' => e = .returned (.bool true) ∧ Below W.heap.size W w') (cB : ∀ W, Below w.heap.size w W → Calls Try.prog 32 #[.slice bA k bc, .int .i64 m] W fun e w' => e = .returned (.bool false) ∧ Below W.heap.size W w') :
    Calls Try.prog 11 #[.agg #[.int .i64 z, .int .i64 D, .int .i64 s, .int .i64 l, .int .i64 a], .agg #[.slice x.A N x.c], .slice hA n hq, .slice aA m ac, .slice bA k bc, .int .i64 st] w fun e w' => NoW 2 e ∧ Below w.heap.size w w' := by
  have HC := Lib.hid cC
  have HI := Lib.hid cI
  have HB := Lib.hid cB
  obtain ⟨y1, y2⟩ := hst
  have y3 : ¬ st < 0 := by omega
  have y4 : ¬ 4294967295 < st := by omega
  clear cC cI cB y1 y2
  have s1 : (w.alloc (.cells #[.int .i64 z, .int .i64 D, .int .i64 s, .int .i64 l, .int .i64 a] 23)).heap.size = w.heap.size + 1 := by simp
  have s2 : ((w.alloc (.cells #[.int .i64 z, .int .i64 D, .int .i64 s, .int .i64 l, .int .i64 a] 23)).alloc (.cells #[.slice x.A N x.c] 26)).heap.size = w.heap.size + 2 := by simp
  have s3 : (((w.alloc (.cells #[.int .i64 z, .int .i64 D, .int .i64 s, .int .i64 l, .int .i64 a] 23)).alloc (.cells #[.slice x.A N x.c] 26)).alloc (.cells #[.slice none 0 0] 26)).heap.size = w.heap.size + 3 := by simp
  have x2 := bl (w.alloc (.cells #[.int .i64 z, .int .i64 D, .int .i64 s, .int .i64 l, .int .i64 a] 23)) (.cells #[.slice x.A N x.c] 26)
  have x3 := bl ((w.alloc (.cells #[.int .i64 z, .int .i64 D, .int .i64 s, .int .i64 l, .int .i64 a] 23)).alloc (.cells #[.slice x.A N x.c] 26)) (.cells #[.slice none 0 0] 26)
  have GG := ((g5_new w z D s l a).keep x2 (by omega)).keep x3 (by omega)
  have TT := (c1_new (w.alloc (.cells #[.int .i64 z, .int .i64 D, .int .i64 s, .int .i64 l, .int .i64 a] 23)) (.slice x.A N x.c) 26).keep x3 (by omega)
  have RR := c1_new ((w.alloc (.cells #[.int .i64 z, .int .i64 D, .int .i64 s, .int .i64 l, .int .i64 a] 23)).alloc (.cells #[.slice x.A N x.c] 26)) (.slice none 0 0) 26
  rw [s1] at TT
  rw [s2] at RR
  have hw := kal (kal (bl w (.cells #[.int .i64 z, .int .i64 D, .int .i64 s, .int .i64 l, .int .i64 a] 23)) (.cells #[.slice x.A N x.c] 26)) (.cells #[.slice none 0 0] 26)
  clear s1 s2 x2 x3
  go_enter Try.func11, Try.ntmps11
  go_upto_region 1 with fail
  generalize (((w.alloc (.cells #[.int .i64 z, .int .i64 D, .int .i64 s, .int .i64 l, .int .i64 a] 23)).alloc (.cells #[.slice x.A N x.c] 26)).alloc (.cells #[.slice none 0 0] 26)) = w0 at *
  obtain ⟨g0, g1, g2, g3, g4⟩ := id GG
  have t0 := TT.c0
  go_upto_region 4 with (go_at_call 27; (with_reducible refine (HC.out _ hw).mono ?_); rintro e w1 ⟨⟨g, yc, yr, K, kc, rfl, -, -, -, -, -⟩, hb1⟩)
  have lw1 := hb1.size
  have GG1 := GG.keep hb1 (by omega)
  have RR1 := RR.keep hb1 (by omega)
  have hw1 := bt hw hb1
  clear g0 g1 g2 g3 g4 t0 hb1 RR TT GG hw HC
  obtain ⟨g0, g1, g2, g3, g4⟩ := id GG1
  have IX := Lib.hid (HI.out _ hw1)
  go_upto_region 6 with (go_at_call 31; (with_reducible refine IX.out.mono ?_); rintro e w2 ⟨rfl, hb2⟩)
  have lw2 := hb2.size
  have RR2 := RR1.keep hb2 (by omega)
  have hw2 := bt hw1 hb2
  have BX := Lib.hid (HB.out _ hw2)
  clear g0 g1 g2 g3 g4 hb2 RR1 GG1 hw1 IX HI
  go_upto_region 7 with (go_at_call 32; (with_reducible refine BX.out.mono ?_); rintro e w3 ⟨rfl, hb3⟩)
  have RRE := RR2.keep hb3 (by omega)
  have hw3 := bt hw2 hb3
  have r0 := RRE.c0
  have rf := RRE.f0
  clear hb3 RR2 hw2
  go_wp2_with fail
  have k9 : C1 (w3.setCell ⟨w.heap.size + 1 + 1, 0, none⟩ (.slice none 0 0)) (w.heap.size + 1 + 1) (.slice none 0 0) := C1.set RRE _
  exact bodyPost_ret (v := .tuple #[.agg #[.slice none 0 0], .slice none 0 0, .int .i64 2]) (by simp [results, Try.results11, go_sem, k9.c0]) rfl ⟨⟨none, 0, none, 0, by decide, by decide, rfl⟩, hw3.setCell (p := ⟨w.heap.size + 1 + 1, 0, none⟩) (by show w.heap.size ≤ w.heap.size + 1 + 1; omega) _⟩
end Go.Proofs.Ythdahdopejapmaa.stp
