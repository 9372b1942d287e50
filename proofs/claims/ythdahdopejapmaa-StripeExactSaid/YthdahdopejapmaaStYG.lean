/-
  The developers' own Images where something is wrong. Conditions: each theorem's own.
-/
import Derived.Test.YthdahdopejapmaaStYA
namespace Go.Proofs.Ythdahdopejapmaa.stp
open Go.RowKit Go.Lib
open Go.Proofs.Ythdahdopejapmaa.gmt (Ok)
open Go.Proofs.Ythdahdopejapmaa.anc (bl kal kst ks bm ka)
open Go.Proofs.Ythdahdopejapmaa.tbl (Ent EntOk C1 c1_new G5 g5_new OwnE)
open Go.Proofs.Ythdahdopejapmaa.zon

set_option maxRecDepth 100000 in
set_option maxHeartbeats 8000000 in
theorem images_tab (v z d s l a zn : Int) (x : tbl.TV) (N : Nat) (pA : Option Addr) (pn pc : Nat) (aA : Option Addr) (m ac : Nat) (bA : Option Addr) (k bc : Nat) (w : World) (hv : v ≠ 0) (cC : ∀ W, Below w.heap.size w W → Calls Try.prog 36 #[.agg #[.int .i64 z, .int .i64 d, .int .i64 s, .int .i64 l, .int .i64 a], .agg #[.slice x.A N x.c]] W fun e w' => tbl.NonE v e ∧ Below W.heap.size W w') :
    Calls Try.prog 12 #[.agg #[.int .i64 z, .int .i64 d, .int .i64 s, .int .i64 l, .int .i64 a], .int .i64 zn, .agg #[.slice x.A N x.c], .slice pA pn pc, .slice aA m ac, .slice bA k bc] w fun e w' => tbl.NonE v e ∧ Below w.heap.size w w' := by
  have q : (v != 0) = true := bne_iff_ne.2 hv
  have HC := Lib.hid cC
  clear cC hv
  have s1 : (w.alloc (.cells #[.int .i64 z, .int .i64 d, .int .i64 s, .int .i64 l, .int .i64 a] 23)).heap.size = w.heap.size + 1 := by simp
  have s3 : ((w.alloc (.cells #[.int .i64 z, .int .i64 d, .int .i64 s, .int .i64 l, .int .i64 a] 23)).alloc (.cells #[.slice x.A N x.c] 26)).heap.size = w.heap.size + 2 := by simp
  have x2 := bl (w.alloc (.cells #[.int .i64 z, .int .i64 d, .int .i64 s, .int .i64 l, .int .i64 a] 23)) (.cells #[.slice x.A N x.c] 26)
  have GG := (g5_new w z d s l a).keep x2 (by omega)
  have TT := c1_new (w.alloc (.cells #[.int .i64 z, .int .i64 d, .int .i64 s, .int .i64 l, .int .i64 a] 23)) (.slice x.A N x.c) 26
  rw [s1] at TT
  have hw := kal (bl w (.cells #[.int .i64 z, .int .i64 d, .int .i64 s, .int .i64 l, .int .i64 a] 23)) (.cells #[.slice x.A N x.c] 26)
  clear s1 x2
  go_enter Try.func12, Try.ntmps12
  go_upto_region 1 with fail
  generalize ((w.alloc (.cells #[.int .i64 z, .int .i64 d, .int .i64 s, .int .i64 l, .int .i64 a] 23)).alloc (.cells #[.slice x.A N x.c] 26)) = w0 at *
  obtain ⟨g0, g1, g2, g3, g4⟩ := id GG
  have t0 := TT.c0
  go_wp2_with (go_at_call 36; (with_reducible refine (HC.out _ hw).mono ?_); rintro e w1 ⟨⟨X, xc, rfl⟩, hb1⟩)
  go_ret2
  exact ⟨⟨none, 0, rfl⟩, bt hw hb1⟩
set_option maxRecDepth 100000 in
set_option maxHeartbeats 8000000 in
theorem images_arg (b : Bool) (z s l a zn : Int) (D : Nat) (x : tbl.TV) (N : Nat) (pA : Option Addr) (pn pc : Nat) (aA : Option Addr) (m ac : Nat) (bA : Option Addr) (k bc : Nat) (w : World) (hb : ¬ ((0 ≤ zn ∧ zn ≤ z - 1) ∧ b = true)) (cC : ∀ W, Below w.heap.size w W → Calls Try.prog 36 #[.agg #[.int .i64 z, .int .i64 D, .int .i64 s, .int .i64 l, .int .i64 a], .agg #[.slice x.A N x.c]] W fun e w' => (∃ (X : Option Addr) (q c : Nat), e = .returned (.tuple #[.slice X q c, .int .i64 0])) ∧ Below W.heap.size W w') (cI : ∀ W, Below w.heap.size w W → Calls Try.prog 31 #[.agg #[.int .i64 z, .int .i64 D, .int .i64 s, .int .i64 l, .int .i64 a], .slice aA m ac] W fun e w' => e = .returned (.bool b) ∧ Below W.heap.size W w') :
    Calls Try.prog 12 #[.agg #[.int .i64 z, .int .i64 D, .int .i64 s, .int .i64 l, .int .i64 a], .int .i64 zn, .agg #[.slice x.A N x.c], .slice pA pn pc, .slice aA m ac, .slice bA k bc] w fun e w' => tbl.NonE 1 e ∧ Below w.heap.size w w' := by
  have HC := Lib.hid cC
  have HI := Lib.hid cI
  have hway : zn < 0 ∨ (¬ zn < 0 ∧ z ≤ zn) ∨ (¬ zn < 0 ∧ ¬ z ≤ zn ∧ b = false) := by
    by_cases h : zn < 0
    · exact .inl h
    · by_cases h2 : z ≤ zn
      · exact .inr (.inl ⟨h, h2⟩)
      · refine .inr (.inr ⟨h, h2, ?_⟩)
        cases b
        · rfl
        · exact absurd ⟨by omega, rfl⟩ hb
  clear cC cI hb
  have s1 : (w.alloc (.cells #[.int .i64 z, .int .i64 D, .int .i64 s, .int .i64 l, .int .i64 a] 23)).heap.size = w.heap.size + 1 := by simp
  have s3 : ((w.alloc (.cells #[.int .i64 z, .int .i64 D, .int .i64 s, .int .i64 l, .int .i64 a] 23)).alloc (.cells #[.slice x.A N x.c] 26)).heap.size = w.heap.size + 2 := by simp
  have x2 := bl (w.alloc (.cells #[.int .i64 z, .int .i64 D, .int .i64 s, .int .i64 l, .int .i64 a] 23)) (.cells #[.slice x.A N x.c] 26)
  have GG := (g5_new w z D s l a).keep x2 (by omega)
  have TT := c1_new (w.alloc (.cells #[.int .i64 z, .int .i64 D, .int .i64 s, .int .i64 l, .int .i64 a] 23)) (.slice x.A N x.c) 26
  rw [s1] at TT
  have hw := kal (bl w (.cells #[.int .i64 z, .int .i64 D, .int .i64 s, .int .i64 l, .int .i64 a] 23)) (.cells #[.slice x.A N x.c] 26)
  clear s1 x2
  go_enter Try.func12, Try.ntmps12
  go_upto_region 1 with fail
  generalize ((w.alloc (.cells #[.int .i64 z, .int .i64 D, .int .i64 s, .int .i64 l, .int .i64 a] 23)).alloc (.cells #[.slice x.A N x.c] 26)) = w0 at *
  obtain ⟨g0, g1, g2, g3, g4⟩ := id GG
  have t0 := TT.c0
  go_upto_region 4 with (go_at_call 36; (with_reducible refine (HC.out _ hw).mono ?_); rintro e w1 ⟨⟨X, q, xc, rfl⟩, hb1⟩)
  have lw1 := hb1.size
  have GG1 := GG.keep hb1 (by omega)
  have hw1 := bt hw hb1
  clear g0 g1 g2 g3 g4 t0 hb1 TT GG hw HC
  obtain ⟨g0, g1, g2, g3, g4⟩ := id GG1
  have IX := Lib.hid (HI.out _ hw1)
  rcases hway with y1 | ⟨y1, y2⟩ | ⟨y1, y2, rfl⟩
  · go_wp2_with fail
    go_ret2
    exact ⟨⟨none, 0, rfl⟩, hw1⟩
  · go_wp2_with fail
    go_ret2
    exact ⟨⟨none, 0, rfl⟩, hw1⟩
  · go_wp2_with (go_at_call 31; (with_reducible refine IX.out.mono ?_); rintro e w2 ⟨rfl, hb2⟩)
    go_ret2
    exact ⟨⟨none, 0, rfl⟩, bt hw1 hb2⟩
set_option maxRecDepth 100000 in
set_option maxHeartbeats 8000000 in
theorem images_len (b : Bool) (z s l a zn : Int) (D : Nat) (x : tbl.TV) (N : Nat) (pA : Option Addr) (pn pc : Nat) (aA : Option Addr) (m ac : Nat) (bA : Option Addr) (k bc : Nat) (w : World) (hz : 0 ≤ zn ∧ zn ≤ z - 1) (hb : ¬ (b = true ∧ pn = 8)) (cC : ∀ W, Below w.heap.size w W → Calls Try.prog 36 #[.agg #[.int .i64 z, .int .i64 D, .int .i64 s, .int .i64 l, .int .i64 a], .agg #[.slice x.A N x.c]] W fun e w' => (∃ (X : Option Addr) (q c : Nat), e = .returned (.tuple #[.slice X q c, .int .i64 0])) ∧ Below W.heap.size W w') (cI : ∀ W, Below w.heap.size w W → Calls Try.prog 31 #[.agg #[.int .i64 z, .int .i64 D, .int .i64 s, .int .i64 l, .int .i64 a], .slice aA m ac] W fun e w' => e = .returned (.bool true) ∧ Below W.heap.size W w') (cB : ∀ W, Below w.heap.size w W → Calls Try.prog 32 #[.slice bA k bc, .int .i64 m] W fun e w' => e = .returned (.bool b) ∧ Below W.heap.size W w') :
    Calls Try.prog 12 #[.agg #[.int .i64 z, .int .i64 D, .int .i64 s, .int .i64 l, .int .i64 a], .int .i64 zn, .agg #[.slice x.A N x.c], .slice pA pn pc, .slice aA m ac, .slice bA k bc] w fun e w' => tbl.NonE 2 e ∧ Below w.heap.size w w' := by
  have HC := Lib.hid cC
  have HI := Lib.hid cI
  have HB := Lib.hid cB
  have y1 : ¬ zn < 0 := by omega
  have y2 : ¬ z ≤ zn := by omega
  have hway : b = false ∨ (b = true ∧ ((pn : Int) != 8) = true) := by
    cases b
    · exact .inl rfl
    · refine .inr ⟨rfl, bne_iff_ne.2 fun h => hb ⟨rfl, by omega⟩⟩
  clear cC cI cB hb hz
  have s1 : (w.alloc (.cells #[.int .i64 z, .int .i64 D, .int .i64 s, .int .i64 l, .int .i64 a] 23)).heap.size = w.heap.size + 1 := by simp
  have s3 : ((w.alloc (.cells #[.int .i64 z, .int .i64 D, .int .i64 s, .int .i64 l, .int .i64 a] 23)).alloc (.cells #[.slice x.A N x.c] 26)).heap.size = w.heap.size + 2 := by simp
  have x2 := bl (w.alloc (.cells #[.int .i64 z, .int .i64 D, .int .i64 s, .int .i64 l, .int .i64 a] 23)) (.cells #[.slice x.A N x.c] 26)
  have GG := (g5_new w z D s l a).keep x2 (by omega)
  have TT := c1_new (w.alloc (.cells #[.int .i64 z, .int .i64 D, .int .i64 s, .int .i64 l, .int .i64 a] 23)) (.slice x.A N x.c) 26
  rw [s1] at TT
  have hw := kal (bl w (.cells #[.int .i64 z, .int .i64 D, .int .i64 s, .int .i64 l, .int .i64 a] 23)) (.cells #[.slice x.A N x.c] 26)
  clear s1 x2
  go_enter Try.func12, Try.ntmps12
  go_upto_region 1 with fail
  generalize ((w.alloc (.cells #[.int .i64 z, .int .i64 D, .int .i64 s, .int .i64 l, .int .i64 a] 23)).alloc (.cells #[.slice x.A N x.c] 26)) = w0 at *
  obtain ⟨g0, g1, g2, g3, g4⟩ := id GG
  have t0 := TT.c0
  go_upto_region 4 with (go_at_call 36; (with_reducible refine (HC.out _ hw).mono ?_); rintro e w1 ⟨⟨X, q, xc, rfl⟩, hb1⟩)
  have lw1 := hb1.size
  have GG1 := GG.keep hb1 (by omega)
  have hw1 := bt hw hb1
  clear g0 g1 g2 g3 g4 t0 hb1 TT GG hw HC
  obtain ⟨g0, g1, g2, g3, g4⟩ := id GG1
  have IX := Lib.hid (HI.out _ hw1)
  go_upto_region 6 with (go_at_call 31; (with_reducible refine IX.out.mono ?_); rintro e w2 ⟨rfl, hb2⟩)
  have hw2 := bt hw1 hb2
  have BX := Lib.hid (HB.out _ hw2)
  clear g0 g1 g2 g3 g4 hb2 GG1 hw1 IX HI
  rcases hway with rfl | ⟨rfl, y3⟩
  all_goals
    go_wp2_with (go_at_call 32; (with_reducible refine BX.out.mono ?_); rintro e w3 ⟨rfl, hb3⟩)
    go_ret2
    exact ⟨⟨none, 0, rfl⟩, bt hw2 hb3⟩
end Go.Proofs.Ythdahdopejapmaa.stp
