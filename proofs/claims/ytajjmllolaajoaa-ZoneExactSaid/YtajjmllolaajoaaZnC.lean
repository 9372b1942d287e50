/-
  The developers' own zone.Block and zone.All. Conditions: lists shorter than 2^20.
-/
import Derived.Test.YtajjmllolaajoaaZnB
import Derived.Deep.RegionHeld3
namespace Go.Proofs.Ytajjmllolaajoaa.zon
open Go.RowKit Go.Lib
open Go.Proofs.Ytajjmllolaajoaa.gmt (Ok)
open Go.Proofs.Ytajjmllolaajoaa.anc (bl kal kst ks bm ka)
open Go.Proofs.Ytajjmllolaajoaa.tbl (Ent EntOk C1 c1_new G5 g5_new OwnE)

theorem b_inf : (Try.prog.info? 4).map (fun i => (i.zero, i.size, i.bytes)) = some (some (.bool false), 1, 1) := by kernel_rfl
theorem bool_row : 4 ≠ 31 := by decide
theorem row_bool : 31 ≠ 4 := by decide
theorem u8_bool : 5 ≠ 4 := by decide
theorem tvB : TV Try.prog 35 4 (.bool false) 1 := by
  refine ⟨Try.underlying35, rfl, ?_⟩
  have h := b_inf
  cases hi : Try.prog.info? 4 with
  | none => rw [hi] at h; cases h
  | some i =>
    rw [hi] at h
    simp only [Option.map_some, Option.some.injEq, Prod.mk.injEq] at h
    exact ⟨i, rfl, h.1, h.2.1, h.2.2⟩
set_option maxRecDepth 100000 in
set_option maxHeartbeats 8000000 in
theorem block_no (v : Int) (z d s l a i : Int) (x : tbl.TV) (N : Nat) (A : Option Addr) (n c : Nat) (w : World) (hv : v ≠ 0) (cC : ∀ W, Below w.heap.size w W → Calls Try.prog 29 #[.agg #[.int .i64 z, .int .i64 d, .int .i64 s, .int .i64 l, .int .i64 a], .agg #[.slice x.A N x.c], .slice A n c] W fun e w' => e = .returned (.int .i64 v) ∧ Below W.heap.size W w') :
    Calls Try.prog 12 #[.agg #[.int .i64 z, .int .i64 d, .int .i64 s, .int .i64 l, .int .i64 a], .agg #[.slice x.A N x.c], .slice A n c, .int .i64 i] w fun e w' => tbl.NonE v e ∧ Below w.heap.size w w' := by
  have q : (v != 0) = true := bne_iff_ne.2 hv
  have HC := Lib.hid cC
  clear cC hv
  have s1 : (w.alloc (.cells #[.int .i64 z, .int .i64 d, .int .i64 s, .int .i64 l, .int .i64 a] 23)).heap.size = w.heap.size + 1 := by simp
  have hx2 := bl (w.alloc (.cells #[.int .i64 z, .int .i64 d, .int .i64 s, .int .i64 l, .int .i64 a] 23)) (.cells #[.slice x.A N x.c] 26)
  have GG := (g5_new w z d s l a).keep hx2 (by omega)
  have TT := c1_new (w.alloc (.cells #[.int .i64 z, .int .i64 d, .int .i64 s, .int .i64 l, .int .i64 a] 23)) (.slice x.A N x.c) 26
  rw [s1] at TT
  have lT : w.heap.size + 1 < ((w.alloc (.cells #[.int .i64 z, .int .i64 d, .int .i64 s, .int .i64 l, .int .i64 a] 23)).alloc (.cells #[.slice x.A N x.c] 26)).heap.size := by simp
  have hw := kal (bl w (.cells #[.int .i64 z, .int .i64 d, .int .i64 s, .int .i64 l, .int .i64 a] 23)) (.cells #[.slice x.A N x.c] 26)
  clear s1 hx2
  go_enter Try.func12, Try.ntmps12
  go_upto_region 1 with fail
  generalize ((w.alloc (.cells #[.int .i64 z, .int .i64 d, .int .i64 s, .int .i64 l, .int .i64 a] 23)).alloc (.cells #[.slice x.A N x.c] 26)) = w0 at *
  obtain ⟨g0, g1, g2, g3, g4⟩ := id GG
  have t0 := TT.c0
  go_wp2_with (go_at_call 29; (with_reducible refine (HC.out _ hw).mono ?_); rintro e w1 ⟨rfl, hb1⟩)
  go_ret2
  exact ⟨⟨none, 0, rfl⟩, bt hw hb1⟩
set_option maxRecDepth 100000 in
set_option maxHeartbeats 8000000 in
theorem all_no (v : Int) (z d s l a : Int) (x : tbl.TV) (N : Nat) (A : Option Addr) (n c : Nat) (w : World) (hv : v ≠ 0) (cC : ∀ W, Below w.heap.size w W → Calls Try.prog 29 #[.agg #[.int .i64 z, .int .i64 d, .int .i64 s, .int .i64 l, .int .i64 a], .agg #[.slice x.A N x.c], .slice A n c] W fun e w' => e = .returned (.int .i64 v) ∧ Below W.heap.size W w') :
    Calls Try.prog 13 #[.agg #[.int .i64 z, .int .i64 d, .int .i64 s, .int .i64 l, .int .i64 a], .agg #[.slice x.A N x.c], .slice A n c] w fun e w' => AllNo v e ∧ Below w.heap.size w w' := by
  have q : (v != 0) = true := bne_iff_ne.2 hv
  have HC := Lib.hid cC
  clear cC hv
  have s1 : (w.alloc (.cells #[.int .i64 z, .int .i64 d, .int .i64 s, .int .i64 l, .int .i64 a] 23)).heap.size = w.heap.size + 1 := by simp
  have hx2 := bl (w.alloc (.cells #[.int .i64 z, .int .i64 d, .int .i64 s, .int .i64 l, .int .i64 a] 23)) (.cells #[.slice x.A N x.c] 26)
  have GG := (g5_new w z d s l a).keep hx2 (by omega)
  have TT := c1_new (w.alloc (.cells #[.int .i64 z, .int .i64 d, .int .i64 s, .int .i64 l, .int .i64 a] 23)) (.slice x.A N x.c) 26
  rw [s1] at TT
  have lT : w.heap.size + 1 < ((w.alloc (.cells #[.int .i64 z, .int .i64 d, .int .i64 s, .int .i64 l, .int .i64 a] 23)).alloc (.cells #[.slice x.A N x.c] 26)).heap.size := by simp
  have hw := kal (bl w (.cells #[.int .i64 z, .int .i64 d, .int .i64 s, .int .i64 l, .int .i64 a] 23)) (.cells #[.slice x.A N x.c] 26)
  clear s1 hx2
  go_enter Try.func13, Try.ntmps13
  go_upto_region 1 with fail
  generalize ((w.alloc (.cells #[.int .i64 z, .int .i64 d, .int .i64 s, .int .i64 l, .int .i64 a] 23)).alloc (.cells #[.slice x.A N x.c] 26)) = w0 at *
  obtain ⟨g0, g1, g2, g3, g4⟩ := id GG
  have t0 := TT.c0
  go_wp2_with (go_at_call 29; (with_reducible refine (HC.out _ hw).mono ?_); rintro e w1 ⟨rfl, hb1⟩)
  go_ret3
  exact ⟨⟨none, 0, none, 0, rfl⟩, bt hw hb1⟩
set_option maxRecDepth 100000 in
set_option maxHeartbeats 8000000 in
theorem block_what (z s l a i : Int) (D : Nat) (x : tbl.TV) (N : Nat) (A : Option Addr) (n c : Nat) (w : World) (hi : ¬ (-1 ≤ i ∧ i ≤ (D : Int) - 1)) (cC : ∀ W, Below w.heap.size w W → Calls Try.prog 29 #[.agg #[.int .i64 z, .int .i64 D, .int .i64 s, .int .i64 l, .int .i64 a], .agg #[.slice x.A N x.c], .slice A n c] W fun e w' => e = .returned (.int .i64 0) ∧ Below W.heap.size W w') :
    Calls Try.prog 12 #[.agg #[.int .i64 z, .int .i64 D, .int .i64 s, .int .i64 l, .int .i64 a], .agg #[.slice x.A N x.c], .slice A n c, .int .i64 i] w fun e w' => tbl.NonE 1 e ∧ Below w.heap.size w w' := by
  have q : (i != -1) = true := bne_iff_ne.2 (by omega)
  have HC := Lib.hid cC
  clear cC
  have s1 : (w.alloc (.cells #[.int .i64 z, .int .i64 D, .int .i64 s, .int .i64 l, .int .i64 a] 23)).heap.size = w.heap.size + 1 := by simp
  have hx2 := bl (w.alloc (.cells #[.int .i64 z, .int .i64 D, .int .i64 s, .int .i64 l, .int .i64 a] 23)) (.cells #[.slice x.A N x.c] 26)
  have GG := (g5_new w z D s l a).keep hx2 (by omega)
  have TT := c1_new (w.alloc (.cells #[.int .i64 z, .int .i64 D, .int .i64 s, .int .i64 l, .int .i64 a] 23)) (.slice x.A N x.c) 26
  rw [s1] at TT
  have lT : w.heap.size + 1 < ((w.alloc (.cells #[.int .i64 z, .int .i64 D, .int .i64 s, .int .i64 l, .int .i64 a] 23)).alloc (.cells #[.slice x.A N x.c] 26)).heap.size := by simp
  have hw := kal (bl w (.cells #[.int .i64 z, .int .i64 D, .int .i64 s, .int .i64 l, .int .i64 a] 23)) (.cells #[.slice x.A N x.c] 26)
  clear s1 hx2
  go_enter Try.func12, Try.ntmps12
  go_upto_region 1 with fail
  generalize ((w.alloc (.cells #[.int .i64 z, .int .i64 D, .int .i64 s, .int .i64 l, .int .i64 a] 23)).alloc (.cells #[.slice x.A N x.c] 26)) = w0 at *
  obtain ⟨g0, g1, g2, g3, g4⟩ := id GG
  have t0 := TT.c0
  go_upto_region 4 with (go_at_call 29; (with_reducible refine (HC.out _ hw).mono ?_); rintro e w1 ⟨rfl, hb1⟩)
  replace GG := GG.keep hb1 (by omega)
  replace hw := bt hw hb1
  clear t0 TT hb1 lT HC g0 g1 g2 g3 g4
  obtain ⟨g0, g1, g2, g3, g4⟩ := id GG
  by_cases h0 : i < 0
  · clear hi
    go_wp2_with fail
    go_ret2
    exact ⟨⟨none, 0, rfl⟩, hw⟩
  · have h1 : (D : Int) ≤ i := by omega
    clear hi
    go_wp2_with fail
    go_ret2
    exact ⟨⟨none, 0, rfl⟩, hw⟩
set_option maxRecDepth 100000 in
set_option maxHeartbeats 8000000 in
theorem block_c (z s l a i : Int) (D k : Nat) (x : tbl.TV) (N : Nat) (A : Option Addr) (n c : Nat) (w : World) (L : List UInt8) (m : Nat) (b : Bool) (hi : i = -1 ∨ 0 ≤ i ∧ i < D) (hk : (if i = -1 then (D : Int) else i) = (k : Nat)) (cC : ∀ W, Below w.heap.size w W → Calls Try.prog 29 #[.agg #[.int .i64 z, .int .i64 D, .int .i64 s, .int .i64 l, .int .i64 a], .agg #[.slice x.A N x.c], .slice A n c] W fun e w' => e = .returned (.int .i64 0) ∧ Below W.heap.size W w') (cF : ∀ W, Below w.heap.size w W → Calls Try.prog 30 #[.agg #[.slice x.A N x.c], .slice A n c, .int .i64 k] W fun e w' => (∃ (X : Option Addr) (y : Nat), e = .returned (.tuple #[.slice X m y, .bool b]) ∧ Own w' W.heap.size 5 (.slice X m y) L) ∧ Below W.heap.size W w') :
    Calls Try.prog 12 #[.agg #[.int .i64 z, .int .i64 D, .int .i64 s, .int .i64 l, .int .i64 a], .agg #[.slice x.A N x.c], .slice A n c, .int .i64 i] w fun e w' => (∃ (X : Option Addr) (y : Nat), e = .returned (.tuple #[.slice X (if b = true then m else 0) y, .int .i64 (if b = true then 0 else 13)]) ∧ Own w' w.heap.size 5 (.slice X (if b = true then m else 0) y) (if b = true then L else [])) ∧ Below w.heap.size w w' := by
  have HC := Lib.hid cC
  have HF := Lib.hid cF
  have HM := Lib.hid (show ∀ W, Calls Try.prog 31 #[.agg #[.int .i64 z, .int .i64 D, .int .i64 s, .int .i64 l, .int .i64 a], .int .i64 i] W fun e w' => e = .returned (.int .i64 (k : Nat)) ∧ Below W.heap.size W w' from fun W => by
    have h := member_c z s l a i D W
    rw [hk] at h
    exact h)
  clear cC cF hk
  have s1 : (w.alloc (.cells #[.int .i64 z, .int .i64 D, .int .i64 s, .int .i64 l, .int .i64 a] 23)).heap.size = w.heap.size + 1 := by simp
  have hx2 := bl (w.alloc (.cells #[.int .i64 z, .int .i64 D, .int .i64 s, .int .i64 l, .int .i64 a] 23)) (.cells #[.slice x.A N x.c] 26)
  have GG := (g5_new w z D s l a).keep hx2 (by omega)
  have TT := c1_new (w.alloc (.cells #[.int .i64 z, .int .i64 D, .int .i64 s, .int .i64 l, .int .i64 a] 23)) (.slice x.A N x.c) 26
  rw [s1] at TT
  have lT : w.heap.size + 1 < ((w.alloc (.cells #[.int .i64 z, .int .i64 D, .int .i64 s, .int .i64 l, .int .i64 a] 23)).alloc (.cells #[.slice x.A N x.c] 26)).heap.size := by simp
  have hw := kal (bl w (.cells #[.int .i64 z, .int .i64 D, .int .i64 s, .int .i64 l, .int .i64 a] 23)) (.cells #[.slice x.A N x.c] 26)
  clear s1 hx2
  go_enter Try.func12, Try.ntmps12
  go_upto_region 1 with fail
  generalize ((w.alloc (.cells #[.int .i64 z, .int .i64 D, .int .i64 s, .int .i64 l, .int .i64 a] 23)).alloc (.cells #[.slice x.A N x.c] 26)) = w0 at *
  obtain ⟨g0, g1, g2, g3, g4⟩ := id GG
  have t0 := TT.c0
  go_upto_region 4 with (go_at_call 29; (with_reducible refine (HC.out _ hw).mono ?_); rintro e w1 ⟨rfl, hb1⟩)
  replace GG := GG.keep hb1 (by omega)
  replace TT := TT.keep hb1 lT
  replace lT := Nat.lt_of_lt_of_le lT hb1.size
  replace hw := bt hw hb1
  clear t0 hb1 HC g0 g1 g2 g3 g4
  obtain ⟨g0, g1, g2, g3, g4⟩ := id GG
  have t0 := TT.c0
  have HS := Lib.hid (show ∀ W, Below w1.heap.size w1 W → (W.cell? ⟨w.heap.size, 0, none⟩ = some (.int .i64 z) ∧ W.cell? ⟨w.heap.size, 1, none⟩ = some (.int .i64 D) ∧ W.cell? ⟨w.heap.size, 2, none⟩ = some (.int .i64 s) ∧ W.cell? ⟨w.heap.size, 3, none⟩ = some (.int .i64 l) ∧ W.cell? ⟨w.heap.size, 4, none⟩ = some (.int .i64 a)) ∧ W.cell? ⟨w.heap.size + 1, 0, none⟩ = some (.slice x.A N x.c) ∧ Below w1.heap.size w1 W from fun W h => ⟨⟨kst h (by omega) g0, kst h (by omega) g1, kst h (by omega) g2, kst h (by omega) g3, kst h (by omega) g4⟩, kst h lT t0, h⟩)
  have HI := Lib.hid hi
  have hi3 : ((i != -1) = false) ∨ ((i != -1) = true ∧ ¬ i < 0 ∧ ¬ (D : Int) ≤ i) := by
    rcases hi with h | ⟨h, h2⟩
    · exact .inl (by rw [h]; rfl)
    · exact .inr ⟨bne_iff_ne.2 (by omega), by omega, by omega⟩
  clear hi
  rcases hi3 with q1 | ⟨q1, q2, q3⟩
  all_goals
    go_upto_region 6 with fail
    clear g0 g1 g2 g3 g4 t0 GG TT
    go_region_held3 (fun W => (W.cell? ⟨w.heap.size, 0, none⟩ = some (.int .i64 z) ∧ W.cell? ⟨w.heap.size, 1, none⟩ = some (.int .i64 D) ∧ W.cell? ⟨w.heap.size, 2, none⟩ = some (.int .i64 s) ∧ W.cell? ⟨w.heap.size, 3, none⟩ = some (.int .i64 l) ∧ W.cell? ⟨w.heap.size, 4, none⟩ = some (.int .i64 a)) ∧ W.cell? ⟨w.heap.size + 1, 0, none⟩ = some (.slice x.A N x.c) ∧ Below w1.heap.size w1 W)
      (first
        | exact HS.out _ (below_dr (Below.refl _ _))
        | exact HS.out _ hbS
        | fail)
      (first
        | (go_at_call 31; (with_reducible refine (HM.out _).mono ?_); rintro e w2 ⟨rfl, hb2⟩; have hbq : Below w1.heap.size w1 w2 := (by first | exact bt hbS hb2 | exact bt (below_dr (Below.refl w1.heap.size w1)) hb2); (try clear hbS); have hbS := hbq; clear hbq)
        | (go_at_call 30; have lov := (bt hw (by first | exact hbS | exact below_dr (Below.refl w1.heap.size w1))).size; (with_reducible refine (HF.out _ (bt hw (by first | exact hbS | exact below_dr (Below.refl _ _)))).mono ?_); rintro e w3 ⟨⟨X, y, rfl, hov⟩, hb3⟩; have hbq : Below w1.heap.size w1 w3 := (by first | exact bt hbS hb3 | exact bt (below_dr (Below.refl w1.heap.size w1)) hb3); (try clear hbS); have hbS := hbq; clear hbq)
        | fail)
    have hov2 := Lib.hid (hov.less lov)
    have hw3 := bt hw hbS
    clear hov lov hbS HS
    cases b
    · go_wp2
      go_ret2
      exact ⟨⟨none, 0, rfl, own_nil _ _ _⟩, hw3⟩
    · go_wp2
      go_ret2
      exact ⟨⟨X, y, rfl, hov2.out⟩, hw3⟩
set_option maxRecDepth 100000 in
set_option maxHeartbeats 8000000 in
theorem all_c (z s l a : Int) (D : Nat) (x : tbl.TV) (N : Nat) (A : Option Addr) (n c : Nat) (w : World) (es : List Ent) (hs : List (List UInt8)) (hnD : n = D + 1) (hD : D ≤ 4) (cC : ∀ W, Below w.heap.size w W → Calls Try.prog 29 #[.agg #[.int .i64 z, .int .i64 D, .int .i64 s, .int .i64 l, .int .i64 a], .agg #[.slice x.A N x.c], .slice A n c] W fun e w' => e = .returned (.int .i64 0) ∧ Below W.heap.size W w') (cF : ∀ W, Below w.heap.size w W → ∀ k : Nat, k < n → Calls Try.prog 30 #[.agg #[.slice x.A N x.c], .slice A n c, .int .i64 k] W fun e w' => FndZ W.heap.size (known n es hs k) e w' ∧ Below W.heap.size W w') :
    Calls Try.prog 13 #[.agg #[.int .i64 z, .int .i64 D, .int .i64 s, .int .i64 l, .int .i64 a], .agg #[.slice x.A N x.c], .slice A n c] w fun e w' => AllZ n (knowns n es hs) e w' ∧ Below w.heap.size w w' := by
  have HC := Lib.hid cC
  have HF := Lib.hid cF
  have HnD := Lib.hid hnD
  have hn5 : n ≤ 5 := by omega
  clear cC cF hnD
  have s1 : (w.alloc (.cells #[.int .i64 z, .int .i64 D, .int .i64 s, .int .i64 l, .int .i64 a] 23)).heap.size = w.heap.size + 1 := by simp
  have hx2 := bl (w.alloc (.cells #[.int .i64 z, .int .i64 D, .int .i64 s, .int .i64 l, .int .i64 a] 23)) (.cells #[.slice x.A N x.c] 26)
  have GG := (g5_new w z D s l a).keep hx2 (by omega)
  have TT := c1_new (w.alloc (.cells #[.int .i64 z, .int .i64 D, .int .i64 s, .int .i64 l, .int .i64 a] 23)) (.slice x.A N x.c) 26
  rw [s1] at TT
  have lT : w.heap.size + 1 < ((w.alloc (.cells #[.int .i64 z, .int .i64 D, .int .i64 s, .int .i64 l, .int .i64 a] 23)).alloc (.cells #[.slice x.A N x.c] 26)).heap.size := by simp
  have hw := kal (bl w (.cells #[.int .i64 z, .int .i64 D, .int .i64 s, .int .i64 l, .int .i64 a] 23)) (.cells #[.slice x.A N x.c] 26)
  clear s1 hx2
  go_enter Try.func13, Try.ntmps13
  go_upto_region 1 with fail
  generalize ((w.alloc (.cells #[.int .i64 z, .int .i64 D, .int .i64 s, .int .i64 l, .int .i64 a] 23)).alloc (.cells #[.slice x.A N x.c] 26)) = w0 at *
  obtain ⟨g0, g1, g2, g3, g4⟩ := id GG
  have t0 := TT.c0
  go_upto_region 4 with (go_at_call 29; (with_reducible refine (HC.out _ hw).mono ?_); rintro e w1 ⟨rfl, hb1⟩)
  replace TT := TT.keep hb1 lT
  replace lT := Nat.lt_of_lt_of_le lT hb1.size
  replace hw := bt hw hb1
  clear t0 hb1 HC g0 g1 g2 g3 g4 GG
  have t0 := TT.c0
  go_upto_region 5 with fail
  go_loopw [6, 7, 22] (fun v u i w' => ∃ (k : Nat) (rows : List Row), k ≤ n ∧ i = .int .i64 k ∧ OwnRows w' w1.heap.size v rows ((knowns n es hs).take k) ∧ OwnV w' w1.heap.size 4 u (bools (kn ((knowns n es hs).take k))) ∧ Below w1.heap.size w1 w') (fun _ _ i _ => n - (RowKit.intOf i).toNat)
  case atStart => exact ⟨0, [], by omega, rfl, ownRows_nil _ _, ownV_nil _ _ _, Below.refl _ _⟩
  case round =>
    obtain ⟨w6, rfl⟩ : ∃ x, x = wr := ⟨wr, rfl⟩
    obtain ⟨k, rows, hk, rfl, hor, hob, hbr⟩ := hrel
    by_cases hlt : k < n
    · have j1 : (k : Int) < (n : Int) := by omega
      have t6 := kst hbr lT t0
      have HK := Lib.hid (take_next (knowns_get es hs hlt))
      have HFK := Lib.hid (HF.out w6 (bt hw hbr) k hlt)
      have lw := hbr.size
      have hlr : rows.length = k := by rw [hor.len, List.length_take, knowns_length]; omega
      have hlb : (bools (kn ((knowns n es hs).take k))).length = k := by rw [bools_length, kn_length, List.length_take, knowns_length]; omega
      have HOR := Lib.hid hor
      have HOB := Lib.hid hob
      clear t0 hor hob
      go_upto_region 8 with (go_at_call 30; (with_reducible refine HFK.out.mono ?_); rintro e w7 ⟨⟨X, y, rfl, hov⟩, hb7⟩)
      have HOV := Lib.hid (hov.less lw)
      have HR7 := Lib.hid (HOR.out.below hb7)
      have HB7 := Lib.hid (HOB.out.below hb7)
      have l7 := Nat.le_trans lw hb7.size
      have hb17 := bt hbr hb7
      clear hov HOR HOB t6 hb7 HFK
      generalize known n es hs k = L at *
      have hv1 : (vals rows).length = k := by rw [vals_length, hlr]
      have HON := Lib.hid (HR7.out.alloc (.cells #[.slice X L.length y] 31))
      have HOB2 := Lib.hid (HB7.out.alloc (.cells #[.slice X L.length y] 31))
      have HOV2 := Lib.hid (HOV.out.alloc (.cells #[.slice X L.length y] 31))
      go_upto_region 9 with (at_builtin; refine wpList_appV _ rfl (.tmp 32) (.tmp 34) _ _ rfl w1.heap.size 31 tv _ (vals rows) rfl HON.out.1 _ [Row.v ⟨X, y, L⟩] rfl (srcV_one w7 Try.underlying27 _ rfl _) (by rw [hv1]; unfold maxLen; simp; omega) (by rw [hv1]; simp; omega) (by simp; omega) ?_; intro v8 w8 hown8 hg8 hat8)
      have HR8 := Lib.hid (HON.out.more (r := ⟨X, y, L⟩) HOV2.out hown8 hg8)
      have HB8 := Lib.hid (World.ownsRow.kept HOB2.out hg8 (rows_apart HOB2.out HON.out.1 bool_row))
      have hb18 := (hb17.alloc l7 (.cells #[.slice X L.length y] 31)).grown hg8 (by simp; omega) (fun q hq => (World.ownsRow.lt HON.out.1 q hq).1)
      have l8 := hb18.size
      have hv2 : (bools (kn ((knowns n es hs).take k))).length = k := hlb
      clear hown8 hg8 hat8 HON HOB2 HOV2 HR7 HB7 HOV hv1
      have HOB9 := Lib.hid (show OwnV (w8.alloc (.cells #[.bool (!L.isEmpty)] 4)) w1.heap.size 4 u7 (bools (kn ((knowns n es hs).take k))) from OwnV.alloc HB8.out _)
      go_upto_region 10 with (at_builtin; refine wpList_appV _ rfl (.tmp 36) (.tmp 38) _ _ rfl w1.heap.size 4 tvB _ (bools (kn ((knowns n es hs).take k))) rfl HOB9.out _ [.bool (!L.isEmpty)] rfl (srcV_one w8 Try.underlying35 _ rfl _) (by rw [hv2]; unfold maxLen; simp; omega) (by rw [hv2]; simp; omega) (by simp; omega) ?_; intro v9 w9 hown9 hg9 hat9)
      have hb19 := (hb18.alloc l8 (.cells #[.bool (!L.isEmpty)] 4)).grown hg9 (by simp; omega) (fun q hq => (World.ownsRow.lt HOB9.out q hq).1)
      have HR9 := Lib.hid (OwnRows.kept (HR8.out.alloc (.cells #[.bool (!L.isEmpty)] 4)) HOB9.out row_bool u8_bool hg9)
      have HOW9 := Lib.hid hown9
      clear hown9 hg9 hat9 HOB9 HB8 HR8
      go_wp2_with fail
      go_roundw
      case rel => exact ⟨k + 1, rows ++ [⟨X, y, L⟩], by omega, by go_num, by rw [HK.out]; exact HR9.out, by rw [HK.out]; simp only [kn, List.map_append, bools, List.map_cons, List.map_nil] at HOW9 ⊢; exact HOW9.out, hb19⟩
      case measure => simp [RowKit.intOf]; omega
    · have j1 : ¬ (k : Int) < (n : Int) := by omega
      have e9 : (knowns n es hs).take k = knowns n es hs := List.take_of_length_le (by rw [knowns_length]; omega)
      rw [e9] at hor hob
      have hll : rows.length = n := by rw [hor.len, knowns_length]
      obtain ⟨Y, yc, hv, hin⟩ := rows_lv hor
      obtain ⟨K, kc, hu, -, -, hsl, -⟩ := hob.form
      rw [bools_length, kn_length, knowns_length] at hu
      rw [hll] at hv
      subst hv hu
      have HO := Lib.hid (show lists rows = knowns n es hs from hor.2.1)
      have HI := Lib.hid hin
      have HSL := Lib.hid hsl
      clear hor hob e9 hin hsl
      go_wp2_with fail
      go_ret3
      exact ⟨⟨Y, yc, rows, K, kc, rfl, HO.out, HI.out, HSL.out⟩, bt hw hbr⟩
end Go.Proofs.Ytajjmllolaajoaa.zon
