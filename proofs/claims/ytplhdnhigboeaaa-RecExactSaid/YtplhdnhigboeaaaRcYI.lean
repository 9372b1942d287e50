/-
  The developers' own Read. Conditions: fewer than 2^20 bytes.
-/
import Derived.Test.YtplhdnhigboeaaaRcYE
import Derived.Test.YtplhdnhigboeaaaRcYH
namespace Go.Proofs.Ytplhdnhigboeaaa.lrc
open Go.RowKit Go.Lib
open Go.Proofs.Ytplhdnhigboeaaa.gmt (Ok)
open Go.Proofs.Ytplhdnhigboeaaa.anc (bl kal kst ks bm ka)
open Go.Proofs.Ytplhdnhigboeaaa.tbl (C1 c1_new G5 g5_new)
open Go.Proofs.Ytplhdnhigboeaaa.img
open Go.Proofs.Ytplhdnhigboeaaa.pck (le le_length num unrow unrow_any)

set_option maxRecDepth 100000 in
set_option maxHeartbeats 8000000 in
theorem read_geo_c (z d s l a : Int) (A : Option Addr) (n c : Nat) (w : World) (ho : ¬ Ok z d s l a) :
    Calls Try.prog 12 #[.agg #[.int .i64 z, .int .i64 d, .int .i64 s, .int .i64 l, .int .i64 a], .slice A n c] w fun e w' => RdNo 1 e ∧ Below w.heap.size w w' := by
  have s1 : (w.alloc (.cells #[.int .i64 z, .int .i64 d, .int .i64 s, .int .i64 l, .int .i64 a] 23)).heap.size = w.heap.size + 1 := by simp
  have hx2 := bl (w.alloc (.cells #[.int .i64 z, .int .i64 d, .int .i64 s, .int .i64 l, .int .i64 a] 23)) (.cells #[.int .i64 0, .int .i64 0, .int .i64 0, .int .i64 0, .int .i64 0, .int .i64 0, .int .i64 0, .slice none 0 0] 28)
  have GG := (g5_new w z d s l a).keep hx2 (by omega)
  have TT := eig_new (w.alloc (.cells #[.int .i64 z, .int .i64 d, .int .i64 s, .int .i64 l, .int .i64 a] 23)) (.int .i64 0) (.int .i64 0) (.int .i64 0) (.int .i64 0) (.int .i64 0) (.int .i64 0) (.int .i64 0) (.slice none 0 0) 28
  rw [s1] at TT
  have hw := kal (bl w (.cells #[.int .i64 z, .int .i64 d, .int .i64 s, .int .i64 l, .int .i64 a] 23)) (.cells #[.int .i64 0, .int .i64 0, .int .i64 0, .int .i64 0, .int .i64 0, .int .i64 0, .int .i64 0, .slice none 0 0] 28)
  have l2 : ((w.alloc (.cells #[.int .i64 z, .int .i64 d, .int .i64 s, .int .i64 l, .int .i64 a] 23)).alloc (.cells #[.int .i64 0, .int .i64 0, .int .i64 0, .int .i64 0, .int .i64 0, .int .i64 0, .int .i64 0, .slice none 0 0] 28)).heap.size = w.heap.size + 2 := by simp
  have HG := Lib.hid fun W => gmt.check_no z d s l a W ho
  clear s1 hx2 ho
  go_enter Try.func12, Try.ntmps12
  go_upto_region 1 with fail
  generalize (w.alloc (.cells #[.int .i64 z, .int .i64 d, .int .i64 s, .int .i64 l, .int .i64 a] 23)).alloc (.cells #[.int .i64 0, .int .i64 0, .int .i64 0, .int .i64 0, .int .i64 0, .int .i64 0, .int .i64 0, .slice none 0 0] 28) = w0 at *
  obtain ⟨g0, g1, g2, g3, g4⟩ := id GG
  go_upto_region 3 with (go_at_call 34; (with_reducible refine (HG.out _).mono ?_); rintro e w2 ⟨rfl, hb2⟩)
  have T2 := TT.keep hb2 (by omega)
  have B2 := bt hw hb2
  obtain ⟨t0, t1, t2, t3, t4, t5, t6, t7, f0, f1, f2, f3, f4, f5, f6, f7⟩ := id T2
  go_wp2_with fail
  have k9 := T2.all (.int .i64 0) (.int .i64 0) (.int .i64 0) (.int .i64 0) (.int .i64 0) (.int .i64 0) (.int .i64 0) (.slice none 0 0)
  exact bodyPost_ret (v := .tuple #[.agg #[.int .i64 0, .int .i64 0, .int .i64 0, .int .i64 0, .int .i64 0, .int .i64 0, .int .i64 0, .slice none 0 0], .int .i64 1]) (by simp [results, Try.results12, go_sem, k9.c0, k9.c1, k9.c2, k9.c3, k9.c4, k9.c5, k9.c6, k9.c7]) rfl ⟨⟨none, 0, by decide, rfl⟩, below_all B2 (Nat.le_succ _) _ _ _ _ _ _ _ _⟩
set_option maxRecDepth 100000 in
set_option maxHeartbeats 8000000 in
theorem read_bad_c (z d s l a : Int) (A : Option Addr) (n c : Nat) (w : World) (ho : Ok z d s l a) (hP : ∀ W, Below w.heap.size w W → Calls Try.prog 35 #[.slice A n c] W fun e w' => e = .returned (.tuple #[.agg #[.int .i64 0, .int .i64 0, .int .i64 0, .int .i64 0, .int .i64 0, .int .i64 0, .int .i64 0, .slice none 0 0], .slice none 0 0, .int .i64 4]) ∧ Below W.heap.size W w') :
    Calls Try.prog 12 #[.agg #[.int .i64 z, .int .i64 d, .int .i64 s, .int .i64 l, .int .i64 a], .slice A n c] w fun e w' => RdNo 4 e ∧ Below w.heap.size w w' := by
  have s1 : (w.alloc (.cells #[.int .i64 z, .int .i64 d, .int .i64 s, .int .i64 l, .int .i64 a] 23)).heap.size = w.heap.size + 1 := by simp
  have hx2 := bl (w.alloc (.cells #[.int .i64 z, .int .i64 d, .int .i64 s, .int .i64 l, .int .i64 a] 23)) (.cells #[.int .i64 0, .int .i64 0, .int .i64 0, .int .i64 0, .int .i64 0, .int .i64 0, .int .i64 0, .slice none 0 0] 28)
  have GG := (g5_new w z d s l a).keep hx2 (by omega)
  have TT := eig_new (w.alloc (.cells #[.int .i64 z, .int .i64 d, .int .i64 s, .int .i64 l, .int .i64 a] 23)) (.int .i64 0) (.int .i64 0) (.int .i64 0) (.int .i64 0) (.int .i64 0) (.int .i64 0) (.int .i64 0) (.slice none 0 0) 28
  rw [s1] at TT
  have hw := kal (bl w (.cells #[.int .i64 z, .int .i64 d, .int .i64 s, .int .i64 l, .int .i64 a] 23)) (.cells #[.int .i64 0, .int .i64 0, .int .i64 0, .int .i64 0, .int .i64 0, .int .i64 0, .int .i64 0, .slice none 0 0] 28)
  have l2 : ((w.alloc (.cells #[.int .i64 z, .int .i64 d, .int .i64 s, .int .i64 l, .int .i64 a] 23)).alloc (.cells #[.int .i64 0, .int .i64 0, .int .i64 0, .int .i64 0, .int .i64 0, .int .i64 0, .int .i64 0, .slice none 0 0] 28)).heap.size = w.heap.size + 2 := by simp
  have HG := Lib.hid fun W => gmt.check_ok z d s l a W ho
  have HP := Lib.hid hP
  clear s1 hx2 ho hP
  go_enter Try.func12, Try.ntmps12
  go_upto_region 1 with fail
  generalize (w.alloc (.cells #[.int .i64 z, .int .i64 d, .int .i64 s, .int .i64 l, .int .i64 a] 23)).alloc (.cells #[.int .i64 0, .int .i64 0, .int .i64 0, .int .i64 0, .int .i64 0, .int .i64 0, .int .i64 0, .slice none 0 0] 28) = w0 at *
  obtain ⟨g0, g1, g2, g3, g4⟩ := id GG
  go_upto_region 4 with (go_at_call 34; (with_reducible refine (HG.out _).mono ?_); rintro e w2 ⟨rfl, hb2⟩)
  have T2 := TT.keep hb2 (by omega)
  have B2 := bt hw hb2
  have l3 := hb2.size
  go_upto_region 5 with (go_at_call 35; (with_reducible refine (HP.out _ B2).mono ?_); rintro e w3 ⟨rfl, hb3⟩)
  have T3 := T2.keep (kal hb3 (.cells #[.int .i64 0, .int .i64 0, .int .i64 0, .int .i64 0, .int .i64 0, .int .i64 0, .int .i64 0, .slice none 0 0] 28)) (by omega)
  have B3 := bt B2 (kal hb3 (.cells #[.int .i64 0, .int .i64 0, .int .i64 0, .int .i64 0, .int .i64 0, .int .i64 0, .int .i64 0, .slice none 0 0] 28))
  generalize w3.alloc (.cells #[.int .i64 0, .int .i64 0, .int .i64 0, .int .i64 0, .int .i64 0, .int .i64 0, .int .i64 0, .slice none 0 0] 28) = w4 at *
  obtain ⟨t0, t1, t2, t3, t4, t5, t6, t7, f0, f1, f2, f3, f4, f5, f6, f7⟩ := id T3
  go_wp2_with fail
  have k9 := T3.all (.int .i64 0) (.int .i64 0) (.int .i64 0) (.int .i64 0) (.int .i64 0) (.int .i64 0) (.int .i64 0) (.slice none 0 0)
  exact bodyPost_ret (v := .tuple #[.agg #[.int .i64 0, .int .i64 0, .int .i64 0, .int .i64 0, .int .i64 0, .int .i64 0, .int .i64 0, .slice none 0 0], .int .i64 4]) (by simp [results, Try.results12, go_sem, k9.c0, k9.c1, k9.c2, k9.c3, k9.c4, k9.c5, k9.c6, k9.c7]) rfl ⟨⟨none, 0, by decide, rfl⟩, below_all B3 (Nat.le_succ _) _ _ _ _ _ _ _ _⟩
set_option maxRecDepth 100000 in
set_option maxHeartbeats 8000000 in
theorem read_rest_c (z d s l a kd sq ep ps nm y wh : Int) (A : Option Addr) (n c q m : Nat) (L : List UInt8) (w : World) (ho : Ok z d s l a) (hq : 0 < q) (hP : ∀ W, Below w.heap.size w W → Calls Try.prog 35 #[.slice A n c] W fun e w' => (∃ X x Y yc, e = .returned (.tuple #[.agg #[.int .i64 kd, .int .i64 sq, .int .i64 ep, .int .i64 ps, .int .i64 nm, .int .i64 y, .int .i64 wh, .slice X m x], .slice Y q yc, .int .i64 0]) ∧ Own w' W.heap.size 5 (.slice X m x) L) ∧ Below W.heap.size W w') :
    Calls Try.prog 12 #[.agg #[.int .i64 z, .int .i64 d, .int .i64 s, .int .i64 l, .int .i64 a], .slice A n c] w fun e w' => RdNo 4 e ∧ Below w.heap.size w w' := by
  have s1 : (w.alloc (.cells #[.int .i64 z, .int .i64 d, .int .i64 s, .int .i64 l, .int .i64 a] 23)).heap.size = w.heap.size + 1 := by simp
  have hx2 := bl (w.alloc (.cells #[.int .i64 z, .int .i64 d, .int .i64 s, .int .i64 l, .int .i64 a] 23)) (.cells #[.int .i64 0, .int .i64 0, .int .i64 0, .int .i64 0, .int .i64 0, .int .i64 0, .int .i64 0, .slice none 0 0] 28)
  have GG := (g5_new w z d s l a).keep hx2 (by omega)
  have TT := eig_new (w.alloc (.cells #[.int .i64 z, .int .i64 d, .int .i64 s, .int .i64 l, .int .i64 a] 23)) (.int .i64 0) (.int .i64 0) (.int .i64 0) (.int .i64 0) (.int .i64 0) (.int .i64 0) (.int .i64 0) (.slice none 0 0) 28
  rw [s1] at TT
  have hw := kal (bl w (.cells #[.int .i64 z, .int .i64 d, .int .i64 s, .int .i64 l, .int .i64 a] 23)) (.cells #[.int .i64 0, .int .i64 0, .int .i64 0, .int .i64 0, .int .i64 0, .int .i64 0, .int .i64 0, .slice none 0 0] 28)
  have l2 : ((w.alloc (.cells #[.int .i64 z, .int .i64 d, .int .i64 s, .int .i64 l, .int .i64 a] 23)).alloc (.cells #[.int .i64 0, .int .i64 0, .int .i64 0, .int .i64 0, .int .i64 0, .int .i64 0, .int .i64 0, .slice none 0 0] 28)).heap.size = w.heap.size + 2 := by simp
  have HG := Lib.hid fun W => gmt.check_ok z d s l a W ho
  have HP := Lib.hid hP
  clear s1 hx2 hP
  go_enter Try.func12, Try.ntmps12
  go_upto_region 1 with fail
  generalize (w.alloc (.cells #[.int .i64 z, .int .i64 d, .int .i64 s, .int .i64 l, .int .i64 a] 23)).alloc (.cells #[.int .i64 0, .int .i64 0, .int .i64 0, .int .i64 0, .int .i64 0, .int .i64 0, .int .i64 0, .slice none 0 0] 28) = w0 at *
  obtain ⟨g0, g1, g2, g3, g4⟩ := id GG
  go_upto_region 4 with (go_at_call 34; (with_reducible refine (HG.out _).mono ?_); rintro e w2 ⟨rfl, hb2⟩)
  have T2 := TT.keep hb2 (by omega)
  have G2 := GG.keep hb2 (by omega)
  have B2 := bt hw hb2
  have l3 := hb2.size
  clear g0 g1 g2 g3 g4 GG TT
  go_upto_region 5 with (go_at_call 35; (with_reducible refine (HP.out _ B2).mono ?_); rintro e w3 ⟨⟨X, x, Y, yc, rfl, o3⟩, hb3⟩)
  have l4 := hb3.size
  have R4 := c8_new w3 (.int .i64 kd) (.int .i64 sq) (.int .i64 ep) (.int .i64 ps) (.int .i64 nm) (.int .i64 y) (.int .i64 wh) (.slice X m x) 28
  have T4 := T2.keep (kal hb3 (.cells #[.int .i64 kd, .int .i64 sq, .int .i64 ep, .int .i64 ps, .int .i64 nm, .int .i64 y, .int .i64 wh, .slice X m x] 28)) (by omega)
  have G4 := G2.keep (kal hb3 (.cells #[.int .i64 kd, .int .i64 sq, .int .i64 ep, .int .i64 ps, .int .i64 nm, .int .i64 y, .int .i64 wh, .slice X m x] 28)) (by omega)
  have B4 := bt B2 (kal hb3 (.cells #[.int .i64 kd, .int .i64 sq, .int .i64 ep, .int .i64 ps, .int .i64 nm, .int .i64 y, .int .i64 wh, .slice X m x] 28))
  have o4 := o3.below (bl w3 (.cells #[.int .i64 kd, .int .i64 sq, .int .i64 ep, .int .i64 ps, .int .i64 nm, .int .i64 y, .int .i64 wh, .slice X m x] 28))
  have l5 : w3.heap.size < (w3.alloc (.cells #[.int .i64 kd, .int .i64 sq, .int .i64 ep, .int .i64 ps, .int .i64 nm, .int .i64 y, .int .i64 wh, .slice X m x] 28)).heap.size := by simp
  clear T2 G2 B2 HP HG hw o3 hb3
  generalize w3.alloc (.cells #[.int .i64 kd, .int .i64 sq, .int .i64 ep, .int .i64 ps, .int .i64 nm, .int .i64 y, .int .i64 wh, .slice X m x] 28) = w4 at *
  have i1 : (0 : Int) < (q : Int) := by omega
  clear ho
  obtain ⟨t0, t1, t2, t3, t4, t5, t6, t7, f0, f1, f2, f3, f4, f5, f6, f7⟩ := id T4
  go_wp2_with fail
  have k9 := T4.all (.int .i64 0) (.int .i64 0) (.int .i64 0) (.int .i64 0) (.int .i64 0) (.int .i64 0) (.int .i64 0) (.slice none 0 0)
  exact bodyPost_ret (v := .tuple #[.agg #[.int .i64 0, .int .i64 0, .int .i64 0, .int .i64 0, .int .i64 0, .int .i64 0, .int .i64 0, .slice none 0 0], .int .i64 4]) (by simp [results, Try.results12, go_sem, k9.c0, k9.c1, k9.c2, k9.c3, k9.c4, k9.c5, k9.c6, k9.c7]) rfl ⟨⟨none, 0, by decide, rfl⟩, below_all B4 (Nat.le_succ _) _ _ _ _ _ _ _ _⟩
set_option maxRecDepth 100000 in
set_option maxHeartbeats 8000000 in
theorem read_fin_c (cc : Bool) (z d s l a kd sq ep ps nm y wh : Int) (A : Option Addr) (n c m : Nat) (L : List UInt8) (w : World) (ho : Ok z d s l a) (hP : ∀ W, Below w.heap.size w W → Calls Try.prog 35 #[.slice A n c] W fun e w' => (∃ X x Y yc, e = .returned (.tuple #[.agg #[.int .i64 kd, .int .i64 sq, .int .i64 ep, .int .i64 ps, .int .i64 nm, .int .i64 y, .int .i64 wh, .slice X m x], .slice Y 0 yc, .int .i64 0]) ∧ Own w' W.heap.size 5 (.slice X m x) L) ∧ Below W.heap.size W w') (hm : L.length = m) (hm1 : m ≤ 1048576) (hcc : cc = true ↔ RecOk z d ⟨kd, sq, ep, ps, nm, y, wh, L⟩) :
    Calls Try.prog 12 #[.agg #[.int .i64 z, .int .i64 d, .int .i64 s, .int .i64 l, .int .i64 a], .slice A n c] w fun e w' => (if cc = true then RdR w.heap.size ⟨kd, sq, ep, ps, nm, y, wh, L⟩ e w' else RdNo 4 e) ∧ Below w.heap.size w w' := by
  have s1 : (w.alloc (.cells #[.int .i64 z, .int .i64 d, .int .i64 s, .int .i64 l, .int .i64 a] 23)).heap.size = w.heap.size + 1 := by simp
  have hx2 := bl (w.alloc (.cells #[.int .i64 z, .int .i64 d, .int .i64 s, .int .i64 l, .int .i64 a] 23)) (.cells #[.int .i64 0, .int .i64 0, .int .i64 0, .int .i64 0, .int .i64 0, .int .i64 0, .int .i64 0, .slice none 0 0] 28)
  have GG := (g5_new w z d s l a).keep hx2 (by omega)
  have TT := eig_new (w.alloc (.cells #[.int .i64 z, .int .i64 d, .int .i64 s, .int .i64 l, .int .i64 a] 23)) (.int .i64 0) (.int .i64 0) (.int .i64 0) (.int .i64 0) (.int .i64 0) (.int .i64 0) (.int .i64 0) (.slice none 0 0) 28
  rw [s1] at TT
  have hw := kal (bl w (.cells #[.int .i64 z, .int .i64 d, .int .i64 s, .int .i64 l, .int .i64 a] 23)) (.cells #[.int .i64 0, .int .i64 0, .int .i64 0, .int .i64 0, .int .i64 0, .int .i64 0, .int .i64 0, .slice none 0 0] 28)
  have l2 : ((w.alloc (.cells #[.int .i64 z, .int .i64 d, .int .i64 s, .int .i64 l, .int .i64 a] 23)).alloc (.cells #[.int .i64 0, .int .i64 0, .int .i64 0, .int .i64 0, .int .i64 0, .int .i64 0, .int .i64 0, .slice none 0 0] 28)).heap.size = w.heap.size + 2 := by simp
  have HG := Lib.hid fun W => gmt.check_ok z d s l a W ho
  have HP := Lib.hid hP
  clear s1 hx2 hP
  go_enter Try.func12, Try.ntmps12
  go_upto_region 1 with fail
  generalize (w.alloc (.cells #[.int .i64 z, .int .i64 d, .int .i64 s, .int .i64 l, .int .i64 a] 23)).alloc (.cells #[.int .i64 0, .int .i64 0, .int .i64 0, .int .i64 0, .int .i64 0, .int .i64 0, .int .i64 0, .slice none 0 0] 28) = w0 at *
  obtain ⟨g0, g1, g2, g3, g4⟩ := id GG
  go_upto_region 4 with (go_at_call 34; (with_reducible refine (HG.out _).mono ?_); rintro e w2 ⟨rfl, hb2⟩)
  have T2 := TT.keep hb2 (by omega)
  have G2 := GG.keep hb2 (by omega)
  have B2 := bt hw hb2
  have l3 := hb2.size
  clear g0 g1 g2 g3 g4 GG TT
  go_upto_region 5 with (go_at_call 35; (with_reducible refine (HP.out _ B2).mono ?_); rintro e w3 ⟨⟨X, x, Y, yc, rfl, o3⟩, hb3⟩)
  have l4 := hb3.size
  have R4 := c8_new w3 (.int .i64 kd) (.int .i64 sq) (.int .i64 ep) (.int .i64 ps) (.int .i64 nm) (.int .i64 y) (.int .i64 wh) (.slice X m x) 28
  have T4 := T2.keep (kal hb3 (.cells #[.int .i64 kd, .int .i64 sq, .int .i64 ep, .int .i64 ps, .int .i64 nm, .int .i64 y, .int .i64 wh, .slice X m x] 28)) (by omega)
  have G4 := G2.keep (kal hb3 (.cells #[.int .i64 kd, .int .i64 sq, .int .i64 ep, .int .i64 ps, .int .i64 nm, .int .i64 y, .int .i64 wh, .slice X m x] 28)) (by omega)
  have B4 := bt B2 (kal hb3 (.cells #[.int .i64 kd, .int .i64 sq, .int .i64 ep, .int .i64 ps, .int .i64 nm, .int .i64 y, .int .i64 wh, .slice X m x] 28))
  have o4 := o3.below (bl w3 (.cells #[.int .i64 kd, .int .i64 sq, .int .i64 ep, .int .i64 ps, .int .i64 nm, .int .i64 y, .int .i64 wh, .slice X m x] 28))
  have l5 : w3.heap.size < (w3.alloc (.cells #[.int .i64 kd, .int .i64 sq, .int .i64 ep, .int .i64 ps, .int .i64 nm, .int .i64 y, .int .i64 wh, .slice X m x] 28)).heap.size := by simp
  clear T2 G2 B2 HP HG hw o3 hb3
  generalize w3.alloc (.cells #[.int .i64 kd, .int .i64 sq, .int .i64 ep, .int .i64 ps, .int .i64 nm, .int .i64 y, .int .i64 wh, .slice X m x] 28) = w4 at *
  have HC := Lib.hid (show Calls Try.prog 17 #[.agg #[.int .i64 z, .int .i64 d, .int .i64 s, .int .i64 l, .int .i64 a], .agg #[.int .i64 kd, .int .i64 sq, .int .i64 ep, .int .i64 ps, .int .i64 nm, .int .i64 y, .int .i64 wh, .slice X m x]] w4 fun e w' => e = .returned (.int .i64 (if cc = true then 0 else 1)) ∧ Below w4.heap.size w4 w' from by
    obtain ⟨A', x', he, q1, q2, q3, -⟩ := o4.form
    have e1 : X = A' := (Value.slice.injEq .. ▸ he).1
    have e2 : x = x' := (Value.slice.injEq .. ▸ he).2.2
    rw [← e1] at q3
    rw [← e2] at q1 q2
    exact check_c cc z d s l a ⟨kd, sq, ep, ps, nm, ⟨y, wh, X, x, L⟩⟩ m w4 ⟨q3, q1, q2⟩ hm hm1 (hcc.trans (and_iff_right ho).symm))
  have HM := Lib.hid hm
  clear hm hm1 hcc ho
  obtain ⟨g0, g1, g2, g3, g4⟩ := id G4
  obtain ⟨r0, r1, r2, r3, r4, r5, r6, r7⟩ := id R4
  cases cc
  · replace HC : Hid (Calls Try.prog 17 #[.agg #[.int .i64 z, .int .i64 d, .int .i64 s, .int .i64 l, .int .i64 a], .agg #[.int .i64 kd, .int .i64 sq, .int .i64 ep, .int .i64 ps, .int .i64 nm, .int .i64 y, .int .i64 wh, .slice X m x]] w4 fun e w' => e = .returned (.int .i64 1) ∧ Below w4.heap.size w4 w') := HC
    go_wp2_with (go_at_call 17; (with_reducible refine HC.out.mono ?_); rintro e w5 ⟨rfl, hb5⟩; (have T5 := T4.keep hb5 (by omega)); obtain ⟨u0, u1, u2, u3, u4, u5, u6, u7, y0, y1, y2, y3, y4, y5, y6, y7⟩ := id T5)
    have k9 := T5.all (.int .i64 0) (.int .i64 0) (.int .i64 0) (.int .i64 0) (.int .i64 0) (.int .i64 0) (.int .i64 0) (.slice none 0 0)
    exact bodyPost_ret (v := .tuple #[.agg #[.int .i64 0, .int .i64 0, .int .i64 0, .int .i64 0, .int .i64 0, .int .i64 0, .int .i64 0, .slice none 0 0], .int .i64 4]) (by simp [results, Try.results12, go_sem, k9.c0, k9.c1, k9.c2, k9.c3, k9.c4, k9.c5, k9.c6, k9.c7]) rfl ⟨⟨none, 0, by decide, rfl⟩, below_all (bt B4 hb5) (Nat.le_succ _) _ _ _ _ _ _ _ _⟩
  · replace HC : Hid (Calls Try.prog 17 #[.agg #[.int .i64 z, .int .i64 d, .int .i64 s, .int .i64 l, .int .i64 a], .agg #[.int .i64 kd, .int .i64 sq, .int .i64 ep, .int .i64 ps, .int .i64 nm, .int .i64 y, .int .i64 wh, .slice X m x]] w4 fun e w' => e = .returned (.int .i64 0) ∧ Below w4.heap.size w4 w') := HC
    go_wp2_with (go_at_call 17; (with_reducible refine HC.out.mono ?_); rintro e w5 ⟨rfl, hb5⟩; (have T5 := T4.keep hb5 (by omega)); (obtain ⟨u0, u1, u2, u3, u4, u5, u6, u7, y0, y1, y2, y3, y4, y5, y6, y7⟩ := id T5); (have R5 := R4.keep hb5 l5); obtain ⟨q0, q1, q2, q3, q4, q5, q6, q7⟩ := id R5)
    have k9 := T5.all (.int .i64 kd) (.int .i64 sq) (.int .i64 ep) (.int .i64 ps) (.int .i64 nm) (.int .i64 y) (.int .i64 wh) (.slice X m x)
    have o9 := own_all (g := w.heap.size + 1) ((o4.below hb5).less (show w.heap.size + 2 ≤ w2.heap.size by omega)) (Nat.lt_succ_self _) (.int .i64 kd) (.int .i64 sq) (.int .i64 ep) (.int .i64 ps) (.int .i64 nm) (.int .i64 y) (.int .i64 wh) (.slice X m x)
    exact bodyPost_ret (v := .tuple #[.agg #[.int .i64 kd, .int .i64 sq, .int .i64 ep, .int .i64 ps, .int .i64 nm, .int .i64 y, .int .i64 wh, .slice X m x], .int .i64 0]) (by simp [results, Try.results12, go_sem, k9.c0, k9.c1, k9.c2, k9.c3, k9.c4, k9.c5, k9.c6, k9.c7]) rfl ⟨⟨X, x, by rw [HM.out], by rw [HM.out]; exact o9.less (by omega)⟩, below_all (bt B4 hb5) (Nat.le_succ _) _ _ _ _ _ _ _ _⟩
/-- What Read answers. -/
theorem read_no_c (v : Int) (z d s l a : Int) (A : Option Addr) (n c : Nat) (b : List UInt8) (w : World) (hv : RdWhy z d s l a b v) (hn : b.length = n) (hc : n ≤ c) (hm : c ≤ maxLen) (hl : n ≤ 1048576) (hA : Sl w w.heap.size A b) :
    Calls Try.prog 12 #[.agg #[.int .i64 z, .int .i64 d, .int .i64 s, .int .i64 l, .int .i64 a], .slice A n c] w fun e w' => RdNo v e ∧ Below w.heap.size w w' := by
  rcases hv with ⟨ho, rfl⟩ | ⟨ho, hno, rfl⟩
  · exact read_geo_c z d s l a A n c w ho
  by_cases h11 : b.length < 11
  · exact read_bad_c z d s l a A n c w ho fun W hW => parse_short A c n b W hn (hA.next hW) hc hm (by omega) h11
  by_cases h0 : at1 b 0 = 1
  · by_cases h3 : n < 14 + at1 b 13
    · exact read_bad_c z d s l a A n c w ho fun W hW => parse_bad A c n b W hn (hA.next hW) hc hm (by omega) h11 h0 h3
    · obtain ⟨k, hk⟩ : ∃ k, n = 14 + at1 b 13 + k := ⟨n - (14 + at1 b 13), by omega⟩
      have hP := fun W (hW : Below w.heap.size w W) => parse_ok1 A c n (at1 b 13) k b W hn (hA.next hW) hc hm (by omega) h11 h0 rfl hk
      have hL : ((b.drop 14).take (at1 b 13)).length = at1 b 13 := by rw [List.length_take, List.length_drop]; omega
      rcases Nat.eq_zero_or_pos k with rfl | hkp
      · have hcc : ¬ RecOk z d ⟨at1 b 0, at4 b 1, at4 b 5, at1 b 9, at1 b 10, at1 b 11, whI (at1 b 12), (b.drop 14).take (at1 b 13)⟩ := fun h => hno ⟨⟨by omega, .inl ⟨h0, by omega, by omega⟩⟩, by
          unfold recN
          rw [if_pos h0]
          rwa [List.take_of_length_le (by rw [List.length_drop]; omega)] at h⟩
        have h9 := read_fin_c false z d s l a _ _ _ _ _ _ _ A n c (at1 b 13) _ w ho hP hL (by omega) (iff_of_false Bool.false_ne_true hcc)
        simp only [Bool.false_eq_true, if_false] at h9
        exact h9
      · exact read_rest_c z d s l a _ _ _ _ _ _ _ A n c k (at1 b 13) _ w ho hkp hP
  · have hP := fun W (hW : Below w.heap.size w W) => (parse_ok0 A c n b W hn (hA.next hW) hc hm (by omega) h11 h0).mono (R' := fun e w' => (∃ X x Y yc, e = .returned (.tuple #[.agg #[.int .i64 (at1 b 0), .int .i64 (at4 b 1), .int .i64 (at4 b 5), .int .i64 (at1 b 9), .int .i64 (at1 b 10), .int .i64 0, .int .i64 0, .slice X (0 : Nat) x], .slice Y (n - 11) yc, .int .i64 0]) ∧ Own w' W.heap.size 5 (.slice X (0 : Nat) x) []) ∧ Below W.heap.size W w') (by
      rintro e w' ⟨⟨Y, y, rfl⟩, hb⟩
      exact ⟨⟨none, 0, Y, y, rfl, own_nil _ _ _⟩, hb⟩)
    by_cases hq : n = 11
    · have hcc : ¬ RecOk z d ⟨at1 b 0, at4 b 1, at4 b 5, at1 b 9, at1 b 10, 0, 0, []⟩ := fun h => hno ⟨⟨by omega, .inr ⟨h0, by omega⟩⟩, by
        unfold recN
        rwa [if_neg h0]⟩
      rw [show n - 11 = 0 by omega] at hP
      have h9 := read_fin_c false z d s l a _ _ _ _ _ _ _ A n c 0 [] w ho hP rfl (by omega) (iff_of_false Bool.false_ne_true hcc)
      simp only [Bool.false_eq_true, if_false] at h9
      exact h9
    · exact read_rest_c z d s l a _ _ _ _ _ _ _ A n c (n - 11) 0 [] w ho (by omega) hP
theorem read_yes_c (z d s l a : Int) (A : Option Addr) (n c : Nat) (b : List UInt8) (w : World) (ho : Ok z d s l a) (hn : b.length = n) (hc : n ≤ c) (hm : c ≤ maxLen) (hl : n ≤ 1048576) (hA : Sl w w.heap.size A b) (hr : RdOk z d b) :
    Calls Try.prog 12 #[.agg #[.int .i64 z, .int .i64 d, .int .i64 s, .int .i64 l, .int .i64 a], .slice A n c] w fun e w' => RdR w.heap.size (recN b) e w' ∧ Below w.heap.size w w' := by
  obtain ⟨⟨h11, hlen⟩, hrec⟩ := hr
  by_cases h0 : at1 b 0 = 1
  · obtain ⟨h14, hb⟩ : 14 ≤ b.length ∧ b.length = 14 + at1 b 13 := by
      rcases hlen with h | h
      · exact h.2
      · exact absurd h0 h.1
    have hP := fun W (hW : Below w.heap.size w W) => parse_ok1 A c n (at1 b 13) 0 b W hn (hA.next hW) hc hm (by omega) (by omega) h0 rfl (by omega)
    have hL : ((b.drop 14).take (at1 b 13)).length = at1 b 13 := by rw [List.length_take, List.length_drop]; omega
    have he : recN b = ⟨at1 b 0, at4 b 1, at4 b 5, at1 b 9, at1 b 10, at1 b 11, whI (at1 b 12), (b.drop 14).take (at1 b 13)⟩ := by
      unfold recN
      rw [if_pos h0, List.take_of_length_le (by rw [List.length_drop]; omega)]
    rw [he] at hrec ⊢
    have h9 := read_fin_c true z d s l a _ _ _ _ _ _ _ A n c (at1 b 13) _ w ho hP hL (by omega) (iff_of_true rfl hrec)
    simp only [if_true] at h9
    exact h9
  · have hb : b.length = 11 := by
      rcases hlen with h | h
      · exact absurd h.1 h0
      · exact h.2
    have hP := fun W (hW : Below w.heap.size w W) => (parse_ok0 A c n b W hn (hA.next hW) hc hm (by omega) (by omega) h0).mono (R' := fun e w' => (∃ X x Y yc, e = .returned (.tuple #[.agg #[.int .i64 (at1 b 0), .int .i64 (at4 b 1), .int .i64 (at4 b 5), .int .i64 (at1 b 9), .int .i64 (at1 b 10), .int .i64 0, .int .i64 0, .slice X (0 : Nat) x], .slice Y (n - 11) yc, .int .i64 0]) ∧ Own w' W.heap.size 5 (.slice X (0 : Nat) x) []) ∧ Below W.heap.size W w') (by
      rintro e w' ⟨⟨Y, y, rfl⟩, hb⟩
      exact ⟨⟨none, 0, Y, y, rfl, own_nil _ _ _⟩, hb⟩)
    have he : recN b = ⟨at1 b 0, at4 b 1, at4 b 5, at1 b 9, at1 b 10, 0, 0, []⟩ := by
      unfold recN
      rw [if_neg h0]
    rw [he] at hrec ⊢
    rw [show n - 11 = 0 by omega] at hP
    have h9 := read_fin_c true z d s l a _ _ _ _ _ _ _ A n c 0 [] w ho hP rfl (by omega) (iff_of_true rfl hrec)
    simp only [if_true] at h9
    exact h9
end Go.Proofs.Ytplhdnhigboeaaa.lrc
