/-
  The law ZoneAsks, walked. Conditions: 'Czn'.
-/
import Derived.Test.YtajjmllolaajoaaZnP
import Derived.Test.YtajjmllolaajoaaDkQ
import Derived.IntWalk
namespace Go.Proofs.Ytajjmllolaajoaa.zon
open Go.RowKit Go.Lib
open Go.Proofs.Ytajjmllolaajoaa.gmt (Ok)
open Go.Proofs.Ytajjmllolaajoaa.anc (kal kst ks bm ka)
open Go.Proofs.Ytajjmllolaajoaa.tbl (Ent EntOk C1 c1_new G5 g5_new OwnE)
open Go.Proofs.Ytajjmllolaajoaa.par (zx zeros zeros_length zx_length)
set_option maxRecDepth 100000 in
set_option maxHeartbeats 8000000 in
theorem za_heavy (z s l a : Int) (d : Int) (x : tbl.TV) (N : Nat) (hA : Option Addr) (hq : Nat) (hr : List Row) (n : Nat) (at0 : Int) (w : World) (hc : Czn w) (hN : x.es.length = N) (hx : x.In w w.heap.size) (hn : hr.length = n) (hh : LV.In w w.heap.size ⟨hA, hq, hr⟩) (hv : 20 < N ∨ 20 < n ∨ ∃ y ∈ lists hr, 100 < y.length) :
    Calls Try.prog 6 #[.agg #[.int .i64 z, .int .i64 d, .int .i64 s, .int .i64 l, .int .i64 a], .agg #[.slice x.A N x.c], .slice hA n hq, .int .i64 at0] w fun e w' => e = .returned (.bool true) ∧ Below w.heap.size w w' := by
  have s1 : (w.alloc (.cells #[.int .i64 z, .int .i64 d, .int .i64 s, .int .i64 l, .int .i64 a] 23)).heap.size = w.heap.size + 1 := by simp
  have hx2 := anc.bl (w.alloc (.cells #[.int .i64 z, .int .i64 d, .int .i64 s, .int .i64 l, .int .i64 a] 23)) (.cells #[.slice x.A N x.c] 26)
  have GG := (g5_new w z d s l a).keep hx2 (by omega)
  have TT := c1_new (w.alloc (.cells #[.int .i64 z, .int .i64 d, .int .i64 s, .int .i64 l, .int .i64 a] 23)) (.slice x.A N x.c) 26
  rw [s1] at TT
  have hw := kal (anc.bl w (.cells #[.int .i64 z, .int .i64 d, .int .i64 s, .int .i64 l, .int .i64 a] 23)) (.cells #[.slice x.A N x.c] 26)
  have lT : w.heap.size + 1 < ((w.alloc (.cells #[.int .i64 z, .int .i64 d, .int .i64 s, .int .i64 l, .int .i64 a] 23)).alloc (.cells #[.slice x.A N x.c] 26)).heap.size := by simp
  have HC := Lib.hid hc
  have HNE := Lib.hid hN
  have HXI := Lib.hid (hx.next hw)
  have HHI := Lib.hid (hh.next hw)
  have HHn := Lib.hid hn
  clear hc hN hx hh hn s1 hx2
  go_enter Try.func6, Try.ntmps6
  go_upto_region 1 with fail
  generalize ((w.alloc (.cells #[.int .i64 z, .int .i64 d, .int .i64 s, .int .i64 l, .int .i64 a] 23)).alloc (.cells #[.slice x.A N x.c] 26)) = w2 at *
  obtain ⟨g0, g1', g2, g3, g4⟩ := id GG
  have t0 := TT.c0
  have HHV := Lib.hid (heavy_c true x.A hA N x.c n hq hr w2 HHn.out HHI.out.h HHI.out.r (iff_of_true rfl hv))
  clear hv
  have HMG := Lib.hid (show ∀ W, Below w2.heap.size w2 W → (W.cell? ⟨w.heap.size, 0, none⟩ = some (.int .i64 z) ∧ W.cell? ⟨w.heap.size, 1, none⟩ = some (.int .i64 d) ∧ W.cell? ⟨w.heap.size, 2, none⟩ = some (.int .i64 s) ∧ W.cell? ⟨w.heap.size, 3, none⟩ = some (.int .i64 l) ∧ W.cell? ⟨w.heap.size, 4, none⟩ = some (.int .i64 a)) ∧ W.cell? ⟨w.heap.size + 1, 0, none⟩ = some (.slice x.A N x.c) from fun W h => ⟨⟨kst h (by omega) g0, kst h (by omega) g1', kst h (by omega) g2, kst h (by omega) g3, kst h (by omega) g4⟩, kst h lT t0⟩)
  go_wp2_with (first
    | (go_at_call 9; (with_reducible refine HHV.out.mono ?_); rintro e w3 ⟨rfl, hb3⟩; clear g0 g1' g2 g3 g4 t0; obtain ⟨⟨g0, g1', g2, g3, g4⟩, t0⟩ := HMG.out _ hb3))
  go_ret
  exact ⟨rfl, bt hw hb3⟩
set_option maxRecDepth 100000 in
set_option maxHeartbeats 8000000 in
theorem za_geo (z s l a : Int) (d : Int) (x : tbl.TV) (N : Nat) (hA : Option Addr) (hq : Nat) (hr : List Row) (n : Nat) (at0 : Int) (w : World) (hc : Czn w) (hN : x.es.length = N) (hx : x.In w w.heap.size) (hn : hr.length = n) (hh : LV.In w w.heap.size ⟨hA, hq, hr⟩) (hv : ¬ (20 < N ∨ 20 < n ∨ ∃ y ∈ lists hr, 100 < y.length)) (ho : ¬ Ok z d s l a) :
    Calls Try.prog 6 #[.agg #[.int .i64 z, .int .i64 d, .int .i64 s, .int .i64 l, .int .i64 a], .agg #[.slice x.A N x.c], .slice hA n hq, .int .i64 at0] w fun e w' => e = .returned (.bool true) ∧ Below w.heap.size w w' := by
  have s1 : (w.alloc (.cells #[.int .i64 z, .int .i64 d, .int .i64 s, .int .i64 l, .int .i64 a] 23)).heap.size = w.heap.size + 1 := by simp
  have hx2 := anc.bl (w.alloc (.cells #[.int .i64 z, .int .i64 d, .int .i64 s, .int .i64 l, .int .i64 a] 23)) (.cells #[.slice x.A N x.c] 26)
  have GG := (g5_new w z d s l a).keep hx2 (by omega)
  have TT := c1_new (w.alloc (.cells #[.int .i64 z, .int .i64 d, .int .i64 s, .int .i64 l, .int .i64 a] 23)) (.slice x.A N x.c) 26
  rw [s1] at TT
  have hw := kal (anc.bl w (.cells #[.int .i64 z, .int .i64 d, .int .i64 s, .int .i64 l, .int .i64 a] 23)) (.cells #[.slice x.A N x.c] 26)
  have lT : w.heap.size + 1 < ((w.alloc (.cells #[.int .i64 z, .int .i64 d, .int .i64 s, .int .i64 l, .int .i64 a] 23)).alloc (.cells #[.slice x.A N x.c] 26)).heap.size := by simp
  have HC := Lib.hid hc
  have HNE := Lib.hid hN
  have HXI := Lib.hid (hx.next hw)
  have HHI := Lib.hid (hh.next hw)
  have HHn := Lib.hid hn
  clear hc hN hx hh hn s1 hx2
  go_enter Try.func6, Try.ntmps6
  go_upto_region 1 with fail
  generalize ((w.alloc (.cells #[.int .i64 z, .int .i64 d, .int .i64 s, .int .i64 l, .int .i64 a] 23)).alloc (.cells #[.slice x.A N x.c] 26)) = w2 at *
  obtain ⟨g0, g1', g2, g3, g4⟩ := id GG
  have t0 := TT.c0
  have HHV := Lib.hid (heavy_c false x.A hA N x.c n hq hr w2 HHn.out HHI.out.h HHI.out.r (iff_of_false Bool.false_ne_true hv))
  have HRG := Lib.hid (show ∀ W, Calls Try.prog 16 #[.agg #[.int .i64 z, .int .i64 d, .int .i64 s, .int .i64 l, .int .i64 a]] W fun e w' => e = .returned (.bool false) ∧ Below W.heap.size W w' from fun W => gmt.rgeo_at false z d s l a W (iff_of_false Bool.false_ne_true ho))
  clear hv ho
  have HMG := Lib.hid (show ∀ W, Below w2.heap.size w2 W → (W.cell? ⟨w.heap.size, 0, none⟩ = some (.int .i64 z) ∧ W.cell? ⟨w.heap.size, 1, none⟩ = some (.int .i64 d) ∧ W.cell? ⟨w.heap.size, 2, none⟩ = some (.int .i64 s) ∧ W.cell? ⟨w.heap.size, 3, none⟩ = some (.int .i64 l) ∧ W.cell? ⟨w.heap.size, 4, none⟩ = some (.int .i64 a)) ∧ W.cell? ⟨w.heap.size + 1, 0, none⟩ = some (.slice x.A N x.c) from fun W h => ⟨⟨kst h (by omega) g0, kst h (by omega) g1', kst h (by omega) g2, kst h (by omega) g3, kst h (by omega) g4⟩, kst h lT t0⟩)
  go_wp2_with (first
    | (go_at_call 9; (with_reducible refine HHV.out.mono ?_); rintro e w3 ⟨rfl, hb3⟩; clear g0 g1' g2 g3 g4 t0; obtain ⟨⟨g0, g1', g2, g3, g4⟩, t0⟩ := HMG.out _ hb3)
    | (go_at_call 16; (with_reducible refine (HRG.out w3).mono ?_); rintro e w4 ⟨rfl, hb4⟩; have hb34 := bt hb3 hb4; clear g0 g1' g2 g3 g4 t0; obtain ⟨⟨g0, g1', g2, g3, g4⟩, t0⟩ := HMG.out _ hb34))
  go_ret
  exact ⟨rfl, bt hw hb34⟩
set_option maxRecDepth 100000 in
set_option maxHeartbeats 8000000 in
theorem za_tab (z s l a : Int) (d : Int) (x : tbl.TV) (N : Nat) (hA : Option Addr) (hq : Nat) (hr : List Row) (n : Nat) (at0 : Int) (w : World) (hc : Czn w) (hN : x.es.length = N) (hx : x.In w w.heap.size) (hn : hr.length = n) (hh : LV.In w w.heap.size ⟨hA, hq, hr⟩) (hv : ¬ (20 < N ∨ 20 < n ∨ ∃ y ∈ lists hr, 100 < y.length)) (ho : Ok z d s l a) (hg : ¬ tbl.Good d x.es) :
    Calls Try.prog 6 #[.agg #[.int .i64 z, .int .i64 d, .int .i64 s, .int .i64 l, .int .i64 a], .agg #[.slice x.A N x.c], .slice hA n hq, .int .i64 at0] w fun e w' => e = .returned (.bool true) ∧ Below w.heap.size w w' := by
  have s1 : (w.alloc (.cells #[.int .i64 z, .int .i64 d, .int .i64 s, .int .i64 l, .int .i64 a] 23)).heap.size = w.heap.size + 1 := by simp
  have hx2 := anc.bl (w.alloc (.cells #[.int .i64 z, .int .i64 d, .int .i64 s, .int .i64 l, .int .i64 a] 23)) (.cells #[.slice x.A N x.c] 26)
  have GG := (g5_new w z d s l a).keep hx2 (by omega)
  have TT := c1_new (w.alloc (.cells #[.int .i64 z, .int .i64 d, .int .i64 s, .int .i64 l, .int .i64 a] 23)) (.slice x.A N x.c) 26
  rw [s1] at TT
  have hw := kal (anc.bl w (.cells #[.int .i64 z, .int .i64 d, .int .i64 s, .int .i64 l, .int .i64 a] 23)) (.cells #[.slice x.A N x.c] 26)
  have lT : w.heap.size + 1 < ((w.alloc (.cells #[.int .i64 z, .int .i64 d, .int .i64 s, .int .i64 l, .int .i64 a] 23)).alloc (.cells #[.slice x.A N x.c] 26)).heap.size := by simp
  have HC := Lib.hid hc
  have HNE := Lib.hid hN
  have HXI := Lib.hid (hx.next hw)
  have HHI := Lib.hid (hh.next hw)
  have HHn := Lib.hid hn
  clear hc hN hx hh hn s1 hx2
  go_enter Try.func6, Try.ntmps6
  go_upto_region 1 with fail
  generalize ((w.alloc (.cells #[.int .i64 z, .int .i64 d, .int .i64 s, .int .i64 l, .int .i64 a] 23)).alloc (.cells #[.slice x.A N x.c] 26)) = w2 at *
  obtain ⟨g0, g1', g2, g3, g4⟩ := id GG
  have t0 := TT.c0
  have HHV := Lib.hid (heavy_c false x.A hA N x.c n hq hr w2 HHn.out HHI.out.h HHI.out.r (iff_of_false Bool.false_ne_true hv))
  have HO := Lib.hid ho
  have HRG := Lib.hid (show ∀ W, Calls Try.prog 16 #[.agg #[.int .i64 z, .int .i64 d, .int .i64 s, .int .i64 l, .int .i64 a]] W fun e w' => e = .returned (.bool true) ∧ Below W.heap.size W w' from fun W => gmt.rgeo_at true z d s l a W (iff_of_true rfl ho))
  have hN20 : N ≤ 20 := by omega
  have hn20 : n ≤ 20 := by omega
  have HN20 := Lib.hid hN20
  have Hn20 := Lib.hid hn20
  have HSH := Lib.hid (show ∀ y ∈ lists hr, y.length ≤ 100 from fun y hy => Nat.le_of_not_lt fun k => hv (.inr (.inr ⟨y, hy, k⟩)))
  clear hv hN20 hn20
  have HRT := Lib.hid (show ∀ W, Below w2.heap.size w2 W → Calls Try.prog 17 #[.agg #[.int .i64 z, .int .i64 d, .int .i64 s, .int .i64 l, .int .i64 a], .agg #[.slice x.A N x.c]] W fun e w' => e = .returned (.bool false) ∧ Below W.heap.size W w' from fun W hW => by
    have h9 := tbl.rtable_any false z d s l a x W HO.out (HXI.out.next hW) (by rw [HNE.out]; have := HN20.out; omega) (iff_of_false Bool.false_ne_true hg)
    rw [tbl.TV.v, HNE.out] at h9
    exact h9)
  clear ho hg
  have HMG := Lib.hid (show ∀ W, Below w2.heap.size w2 W → (W.cell? ⟨w.heap.size, 0, none⟩ = some (.int .i64 z) ∧ W.cell? ⟨w.heap.size, 1, none⟩ = some (.int .i64 d) ∧ W.cell? ⟨w.heap.size, 2, none⟩ = some (.int .i64 s) ∧ W.cell? ⟨w.heap.size, 3, none⟩ = some (.int .i64 l) ∧ W.cell? ⟨w.heap.size, 4, none⟩ = some (.int .i64 a)) ∧ W.cell? ⟨w.heap.size + 1, 0, none⟩ = some (.slice x.A N x.c) from fun W h => ⟨⟨kst h (by omega) g0, kst h (by omega) g1', kst h (by omega) g2, kst h (by omega) g3, kst h (by omega) g4⟩, kst h lT t0⟩)
  go_wp2_with (first
    | (go_at_call 9; (with_reducible refine HHV.out.mono ?_); rintro e w3 ⟨rfl, hb3⟩; clear g0 g1' g2 g3 g4 t0; obtain ⟨⟨g0, g1', g2, g3, g4⟩, t0⟩ := HMG.out _ hb3)
    | (go_at_call 16; (with_reducible refine (HRG.out w3).mono ?_); rintro e w4 ⟨rfl, hb4⟩; have hb34 := bt hb3 hb4; clear g0 g1' g2 g3 g4 t0; obtain ⟨⟨g0, g1', g2, g3, g4⟩, t0⟩ := HMG.out _ hb34)
    | (go_at_call 17; (with_reducible refine (HRT.out _ hb34).mono ?_); rintro e w5 ⟨rfl, hb5⟩; have hb35 := bt hb34 hb5; clear g0 g1' g2 g3 g4 t0; obtain ⟨⟨g0, g1', g2, g3, g4⟩, t0⟩ := HMG.out _ hb35))
  go_ret
  exact ⟨rfl, bt hw hb35⟩
set_option maxRecDepth 100000 in
set_option maxHeartbeats 8000000 in
theorem za_had (z s l a : Int) (D : Nat) (x : tbl.TV) (N : Nat) (hA : Option Addr) (hq : Nat) (hr : List Row) (n : Nat) (at0 : Int) (w : World) (hc : Czn w) (hN : x.es.length = N) (hx : x.In w w.heap.size) (hn : hr.length = n) (hh : LV.In w w.heap.size ⟨hA, hq, hr⟩) (hv : ¬ (20 < N ∨ 20 < n ∨ ∃ y ∈ lists hr, 100 < y.length)) (ho : Ok z D s l a) (hg : tbl.Good (D : Int) x.es) (hd : ¬ HadOk (D + 1) (lists hr)) :
    Calls Try.prog 6 #[.agg #[.int .i64 z, .int .i64 D, .int .i64 s, .int .i64 l, .int .i64 a], .agg #[.slice x.A N x.c], .slice hA n hq, .int .i64 at0] w fun e w' => e = .returned (.bool true) ∧ Below w.heap.size w w' := by
  have s1 : (w.alloc (.cells #[.int .i64 z, .int .i64 D, .int .i64 s, .int .i64 l, .int .i64 a] 23)).heap.size = w.heap.size + 1 := by simp
  have hx2 := anc.bl (w.alloc (.cells #[.int .i64 z, .int .i64 D, .int .i64 s, .int .i64 l, .int .i64 a] 23)) (.cells #[.slice x.A N x.c] 26)
  have GG := (g5_new w z D s l a).keep hx2 (by omega)
  have TT := c1_new (w.alloc (.cells #[.int .i64 z, .int .i64 D, .int .i64 s, .int .i64 l, .int .i64 a] 23)) (.slice x.A N x.c) 26
  rw [s1] at TT
  have hw := kal (anc.bl w (.cells #[.int .i64 z, .int .i64 D, .int .i64 s, .int .i64 l, .int .i64 a] 23)) (.cells #[.slice x.A N x.c] 26)
  have lT : w.heap.size + 1 < ((w.alloc (.cells #[.int .i64 z, .int .i64 D, .int .i64 s, .int .i64 l, .int .i64 a] 23)).alloc (.cells #[.slice x.A N x.c] 26)).heap.size := by simp
  have HC := Lib.hid hc
  have HNE := Lib.hid hN
  have HXI := Lib.hid (hx.next hw)
  have HHI := Lib.hid (hh.next hw)
  have HHn := Lib.hid hn
  clear hc hN hx hh hn s1 hx2
  go_enter Try.func6, Try.ntmps6
  go_upto_region 1 with fail
  generalize ((w.alloc (.cells #[.int .i64 z, .int .i64 D, .int .i64 s, .int .i64 l, .int .i64 a] 23)).alloc (.cells #[.slice x.A N x.c] 26)) = w2 at *
  obtain ⟨g0, g1', g2, g3, g4⟩ := id GG
  have t0 := TT.c0
  have HHV := Lib.hid (heavy_c false x.A hA N x.c n hq hr w2 HHn.out HHI.out.h HHI.out.r (iff_of_false Bool.false_ne_true hv))
  have HO := Lib.hid ho
  have HRG := Lib.hid (show ∀ W, Calls Try.prog 16 #[.agg #[.int .i64 z, .int .i64 D, .int .i64 s, .int .i64 l, .int .i64 a]] W fun e w' => e = .returned (.bool true) ∧ Below W.heap.size W w' from fun W => gmt.rgeo_at true z D s l a W (iff_of_true rfl ho))
  have hN20 : N ≤ 20 := by omega
  have hn20 : n ≤ 20 := by omega
  have HN20 := Lib.hid hN20
  have Hn20 := Lib.hid hn20
  have HSH := Lib.hid (show ∀ y ∈ lists hr, y.length ≤ 100 from fun y hy => Nat.le_of_not_lt fun k => hv (.inr (.inr ⟨y, hy, k⟩)))
  clear hv hN20 hn20
  have HRT := Lib.hid (show ∀ W, Below w2.heap.size w2 W → Calls Try.prog 17 #[.agg #[.int .i64 z, .int .i64 D, .int .i64 s, .int .i64 l, .int .i64 a], .agg #[.slice x.A N x.c]] W fun e w' => e = .returned (.bool true) ∧ Below W.heap.size W w' from fun W hW => by
    have h9 := tbl.rtable_any true z D s l a x W HO.out (HXI.out.next hW) (by rw [HNE.out]; have := HN20.out; omega) (iff_of_true rfl hg)
    rw [tbl.TV.v, HNE.out] at h9
    exact h9)
  have HRH := Lib.hid (show ∀ W, Below w2.heap.size w2 W → Calls Try.prog 19 #[.agg #[.int .i64 z, .int .i64 D, .int .i64 s, .int .i64 l, .int .i64 a], .slice hA n hq] W fun e w' => e = .returned (.bool false) ∧ Below W.heap.size W w' from fun W hW => had_c false z s l a D hA n hq hr W HO.out HHn.out (HHI.out.next hW).h (HHI.out.next hW).r (iff_of_false Bool.false_ne_true hd))
  clear ho hg hd
  have HMG := Lib.hid (show ∀ W, Below w2.heap.size w2 W → (W.cell? ⟨w.heap.size, 0, none⟩ = some (.int .i64 z) ∧ W.cell? ⟨w.heap.size, 1, none⟩ = some (.int .i64 D) ∧ W.cell? ⟨w.heap.size, 2, none⟩ = some (.int .i64 s) ∧ W.cell? ⟨w.heap.size, 3, none⟩ = some (.int .i64 l) ∧ W.cell? ⟨w.heap.size, 4, none⟩ = some (.int .i64 a)) ∧ W.cell? ⟨w.heap.size + 1, 0, none⟩ = some (.slice x.A N x.c) from fun W h => ⟨⟨kst h (by omega) g0, kst h (by omega) g1', kst h (by omega) g2, kst h (by omega) g3, kst h (by omega) g4⟩, kst h lT t0⟩)
  go_wp2_with (first
    | (go_at_call 9; (with_reducible refine HHV.out.mono ?_); rintro e w3 ⟨rfl, hb3⟩; clear g0 g1' g2 g3 g4 t0; obtain ⟨⟨g0, g1', g2, g3, g4⟩, t0⟩ := HMG.out _ hb3)
    | (go_at_call 16; (with_reducible refine (HRG.out w3).mono ?_); rintro e w4 ⟨rfl, hb4⟩; have hb34 := bt hb3 hb4; clear g0 g1' g2 g3 g4 t0; obtain ⟨⟨g0, g1', g2, g3, g4⟩, t0⟩ := HMG.out _ hb34)
    | (go_at_call 17; (with_reducible refine (HRT.out _ hb34).mono ?_); rintro e w5 ⟨rfl, hb5⟩; have hb35 := bt hb34 hb5; clear g0 g1' g2 g3 g4 t0; obtain ⟨⟨g0, g1', g2, g3, g4⟩, t0⟩ := HMG.out _ hb35)
    | (go_at_call 19; (with_reducible refine (HRH.out _ hb35).mono ?_); rintro e w6 ⟨rfl, hb6⟩; have hb36 := bt hb35 hb6; clear g0 g1' g2 g3 g4 t0; obtain ⟨⟨g0, g1', g2, g3, g4⟩, t0⟩ := HMG.out _ hb36))
  go_ret
  exact ⟨rfl, bt hw hb36⟩
set_option maxRecDepth 100000 in
set_option maxHeartbeats 8000000 in
theorem za_main (z s l a : Int) (D : Nat) (x : tbl.TV) (N : Nat) (hA : Option Addr) (hq : Nat) (hr : List Row) (n : Nat) (at0 : Int) (w : World) (hc : Czn w) (hN : x.es.length = N) (hx : x.In w w.heap.size) (hn : hr.length = n) (hh : LV.In w w.heap.size ⟨hA, hq, hr⟩) (hv : ¬ (20 < N ∨ 20 < n ∨ ∃ y ∈ lists hr, 100 < y.length)) (ho : Ok z D s l a) (hg : tbl.Good (D : Int) x.es) (hd : HadOk (D + 1) (lists hr)) :
    Calls Try.prog 6 #[.agg #[.int .i64 z, .int .i64 D, .int .i64 s, .int .i64 l, .int .i64 a], .agg #[.slice x.A N x.c], .slice hA n hq, .int .i64 at0] w fun e w' => e = .returned (.bool true) ∧ Below w.heap.size w w' := by
  have hj := gmt.wrap_mod at0 ((D : Int) + 1) (by omega)
  generalize hJ0 : (IntKind.u64.wrap at0).tmod ((D : Int) + 1) = j0 at *
  obtain ⟨J, rfl⟩ : ∃ J : Nat, j0 = J := ⟨j0.toNat, by omega⟩
  have HJ : Hid (J ≤ D) := Lib.hid (by omega)
  have HJ0 := Lib.hid hJ0
  clear hJ0 hj
  have s1 : (w.alloc (.cells #[.int .i64 z, .int .i64 D, .int .i64 s, .int .i64 l, .int .i64 a] 23)).heap.size = w.heap.size + 1 := by simp
  have hx2 := anc.bl (w.alloc (.cells #[.int .i64 z, .int .i64 D, .int .i64 s, .int .i64 l, .int .i64 a] 23)) (.cells #[.slice x.A N x.c] 26)
  have GG := (g5_new w z D s l a).keep hx2 (by omega)
  have TT := c1_new (w.alloc (.cells #[.int .i64 z, .int .i64 D, .int .i64 s, .int .i64 l, .int .i64 a] 23)) (.slice x.A N x.c) 26
  rw [s1] at TT
  have hw := kal (anc.bl w (.cells #[.int .i64 z, .int .i64 D, .int .i64 s, .int .i64 l, .int .i64 a] 23)) (.cells #[.slice x.A N x.c] 26)
  have lT : w.heap.size + 1 < ((w.alloc (.cells #[.int .i64 z, .int .i64 D, .int .i64 s, .int .i64 l, .int .i64 a] 23)).alloc (.cells #[.slice x.A N x.c] 26)).heap.size := by simp
  have HC := Lib.hid hc
  have HNE := Lib.hid hN
  have HXI := Lib.hid (hx.next hw)
  have HHI := Lib.hid (hh.next hw)
  have HHn := Lib.hid hn
  clear hc hN hx hh hn s1 hx2
  go_enter Try.func6, Try.ntmps6
  go_upto_region 1 with fail
  generalize ((w.alloc (.cells #[.int .i64 z, .int .i64 D, .int .i64 s, .int .i64 l, .int .i64 a] 23)).alloc (.cells #[.slice x.A N x.c] 26)) = w2 at *
  obtain ⟨g0, g1', g2, g3, g4⟩ := id GG
  have t0 := TT.c0
  have HHV := Lib.hid (heavy_c false x.A hA N x.c n hq hr w2 HHn.out HHI.out.h HHI.out.r (iff_of_false Bool.false_ne_true hv))
  have HO := Lib.hid ho
  have HG := Lib.hid hg
  have HH := Lib.hid hd
  have HRG := Lib.hid (show ∀ W, Calls Try.prog 16 #[.agg #[.int .i64 z, .int .i64 D, .int .i64 s, .int .i64 l, .int .i64 a]] W fun e w' => e = .returned (.bool true) ∧ Below W.heap.size W w' from fun W => gmt.rgeo_at true z D s l a W (iff_of_true rfl ho))
  have hN20 : N ≤ 20 := by omega
  have hn20 : n ≤ 20 := by omega
  have HN20 := Lib.hid hN20
  have Hn20 := Lib.hid hn20
  have HSH := Lib.hid (show ∀ y ∈ lists hr, y.length ≤ 100 from fun y hy => Nat.le_of_not_lt fun k => hv (.inr (.inr ⟨y, hy, k⟩)))
  clear hv hN20 hn20
  have HRT := Lib.hid (show ∀ W, Below w2.heap.size w2 W → Calls Try.prog 17 #[.agg #[.int .i64 z, .int .i64 D, .int .i64 s, .int .i64 l, .int .i64 a], .agg #[.slice x.A N x.c]] W fun e w' => e = .returned (.bool true) ∧ Below W.heap.size W w' from fun W hW => by
    have h9 := tbl.rtable_any true z D s l a x W HO.out (HXI.out.next hW) (by rw [HNE.out]; have := HN20.out; omega) (iff_of_true rfl hg)
    rw [tbl.TV.v, HNE.out] at h9
    exact h9)
  have HRH := Lib.hid (show ∀ W, Below w2.heap.size w2 W → Calls Try.prog 19 #[.agg #[.int .i64 z, .int .i64 D, .int .i64 s, .int .i64 l, .int .i64 a], .slice hA n hq] W fun e w' => e = .returned (.bool true) ∧ Below W.heap.size W w' from fun W hW => had_c true z s l a D hA n hq hr W HO.out HHn.out (HHI.out.next hW).h (HHI.out.next hW).r (iff_of_true rfl hd))
  have HMG := Lib.hid (show ∀ W, Below w2.heap.size w2 W → (W.cell? ⟨w.heap.size, 0, none⟩ = some (.int .i64 z) ∧ W.cell? ⟨w.heap.size, 1, none⟩ = some (.int .i64 D) ∧ W.cell? ⟨w.heap.size, 2, none⟩ = some (.int .i64 s) ∧ W.cell? ⟨w.heap.size, 3, none⟩ = some (.int .i64 l) ∧ W.cell? ⟨w.heap.size, 4, none⟩ = some (.int .i64 a)) ∧ W.cell? ⟨w.heap.size + 1, 0, none⟩ = some (.slice x.A N x.c) from fun W h => ⟨⟨kst h (by omega) g0, kst h (by omega) g1', kst h (by omega) g2, kst h (by omega) g3, kst h (by omega) g4⟩, kst h lT t0⟩)
  have HD1 : Hid (1 ≤ D ∧ D ≤ 4) := Lib.hid (by have := ho.2.1; omega)
  clear ho hg hd
  go_upto_region 3 with (first
    | (go_at_call 9; (with_reducible refine HHV.out.mono ?_); rintro e w3 ⟨rfl, hb3⟩; clear g0 g1' g2 g3 g4 t0; obtain ⟨⟨g0, g1', g2, g3, g4⟩, t0⟩ := HMG.out _ hb3)
    | (go_at_call 16; (with_reducible refine (HRG.out w3).mono ?_); rintro e w4 ⟨rfl, hb4⟩; have hb34 := bt hb3 hb4; clear g0 g1' g2 g3 g4 t0; obtain ⟨⟨g0, g1', g2, g3, g4⟩, t0⟩ := HMG.out _ hb34)
    | (go_at_call 17; (with_reducible refine (HRT.out _ hb34).mono ?_); rintro e w5 ⟨rfl, hb5⟩; have hb35 := bt hb34 hb5; clear g0 g1' g2 g3 g4 t0; obtain ⟨⟨g0, g1', g2, g3, g4⟩, t0⟩ := HMG.out _ hb35)
    | (go_at_call 19; (with_reducible refine (HRH.out _ hb35).mono ?_); rintro e w6 ⟨rfl, hb6⟩; have hb36 := bt hb35 hb6; clear g0 g1' g2 g3 g4 t0; obtain ⟨⟨g0, g1', g2, g3, g4⟩, t0⟩ := HMG.out _ hb36))
  replace GG := GG.keep hb36 (by omega)
  replace TT := TT.keep hb36 lT
  replace lT := Nat.lt_of_lt_of_le lT hb36.size
  replace HXI := Lib.hid (HXI.out.next hb36)
  replace HHI := Lib.hid (HHI.out.next hb36)
  replace hw := bt hw hb36
  have HeN : Hid (N = D + 1) := Lib.hid (by have := HG.out.1; rw [HNE.out] at this; omega)
  have Hen : Hid (n = D + 1) := Lib.hid (by have := HH.out.1; rw [lists_length, HHn.out] at this; exact this)
  clear hb36 hb35 hb34 hb3 hb4 hb5 hb6 g0 g1' g2 g3 g4 t0 HMG HRT HRH HHV HRG
  have HAL := Lib.hid (HC.out.all z s l a D x N ⟨hA, hq, hr⟩ n w6 hw HO.out HXI.out HNE.out HG.out HHI.out HHn.out HH.out)
  obtain ⟨g0, g1', g2, g3, g4⟩ := id GG
  have t0 := TT.c0
  go_upto_region 4 with (go_at_call 13; (with_reducible refine HAL.out.mono ?_); rintro e w7 ⟨⟨Y, yc, yr, K, kc, rfl, hyl, hyi, hks⟩, hb7⟩)
  replace GG := GG.keep hb7 (by omega)
  replace TT := TT.keep hb7 lT
  replace lT := Nat.lt_of_lt_of_le lT hb7.size
  replace HXI := Lib.hid (HXI.out.next hb7)
  replace HHI := Lib.hid (HHI.out.next hb7)
  replace hw := bt hw hb7
  have HYL := Lib.hid hyl
  have HYI := Lib.hid hyi
  have HKS := Lib.hid hks
  clear hyl hyi hks hb7 g0 g1' g2 g3 g4 t0 HAL
  have hDb : D ≤ 4 := HD1.out.2
  have q9 : (((D + 1 : Nat) : Int) != (D : Int) + 1) = false := by rw [show ((D + 1 : Nat) : Int) = (D : Int) + 1 by omega]; exact bne_self_eq_false _
  obtain ⟨g0, g1', g2, g3, g4⟩ := id GG
  have hw1 : IntKind.u64.wrap ((D : Int) + 1) = (D : Int) + 1 := IntWalk.u64_in _ (by have := HD1.out; omega)
  have hm0 : ((D : Int) + 1 == 0) = false := beq_eq_false_iff_ne.2 (by omega)
  have hm1 : ¬ (D : Int) + 1 = 0 := by omega
  have hJ0 := HJ0.out
  have hJD : J ≤ D := HJ.out
  go_upto_region 7 with fail
  clear g0 g1' g2 g3 g4 hw1 hm0 hm1 hJ0 HJ0 q9
  have t0 := TT.c0
  obtain ⟨g0, g1', g2, g3, g4⟩ := id GG
  obtain ⟨I, hI⟩ : ∃ I, I = atN D ((J : Int) - 1) := ⟨_, rfl⟩
  have hID : I ≤ D := by rw [hI]; unfold atN; split <;> omega
  obtain ⟨P, hP⟩ : ∃ P, P = known (D + 1) x.es (lists hr) I := ⟨_, rfl⟩
  obtain ⟨er, her⟩ : ∃ er : Int, er = if P = [] then 13 else 0 := ⟨_, rfl⟩
  have HBK := Lib.hid (show Calls Try.prog 12 #[.agg #[.int .i64 z, .int .i64 D, .int .i64 s, .int .i64 l, .int .i64 a], .agg #[.slice x.A N x.c], .slice hA n hq, .int .i64 ((J : Int) - 1)] w7 fun e w' => (∃ (X : Option Addr) (c : Nat), e = .returned (.tuple #[.slice X P.length c, .int .i64 er]) ∧ Own w' w7.heap.size 5 (.slice X P.length c) P) ∧ Below w7.heap.size w7 w' from by
    have h9 := HC.out.block z s l a D x N ⟨hA, hq, hr⟩ n w7 ((J : Int) - 1) hw HO.out HXI.out HNE.out HG.out HHI.out HHn.out HH.out (by omega)
    rw [← hI] at h9
    rw [her, hP]
    exact h9)
  have HI := Lib.hid hI
  have HP := Lib.hid hP
  have HER := Lib.hid her
  clear hI hP her
  go_upto_region 8 with (go_at_call 12; (with_reducible refine HBK.out.mono ?_); rintro e w8 ⟨⟨X, xc, rfl, hbo⟩, hb8⟩)
  replace GG := GG.keep hb8 (by omega)
  replace TT := TT.keep hb8 lT
  replace lT := Nat.lt_of_lt_of_le lT hb8.size
  replace HXI := Lib.hid (HXI.out.next hb8)
  replace HHI := Lib.hid (HHI.out.next hb8)
  replace hw := bt hw hb8
  replace HYI := Lib.hid (HYI.out.next hb8)
  replace HKS := Lib.hid (HKS.out.next hb8)
  have HBO := Lib.hid hbo
  clear hbo hb8 g0 g1' g2 g3 g4 t0 HBK
  have hkl : I < (knowns (D + 1) x.es (lists hr)).length := by rw [knowns_length]; omega
  obtain ⟨b2, of2, ry, hY, hb2, r2, hry, -, -, e2⟩ := row_at HYI.out.h HYI.out.r (show I < yr.length by have h9 := congrArg List.length HYL.out; rw [lists_length, knowns_length] at h9; omega)
  obtain ⟨b4, of4, hK, hb4, c4, e4⟩ := bool_at HKS.out (show I < (kn (knowns (D + 1) x.es (lists hr))).length by rw [kn_length]; exact hkl)
  have hyk : ry.l = P := by
    rw [HYL.out, knowns_get _ _ (by omega)] at e2
    rw [HP.out]
    exact (Option.some.inj e2).symm
  have hbk : (kn (knowns (D + 1) x.es (lists hr)))[I]'(by rw [kn_length]; exact hkl) = !P.isEmpty := by
    have h9 := kn_get (knowns_get (n := D + 1) x.es (lists hr) (show I < D + 1 by omega))
    rw [e4] at h9
    rw [HP.out]
    exact Option.some.inj h9
  rw [hbk] at c4
  subst hY hK
  have HKB := Lib.hid (keep_c true X ry.A P.length ry.l.length xc ry.c P ry.l w8 rfl rfl (by
    have h9 := known_length (es := x.es) HH.out I
    rw [← HP.out] at h9
    rcases h9 with h9 | h9
    · rw [h9]; exact Nat.zero_le _
    · omega) (own_at HBO.out).2.2.2 hry (iff_of_true rfl hyk.symm))
  have j1 : (I : Int) < ((D + 1 : Nat) : Int) := by omega
  have j0 : (0 : Int) ≤ (I : Int) := by omega
  clear e2 e4 hbk hkl hry hyk
  obtain ⟨g0, g1', g2, g3, g4⟩ := id GG
  have HB13 := Lib.hid (show ∀ W, Below w8.heap.size w8 W → Calls Try.prog 12 #[.agg #[.int .i64 z, .int .i64 D, .int .i64 s, .int .i64 l, .int .i64 a], .agg #[.slice x.A N x.c], .slice hA n hq, .int .i64 D] W fun e w' => tbl.NonE 1 e ∧ Below W.heap.size W w' from fun W hW => HC.out.block_what z s l a D x N ⟨hA, hq, hr⟩ n W D (bt hw hW) HO.out (HXI.out.next hW) HNE.out HG.out (HHI.out.next hW) HHn.out HH.out (by omega))
  have HB14 := Lib.hid (show ∀ W, Below w8.heap.size w8 W → Calls Try.prog 12 #[.agg #[.int .i64 z, .int .i64 D, .int .i64 s, .int .i64 l, .int .i64 a], .agg #[.slice x.A N x.c], .slice hA n hq, .int .i64 (-2)] W fun e w' => tbl.NonE 1 e ∧ Below W.heap.size W w' from fun W hW => HC.out.block_what z s l a D x N ⟨hA, hq, hr⟩ n W (-2) (bt hw hW) HO.out (HXI.out.next hW) HNE.out HG.out (HHI.out.next hW) HHn.out HH.out (by omega))
  have HM8 := Lib.hid (show ∀ W, Below w8.heap.size w8 W → G5 W w.heap.size z D s l a ∧ C1 W (w.heap.size + 1) (.slice x.A N x.c) from fun W hW => ⟨GG.keep hW (by omega), TT.keep hW lT⟩)
  have hidx : ((J : Int) - 1 == -1) = true ∧ I = D ∨ ((J : Int) - 1 == -1) = false ∧ (J : Int) - 1 = (I : Int) := by
    have h9 := HI.out
    unfold atN at h9
    by_cases hJz : J = 0
    · left
      rw [if_pos (by omega)] at h9
      exact ⟨beq_iff_eq.2 (by omega), h9⟩
    · right
      rw [if_neg (by omega)] at h9
      exact ⟨beq_eq_false_iff_ne.2 (by omega), by omega⟩
  have hpz : P = [] ∧ er = 13 ∨ P ≠ [] ∧ er = 0 := by
    have h9 := HER.out
    by_cases hz : P = []
    · rw [if_pos hz] at h9; exact .inl ⟨hz, h9⟩
    · rw [if_neg hz] at h9; exact .inr ⟨hz, h9⟩
  clear HI HER HP HYL HYI HKS
  rcases hpz with ⟨hz, rfl⟩ | ⟨hz, rfl⟩
  · have c5 : w8.cell? ⟨b4, of4 + I, none⟩ = some (.bool false) := by rw [c4, hz]; rfl
    subst hz
    clear c4 HKB r2
    rcases hidx with ⟨q1, hI2⟩ | ⟨q1, hI2⟩
    · rw [hI2] at c5 j1
      go_upto_region 13 with fail
      obtain ⟨⟨g0, g1', g2, g3, g4⟩, TX⟩ := HM8.out _ (Below.refl _ _)
      have t0 := TX.c0
      go_upto_region 14 with (go_at_call 12; (with_reducible refine (HB13.out _ (Below.refl _ _)).mono ?_); rintro e wa ⟨⟨Xa, xa, rfl⟩, hba⟩)
      have hba8 := bt (Below.refl _ _) hba
      clear g0 g1' g2 g3 g4 t0 TX
      obtain ⟨⟨g0, g1', g2, g3, g4⟩, TX⟩ := HM8.out _ hba8
      have t0 := TX.c0
      go_upto_region 15 with (go_at_call 12; (with_reducible refine (HB14.out _ hba8).mono ?_); rintro e wb ⟨⟨Xb, xb, rfl⟩, hbb⟩)
      have hbb8 := bt hba8 hbb
      have HWK := Lib.hid (wk_zn wb (HC.out.next (bt hw hbb8)))
      clear g0 g1' g2 g3 g4 t0 TX
      go_wp2_with (go_at_call 18; (with_reducible refine HWK.out.mono ?_); rintro e wc ⟨rfl, hbc⟩)
      go_ret
      exact ⟨rfl, bt (bt hw hbb8) hbc⟩
    · go_upto_region 13 with fail
      obtain ⟨⟨g0, g1', g2, g3, g4⟩, TX⟩ := HM8.out _ (Below.refl _ _)
      have t0 := TX.c0
      go_upto_region 14 with (go_at_call 12; (with_reducible refine (HB13.out _ (Below.refl _ _)).mono ?_); rintro e wa ⟨⟨Xa, xa, rfl⟩, hba⟩)
      have hba8 := bt (Below.refl _ _) hba
      clear g0 g1' g2 g3 g4 t0 TX
      obtain ⟨⟨g0, g1', g2, g3, g4⟩, TX⟩ := HM8.out _ hba8
      have t0 := TX.c0
      go_upto_region 15 with (go_at_call 12; (with_reducible refine (HB14.out _ hba8).mono ?_); rintro e wb ⟨⟨Xb, xb, rfl⟩, hbb⟩)
      have hbb8 := bt hba8 hbb
      have HWK := Lib.hid (wk_zn wb (HC.out.next (bt hw hbb8)))
      clear g0 g1' g2 g3 g4 t0 TX
      go_wp2_with (go_at_call 18; (with_reducible refine HWK.out.mono ?_); rintro e wc ⟨rfl, hbc⟩)
      go_ret
      exact ⟨rfl, bt (bt hw hbb8) hbc⟩
  · have c5 : w8.cell? ⟨b4, of4 + I, none⟩ = some (.bool true) := by
      rw [c4]
      cases P with
      | nil => exact absurd rfl hz
      | cons p ps => rfl
    clear c4 hz
    rcases hidx with ⟨q1, hI2⟩ | ⟨q1, hI2⟩
    · rw [hI2] at c5 j1 r2
      go_upto_region 13 with (go_at_call 21; (with_reducible refine HKB.out.mono ?_); rintro e wk ⟨rfl, hbk⟩; obtain ⟨⟨k0, k1, k2, k3, k4⟩, TK⟩ := HM8.out _ hbk; have tk := TK.c0; have c6 := kst hbk hb4 c5)
      obtain ⟨⟨g0, g1', g2, g3, g4⟩, TX⟩ := HM8.out _ hbk
      have t0 := TX.c0
      go_upto_region 14 with (go_at_call 12; (with_reducible refine (HB13.out _ hbk).mono ?_); rintro e wa ⟨⟨Xa, xa, rfl⟩, hba⟩)
      have hba8 := bt hbk hba
      clear g0 g1' g2 g3 g4 t0 TX
      obtain ⟨⟨g0, g1', g2, g3, g4⟩, TX⟩ := HM8.out _ hba8
      have t0 := TX.c0
      go_upto_region 15 with (go_at_call 12; (with_reducible refine (HB14.out _ hba8).mono ?_); rintro e wb ⟨⟨Xb, xb, rfl⟩, hbb⟩)
      have hbb8 := bt hba8 hbb
      have HWK := Lib.hid (wk_zn wb (HC.out.next (bt hw hbb8)))
      clear g0 g1' g2 g3 g4 t0 TX
      go_wp2_with (go_at_call 18; (with_reducible refine HWK.out.mono ?_); rintro e wc ⟨rfl, hbc⟩)
      go_ret
      exact ⟨rfl, bt (bt hw hbb8) hbc⟩
    · go_upto_region 13 with (go_at_call 21; (with_reducible refine HKB.out.mono ?_); rintro e wk ⟨rfl, hbk⟩; obtain ⟨⟨k0, k1, k2, k3, k4⟩, TK⟩ := HM8.out _ hbk; have tk := TK.c0; have c6 := kst hbk hb4 c5)
      obtain ⟨⟨g0, g1', g2, g3, g4⟩, TX⟩ := HM8.out _ hbk
      have t0 := TX.c0
      go_upto_region 14 with (go_at_call 12; (with_reducible refine (HB13.out _ hbk).mono ?_); rintro e wa ⟨⟨Xa, xa, rfl⟩, hba⟩)
      have hba8 := bt hbk hba
      clear g0 g1' g2 g3 g4 t0 TX
      obtain ⟨⟨g0, g1', g2, g3, g4⟩, TX⟩ := HM8.out _ hba8
      have t0 := TX.c0
      go_upto_region 15 with (go_at_call 12; (with_reducible refine (HB14.out _ hba8).mono ?_); rintro e wb ⟨⟨Xb, xb, rfl⟩, hbb⟩)
      have hbb8 := bt hba8 hbb
      have HWK := Lib.hid (wk_zn wb (HC.out.next (bt hw hbb8)))
      clear g0 g1' g2 g3 g4 t0 TX
      go_wp2_with (go_at_call 18; (with_reducible refine HWK.out.mono ?_); rintro e wc ⟨rfl, hbc⟩)
      go_ret
      exact ⟨rfl, bt (bt hw hbb8) hbc⟩
/-- The law. -/
theorem asks_law (z s l a : Int) (d : Int) (x : tbl.TV) (N : Nat) (hA : Option Addr) (hq : Nat) (hr : List Row) (n : Nat) (at0 : Int) (w : World) (hc : Czn w) (hN : x.es.length = N) (hx : x.In w w.heap.size) (hn : hr.length = n) (hh : LV.In w w.heap.size ⟨hA, hq, hr⟩) :
    Calls Try.prog 6 #[.agg #[.int .i64 z, .int .i64 d, .int .i64 s, .int .i64 l, .int .i64 a], .agg #[.slice x.A N x.c], .slice hA n hq, .int .i64 at0] w fun e w' => e = .returned (.bool true) ∧ Below w.heap.size w w' := by
  by_cases hv : 20 < N ∨ 20 < n ∨ ∃ y ∈ lists hr, 100 < y.length
  · exact za_heavy z s l a d x N hA hq hr n at0 w hc hN hx hn hh hv
  by_cases ho : Ok z d s l a
  case neg => exact za_geo z s l a d x N hA hq hr n at0 w hc hN hx hn hh hv ho
  by_cases hg : tbl.Good d x.es
  case neg => exact za_tab z s l a d x N hA hq hr n at0 w hc hN hx hn hh hv ho hg
  obtain ⟨D, rfl⟩ : ∃ D : Nat, d = D := ⟨d.toNat, by have := ho.2.1; omega⟩
  by_cases hd : HadOk (D + 1) (lists hr)
  case neg => exact za_had z s l a D x N hA hq hr n at0 w hc hN hx hn hh hv ho hg hd
  exact za_main z s l a D x N hA hq hr n at0 w hc hN hx hn hh hv ho hg hd
/-- The law as its row calls it. -/
theorem asks_said (z s l a d : Int) (x : tbl.TV) (hA : Option Addr) (hq : Nat) (hr : List Row) (at0 : Int) (w : World) (hc : Czn w) (hx : x.In w w.heap.size) (hh : LV.In w w.heap.size ⟨hA, hq, hr⟩) :
    Calls Try.prog 6 #[.agg #[.int .i64 z, .int .i64 d, .int .i64 s, .int .i64 l, .int .i64 a], x.v, .slice hA hr.length hq, .int .i64 at0] w fun e w' => e = .returned (.bool true) ∧ Below w.heap.size w w' := by
  unfold tbl.TV.v
  exact asks_law z s l a d x _ hA hq hr _ at0 w hc rfl hx rfl hh
end Go.Proofs.Ytajjmllolaajoaa.zon
