/-
  The law ZoneExact, walked. Conditions: 'Czn'.
-/
import Derived.Test.YtajjmllolaajoaaZnP
import Derived.Test.YtajjmllolaajoaaDkQ
namespace Go.Proofs.Ytajjmllolaajoaa.zon
open Go.RowKit Go.Lib
open Go.Proofs.Ytajjmllolaajoaa.gmt (Ok)
open Go.Proofs.Ytajjmllolaajoaa.anc (kal kst ks bm ka)
open Go.Proofs.Ytajjmllolaajoaa.tbl (Ent EntOk C1 c1_new G5 g5_new OwnE)
open Go.Proofs.Ytajjmllolaajoaa.par (zx zeros zeros_length zx_length)
/-- Bytes and an error, all and an error: known where there is none. -/
def BytX (q : Nat) (L : List UInt8) (n : Int) (e : Ending) (w' : World) : Prop := ∃ (X : Option Addr) (c : Nat), e = .returned (.tuple #[.slice X q c, .int .i64 n]) ∧ (n = 0 → Sl w' w'.heap.size X L)
def AllX (m : Nat) (L : List (List UInt8)) (n : Int) (e : Ending) (w' : World) : Prop := ∃ (Y : Option Addr) (yc : Nat) (yr : List Row) (K : Option Addr) (kc : Nat), e = .returned (.tuple #[.slice Y m yc, .slice K m kc, .int .i64 n]) ∧ (n = 0 → lists yr = L ∧ LV.In w' w'.heap.size ⟨Y, yc, yr⟩ ∧ SlV w' w'.heap.size K (bools (kn L)))
set_option maxRecDepth 100000 in
set_option maxHeartbeats 8000000 in
theorem ze_heavy (z s l a : Int) (d : Int) (x : tbl.TV) (N : Nat) (hA : Option Addr) (hq : Nat) (hr : List Row) (n : Nat) (at0 : Int) (w : World) (hc : Czn w) (hN : x.es.length = N) (hx : x.In w w.heap.size) (hn : hr.length = n) (hh : LV.In w w.heap.size ⟨hA, hq, hr⟩) (hv : 20 < N ∨ 20 < n ∨ ∃ y ∈ lists hr, 100 < y.length) :
    Calls Try.prog 3 #[.agg #[.int .i64 z, .int .i64 d, .int .i64 s, .int .i64 l, .int .i64 a], .agg #[.slice x.A N x.c], .slice hA n hq, .int .i64 at0] w fun e w' => e = .returned (.bool true) ∧ Below w.heap.size w w' := by
  have s1 : (w.alloc (.cells #[.int .i64 z, .int .i64 d, .int .i64 s, .int .i64 l, .int .i64 a] 23)).heap.size = w.heap.size + 1 := by simp
  have hx2 := anc.bl (w.alloc (.cells #[.int .i64 z, .int .i64 d, .int .i64 s, .int .i64 l, .int .i64 a] 23)) (.cells #[.slice x.A N x.c] 26)
  have GG := (g5_new w z d s l a).keep hx2 (by omega)
  have TT := c1_new (w.alloc (.cells #[.int .i64 z, .int .i64 d, .int .i64 s, .int .i64 l, .int .i64 a] 23)) (.slice x.A N x.c) 26
  rw [s1] at TT
  have hw := kal (anc.bl w (.cells #[.int .i64 z, .int .i64 d, .int .i64 s, .int .i64 l, .int .i64 a] 23)) (.cells #[.slice x.A N x.c] 26)
  have lT : w.heap.size + 1 < ((w.alloc (.cells #[.int .i64 z, .int .i64 d, .int .i64 s, .int .i64 l, .int .i64 a] 23)).alloc (.cells #[.slice x.A N x.c] 26)).heap.size := by simp
  have HC := Lib.hid hc
  have HNE := Lib.hid hN
  have HXI := Lib.hid (hx.next hw)
  have HHI := Lib.hid (hh.next hw)
  have HHn := Lib.hid hn
  clear hc hN hx hh hn s1 hx2
  go_enter Try.func3, Try.ntmps3
  go_upto_region 1 with fail
  generalize ((w.alloc (.cells #[.int .i64 z, .int .i64 d, .int .i64 s, .int .i64 l, .int .i64 a] 23)).alloc (.cells #[.slice x.A N x.c] 26)) = w2 at *
  obtain ⟨g0, g1', g2, g3, g4⟩ := id GG
  have t0 := TT.c0
  have HHV := Lib.hid (heavy_c true x.A hA N x.c n hq hr w2 HHn.out HHI.out.h HHI.out.r (iff_of_true rfl hv))
  clear hv
  have HMG := Lib.hid (show ∀ W, Below w2.heap.size w2 W → (W.cell? ⟨w.heap.size, 0, none⟩ = some (.int .i64 z) ∧ W.cell? ⟨w.heap.size, 1, none⟩ = some (.int .i64 d) ∧ W.cell? ⟨w.heap.size, 2, none⟩ = some (.int .i64 s) ∧ W.cell? ⟨w.heap.size, 3, none⟩ = some (.int .i64 l) ∧ W.cell? ⟨w.heap.size, 4, none⟩ = some (.int .i64 a)) ∧ W.cell? ⟨w.heap.size + 1, 0, none⟩ = some (.slice x.A N x.c) from fun W h => ⟨⟨kst h (by omega) g0, kst h (by omega) g1', kst h (by omega) g2, kst h (by omega) g3, kst h (by omega) g4⟩, kst h lT t0⟩)
  go_wp2_with (first
    | (go_at_call 9; (with_reducible refine HHV.out.mono ?_); rintro e w3 ⟨rfl, hb3⟩; clear g0 g1' g2 g3 g4 t0; obtain ⟨⟨g0, g1', g2, g3, g4⟩, t0⟩ := HMG.out _ hb3))
  go_ret
  exact ⟨rfl, bt hw hb3⟩
set_option maxRecDepth 100000 in
set_option maxHeartbeats 8000000 in
theorem ze_geo (z s l a : Int) (d : Int) (x : tbl.TV) (N : Nat) (hA : Option Addr) (hq : Nat) (hr : List Row) (n : Nat) (at0 : Int) (w : World) (hc : Czn w) (hN : x.es.length = N) (hx : x.In w w.heap.size) (hn : hr.length = n) (hh : LV.In w w.heap.size ⟨hA, hq, hr⟩) (hv : ¬ (20 < N ∨ 20 < n ∨ ∃ y ∈ lists hr, 100 < y.length)) (ho : ¬ Ok z d s l a) :
    Calls Try.prog 3 #[.agg #[.int .i64 z, .int .i64 d, .int .i64 s, .int .i64 l, .int .i64 a], .agg #[.slice x.A N x.c], .slice hA n hq, .int .i64 at0] w fun e w' => e = .returned (.bool true) ∧ Below w.heap.size w w' := by
  have HNG : Hid (¬ (Ok z d s l a ∧ tbl.Good d x.es)) := Lib.hid fun h => ho h.1
  have s1 : (w.alloc (.cells #[.int .i64 z, .int .i64 d, .int .i64 s, .int .i64 l, .int .i64 a] 23)).heap.size = w.heap.size + 1 := by simp
  have hx2 := anc.bl (w.alloc (.cells #[.int .i64 z, .int .i64 d, .int .i64 s, .int .i64 l, .int .i64 a] 23)) (.cells #[.slice x.A N x.c] 26)
  have GG := (g5_new w z d s l a).keep hx2 (by omega)
  have TT := c1_new (w.alloc (.cells #[.int .i64 z, .int .i64 d, .int .i64 s, .int .i64 l, .int .i64 a] 23)) (.slice x.A N x.c) 26
  rw [s1] at TT
  have hw := kal (anc.bl w (.cells #[.int .i64 z, .int .i64 d, .int .i64 s, .int .i64 l, .int .i64 a] 23)) (.cells #[.slice x.A N x.c] 26)
  have lT : w.heap.size + 1 < ((w.alloc (.cells #[.int .i64 z, .int .i64 d, .int .i64 s, .int .i64 l, .int .i64 a] 23)).alloc (.cells #[.slice x.A N x.c] 26)).heap.size := by simp
  have HC := Lib.hid hc
  have HNE := Lib.hid hN
  have HXI := Lib.hid (hx.next hw)
  have HHI := Lib.hid (hh.next hw)
  have HHn := Lib.hid hn
  clear hc hN hx hh hn s1 hx2
  go_enter Try.func3, Try.ntmps3
  go_upto_region 1 with fail
  generalize ((w.alloc (.cells #[.int .i64 z, .int .i64 d, .int .i64 s, .int .i64 l, .int .i64 a] 23)).alloc (.cells #[.slice x.A N x.c] 26)) = w2 at *
  obtain ⟨g0, g1', g2, g3, g4⟩ := id GG
  have t0 := TT.c0
  have HHV := Lib.hid (heavy_c false x.A hA N x.c n hq hr w2 HHn.out HHI.out.h HHI.out.r (iff_of_false Bool.false_ne_true hv))
  have hN20 : N ≤ 20 := by omega
  have hn20 : n ≤ 20 := by omega
  have HN20 := Lib.hid hN20
  have Hn20 := Lib.hid hn20
  have HSH := Lib.hid (show ∀ y ∈ lists hr, y.length ≤ 100 from fun y hy => Nat.le_of_not_lt fun k => hv (.inr (.inr ⟨y, hy, k⟩)))
  clear hv hN20 hn20
  have HMG := Lib.hid (show ∀ W, Below w2.heap.size w2 W → (W.cell? ⟨w.heap.size, 0, none⟩ = some (.int .i64 z) ∧ W.cell? ⟨w.heap.size, 1, none⟩ = some (.int .i64 d) ∧ W.cell? ⟨w.heap.size, 2, none⟩ = some (.int .i64 s) ∧ W.cell? ⟨w.heap.size, 3, none⟩ = some (.int .i64 l) ∧ W.cell? ⟨w.heap.size, 4, none⟩ = some (.int .i64 a)) ∧ W.cell? ⟨w.heap.size + 1, 0, none⟩ = some (.slice x.A N x.c) from fun W h => ⟨⟨kst h (by omega) g0, kst h (by omega) g1', kst h (by omega) g2, kst h (by omega) g3, kst h (by omega) g4⟩, kst h lT t0⟩)
  go_upto_region 3 with (first
    | (go_at_call 9; (with_reducible refine HHV.out.mono ?_); rintro e w3 ⟨rfl, hb3⟩; clear g0 g1' g2 g3 g4 t0; obtain ⟨⟨g0, g1', g2, g3, g4⟩, t0⟩ := HMG.out _ hb3))
  replace GG := GG.keep hb3 (by omega)
  replace TT := TT.keep hb3 lT
  replace lT := Nat.lt_of_lt_of_le lT hb3.size
  replace HXI := Lib.hid (HXI.out.next hb3)
  replace HHI := Lib.hid (HHI.out.next hb3)
  replace hw := bt hw hb3
  clear hb3 g0 g1' g2 g3 g4 t0 HMG HHV
  have t0 := TT.c0
  have HTT := Lib.hid (show Calls Try.prog 10 #[.agg #[.slice x.A N x.c]] w3 fun e w' => tbl.TbQ w3.heap.size x.es e w' ∧ Below w3.heap.size w3 w' from by
    have h9 := tbl.twin_table x N w3 HXI.out HNE.out (by have := HN20.out; omega)
    rw [tbl.TV.v, HNE.out] at h9
    exact h9)
  have HTR := Lib.hid (show ∀ W, Below w3.heap.size w3 W → Calls Try.prog 11 #[.slice hA n hq] W fun e w' => (∃ (v : LV), e = .returned (.slice v.A n v.c) ∧ lists v.rs = lists hr ∧ v.rs.length = n ∧ v.In w' w'.heap.size) ∧ Below W.heap.size W w' from fun W hW => by
    refine (twins_any hA hq n hr W HHn.out (HHI.out.next hW).h (HHI.out.next hW).r (by have := Hn20.out; omega) (fun r hr2 => Nat.le_trans (HSH.out r.l (List.mem_map_of_mem hr2)) (by decide))).mono ?_
    rintro e w' ⟨⟨v, rs, rfl, ho⟩, hb⟩
    obtain ⟨A, c, hv, hi⟩ := rows_lv ho
    have hl : rs.length = n := by rw [ho.len, lists_length, HHn.out]
    rw [hl] at hv
    subst hv
    exact ⟨⟨⟨A, c, rs⟩, rfl, ho.2.1, hl, hi⟩, hb⟩)
  go_upto_region 4 with (first
    | (go_at_call 10; (with_reducible refine HTT.out.mono ?_); rintro e w4 ⟨⟨u, heu, hue0, huo⟩, hb4⟩; rw [tbl.TV.v] at heu; subst heu; have HUE := Lib.hid hue0; clear hue0)
    | (go_at_call 11; (with_reducible refine (HTR.out _ hb4).mono ?_); rintro e w5 ⟨⟨⟨vA, vc, vr⟩, rfl, hvl, hvn, hvi⟩, hb5⟩))
  have hun : u.es.length = N := by rw [HUE.out, HNE.out]
  rw [hun]
  have HUN := Lib.hid hun
  have hxU := anc.bl w5 (.cells #[.slice u.A N u.c] 26)
  have UU := c1_new w5 (.slice u.A N u.c) 26
  have lU : w5.heap.size < (w5.alloc (.cells #[.slice u.A N u.c] 26)).heap.size := by simp
  have b5 := bt hb4 (bt hb5 hxU)
  have HUI := Lib.hid ((tbl.TV.Own.inn huo).next (bt hb5 hxU))
  have HVI := Lib.hid (hvi.next hxU)
  have HVL := Lib.hid hvl
  have HVN := Lib.hid hvn
  replace GG := GG.keep b5 (by omega)
  replace TT := TT.keep b5 lT
  replace lT := Nat.lt_of_lt_of_le lT b5.size
  replace HXI := Lib.hid (HXI.out.next b5)
  replace HHI := Lib.hid (HHI.out.next b5)
  replace hw := bt hw b5
  clear hun hb4 hb5 hxU b5 huo hvi hvl hvn t0 HTT HTR
  generalize hgU : w5.heap.size = gU at *
  clear hgU
  generalize w5.alloc (.cells #[.slice u.A N u.c] 26) = w6 at *
  have HBK := Lib.hid (show ∀ W, Below w6.heap.size w6 W → Calls Try.prog 12 #[.agg #[.int .i64 z, .int .i64 d, .int .i64 s, .int .i64 l, .int .i64 a], .agg #[.slice u.A N u.c], .slice vA n vc, .int .i64 at0] W fun e w' => BytX 0 [] 1 e w' ∧ Below W.heap.size W w' from fun W hW => by
    refine (HC.out.block_geo z d s l a u N ⟨vA, vc, vr⟩ n W at0 (bt hw hW) (by rw [HUE.out]; exact HNG.out) (HUI.out.next hW) HUN.out (by have := HN20.out; omega) (HVI.out.next hW) HVN.out (by have := Hn20.out; omega)).mono ?_
    rintro e w' ⟨⟨X, c, rfl⟩, hb⟩
    exact ⟨⟨X, c, rfl, fun h => absurd h (by decide)⟩, hb⟩)
  have HAL := Lib.hid (show ∀ W, Below w6.heap.size w6 W → Calls Try.prog 13 #[.agg #[.int .i64 z, .int .i64 d, .int .i64 s, .int .i64 l, .int .i64 a], .agg #[.slice u.A N u.c], .slice vA n vc] W fun e w' => AllX 0 [] 1 e w' ∧ Below W.heap.size W w' from fun W hW => by
    refine (HC.out.all_geo z d s l a u N ⟨vA, vc, vr⟩ n W (bt hw hW) (by rw [HUE.out]; exact HNG.out) (HUI.out.next hW) HUN.out (by have := HN20.out; omega) (HVI.out.next hW) HVN.out (by have := Hn20.out; omega)).mono ?_
    rintro e w' ⟨⟨X, c, K, k, rfl⟩, hb⟩
    exact ⟨⟨X, c, [], K, k, rfl, fun h => absurd h (by decide)⟩, hb⟩)
  obtain ⟨g0, g1', g2, g3, g4⟩ := id GG
  have u0 := UU.c0
  go_upto_region 5 with (go_at_call 12; (with_reducible refine (HBK.out w6 (Below.refl _ _)).mono ?_); rintro e w7 ⟨⟨X, xc, rfl, hbx⟩, hb7⟩)
  have HBX := Lib.hid hbx
  clear hbx g0 g1' g2 g3 g4 u0
  obtain ⟨g0, g1', g2, g3, g4⟩ := id (GG.keep hb7 (by omega))
  have u0 := (UU.keep hb7 lU).c0
  go_upto_region 6 with (go_at_call 13; (with_reducible refine (HAL.out w7 hb7).mono ?_); rintro e w8 ⟨⟨Y, yc, yr, K, kc, rfl, hax⟩, hb8⟩)
  have HAX := Lib.hid hax
  have b8 := bt hb7 hb8
  replace HBX := Lib.hid (fun h => (HBX.out h).next hb8)
  replace UU := UU.keep b8 lU
  replace HUI := Lib.hid (HUI.out.next b8)
  replace HVI := Lib.hid (HVI.out.next b8)
  replace GG := GG.keep b8 (by omega)
  replace TT := TT.keep b8 lT
  replace lT := Nat.lt_of_lt_of_le lT b8.size
  replace HXI := Lib.hid (HXI.out.next b8)
  replace HHI := Lib.hid (HHI.out.next b8)
  replace hw := bt hw b8
  clear hax hb7 hb8 b8 g0 g1' g2 g3 g4 u0 HBK HAL
  have HKT := Lib.hid (show Calls Try.prog 14 #[.agg #[.slice u.A N u.c], .agg #[.slice x.A N x.c]] w8 fun e w' => e = .returned (.bool true) ∧ Below w8.heap.size w8 w' from by
    have h9 := tbl.tab_same u x w8 HUI.out HXI.out (by rw [HUN.out]; have := HN20.out; omega)
    rw [decide_eq_true HUE.out, tbl.TV.v, tbl.TV.v, HUN.out, HNE.out] at h9
    exact h9)
  have HKR := Lib.hid (show ∀ W, Below w8.heap.size w8 W → Calls Try.prog 15 #[.slice vA n vc, .slice hA n hq] W fun e w' => e = .returned (.bool true) ∧ Below W.heap.size W w' from fun W hW => by
    have h9 := rows_any vA hA vc hq n n vr hr W HVN.out HHn.out (HVI.out.next hW).h (HHI.out.next hW).h (HVI.out.next hW).r (HHI.out.next hW).r (by have := Hn20.out; omega) (fun r hr2 => by
      have h8 : r.l ∈ lists vr := List.mem_map_of_mem hr2
      rw [HVL.out] at h8
      exact Nat.le_trans (HSH.out r.l h8) (by decide))
    rw [decide_eq_true HVL.out] at h9
    exact h9)
  have u0 := UU.c0
  have t0 := TT.c0
  go_upto_region 8 with (first
    | (go_at_call 14; (with_reducible refine HKT.out.mono ?_); rintro e w9 ⟨rfl, hb9⟩)
    | (go_at_call 15; (with_reducible refine (HKR.out _ hb9).mono ?_); rintro e w10 ⟨rfl, hb10⟩))
  have b10 := bt hb9 hb10
  replace HBX := Lib.hid (fun h => (HBX.out h).next b10)
  replace HAX := Lib.hid (fun h => And.intro (HAX.out h).1 (And.intro ((HAX.out h).2.1.next b10) ((HAX.out h).2.2.next b10)))
  replace GG := GG.keep b10 (by omega)
  replace TT := TT.keep b10 lT
  replace lT := Nat.lt_of_lt_of_le lT b10.size
  replace HXI := Lib.hid (HXI.out.next b10)
  replace HHI := Lib.hid (HHI.out.next b10)
  replace hw := bt hw b10
  clear hb9 hb10 b10 u0 t0 HKT HKR UU lU HUI HVI
  obtain ⟨g0, g1', g2, g3, g4⟩ := id GG
  have t0 := TT.c0
  have HRG := Lib.hid (gmt.rgeo_at false z d s l a w10 (iff_of_false Bool.false_ne_true ho))
  have HWK := Lib.hid (fun (W : World) (hW : Below w10.heap.size w10 W) => wk_zn W (HC.out.next (bt hw hW)))
  clear ho
  go_wp2_with (first
    | (go_at_call 16; (with_reducible refine HRG.out.mono ?_); rintro e wa ⟨rfl, hba⟩)
    | (go_at_call 18; (with_reducible refine (HWK.out _ hba).mono ?_); rintro e wb ⟨rfl, hbb⟩))
  go_ret
  exact ⟨rfl, bt hw (bt hba hbb)⟩
set_option maxRecDepth 100000 in
set_option maxHeartbeats 8000000 in
theorem ze_tab (z s l a : Int) (d : Int) (x : tbl.TV) (N : Nat) (hA : Option Addr) (hq : Nat) (hr : List Row) (n : Nat) (at0 : Int) (w : World) (hc : Czn w) (hN : x.es.length = N) (hx : x.In w w.heap.size) (hn : hr.length = n) (hh : LV.In w w.heap.size ⟨hA, hq, hr⟩) (hv : ¬ (20 < N ∨ 20 < n ∨ ∃ y ∈ lists hr, 100 < y.length)) (ho : Ok z d s l a) (hg : ¬ tbl.Good d x.es) :
    Calls Try.prog 3 #[.agg #[.int .i64 z, .int .i64 d, .int .i64 s, .int .i64 l, .int .i64 a], .agg #[.slice x.A N x.c], .slice hA n hq, .int .i64 at0] w fun e w' => e = .returned (.bool true) ∧ Below w.heap.size w w' := by
  have HNG : Hid (¬ (Ok z d s l a ∧ tbl.Good d x.es)) := Lib.hid fun h => hg h.2
  have s1 : (w.alloc (.cells #[.int .i64 z, .int .i64 d, .int .i64 s, .int .i64 l, .int .i64 a] 23)).heap.size = w.heap.size + 1 := by simp
  have hx2 := anc.bl (w.alloc (.cells #[.int .i64 z, .int .i64 d, .int .i64 s, .int .i64 l, .int .i64 a] 23)) (.cells #[.slice x.A N x.c] 26)
  have GG := (g5_new w z d s l a).keep hx2 (by omega)
  have TT := c1_new (w.alloc (.cells #[.int .i64 z, .int .i64 d, .int .i64 s, .int .i64 l, .int .i64 a] 23)) (.slice x.A N x.c) 26
  rw [s1] at TT
  have hw := kal (anc.bl w (.cells #[.int .i64 z, .int .i64 d, .int .i64 s, .int .i64 l, .int .i64 a] 23)) (.cells #[.slice x.A N x.c] 26)
  have lT : w.heap.size + 1 < ((w.alloc (.cells #[.int .i64 z, .int .i64 d, .int .i64 s, .int .i64 l, .int .i64 a] 23)).alloc (.cells #[.slice x.A N x.c] 26)).heap.size := by simp
  have HC := Lib.hid hc
  have HNE := Lib.hid hN
  have HXI := Lib.hid (hx.next hw)
  have HHI := Lib.hid (hh.next hw)
  have HHn := Lib.hid hn
  clear hc hN hx hh hn s1 hx2
  go_enter Try.func3, Try.ntmps3
  go_upto_region 1 with fail
  generalize ((w.alloc (.cells #[.int .i64 z, .int .i64 d, .int .i64 s, .int .i64 l, .int .i64 a] 23)).alloc (.cells #[.slice x.A N x.c] 26)) = w2 at *
  obtain ⟨g0, g1', g2, g3, g4⟩ := id GG
  have t0 := TT.c0
  have HHV := Lib.hid (heavy_c false x.A hA N x.c n hq hr w2 HHn.out HHI.out.h HHI.out.r (iff_of_false Bool.false_ne_true hv))
  have hN20 : N ≤ 20 := by omega
  have hn20 : n ≤ 20 := by omega
  have HN20 := Lib.hid hN20
  have Hn20 := Lib.hid hn20
  have HSH := Lib.hid (show ∀ y ∈ lists hr, y.length ≤ 100 from fun y hy => Nat.le_of_not_lt fun k => hv (.inr (.inr ⟨y, hy, k⟩)))
  clear hv hN20 hn20
  have HMG := Lib.hid (show ∀ W, Below w2.heap.size w2 W → (W.cell? ⟨w.heap.size, 0, none⟩ = some (.int .i64 z) ∧ W.cell? ⟨w.heap.size, 1, none⟩ = some (.int .i64 d) ∧ W.cell? ⟨w.heap.size, 2, none⟩ = some (.int .i64 s) ∧ W.cell? ⟨w.heap.size, 3, none⟩ = some (.int .i64 l) ∧ W.cell? ⟨w.heap.size, 4, none⟩ = some (.int .i64 a)) ∧ W.cell? ⟨w.heap.size + 1, 0, none⟩ = some (.slice x.A N x.c) from fun W h => ⟨⟨kst h (by omega) g0, kst h (by omega) g1', kst h (by omega) g2, kst h (by omega) g3, kst h (by omega) g4⟩, kst h lT t0⟩)
  go_upto_region 3 with (first
    | (go_at_call 9; (with_reducible refine HHV.out.mono ?_); rintro e w3 ⟨rfl, hb3⟩; clear g0 g1' g2 g3 g4 t0; obtain ⟨⟨g0, g1', g2, g3, g4⟩, t0⟩ := HMG.out _ hb3))
  replace GG := GG.keep hb3 (by omega)
  replace TT := TT.keep hb3 lT
  replace lT := Nat.lt_of_lt_of_le lT hb3.size
  replace HXI := Lib.hid (HXI.out.next hb3)
  replace HHI := Lib.hid (HHI.out.next hb3)
  replace hw := bt hw hb3
  clear hb3 g0 g1' g2 g3 g4 t0 HMG HHV
  have t0 := TT.c0
  have HTT := Lib.hid (show Calls Try.prog 10 #[.agg #[.slice x.A N x.c]] w3 fun e w' => tbl.TbQ w3.heap.size x.es e w' ∧ Below w3.heap.size w3 w' from by
    have h9 := tbl.twin_table x N w3 HXI.out HNE.out (by have := HN20.out; omega)
    rw [tbl.TV.v, HNE.out] at h9
    exact h9)
  have HTR := Lib.hid (show ∀ W, Below w3.heap.size w3 W → Calls Try.prog 11 #[.slice hA n hq] W fun e w' => (∃ (v : LV), e = .returned (.slice v.A n v.c) ∧ lists v.rs = lists hr ∧ v.rs.length = n ∧ v.In w' w'.heap.size) ∧ Below W.heap.size W w' from fun W hW => by
    refine (twins_any hA hq n hr W HHn.out (HHI.out.next hW).h (HHI.out.next hW).r (by have := Hn20.out; omega) (fun r hr2 => Nat.le_trans (HSH.out r.l (List.mem_map_of_mem hr2)) (by decide))).mono ?_
    rintro e w' ⟨⟨v, rs, rfl, ho⟩, hb⟩
    obtain ⟨A, c, hv, hi⟩ := rows_lv ho
    have hl : rs.length = n := by rw [ho.len, lists_length, HHn.out]
    rw [hl] at hv
    subst hv
    exact ⟨⟨⟨A, c, rs⟩, rfl, ho.2.1, hl, hi⟩, hb⟩)
  go_upto_region 4 with (first
    | (go_at_call 10; (with_reducible refine HTT.out.mono ?_); rintro e w4 ⟨⟨u, heu, hue0, huo⟩, hb4⟩; rw [tbl.TV.v] at heu; subst heu; have HUE := Lib.hid hue0; clear hue0)
    | (go_at_call 11; (with_reducible refine (HTR.out _ hb4).mono ?_); rintro e w5 ⟨⟨⟨vA, vc, vr⟩, rfl, hvl, hvn, hvi⟩, hb5⟩))
  have hun : u.es.length = N := by rw [HUE.out, HNE.out]
  rw [hun]
  have HUN := Lib.hid hun
  have hxU := anc.bl w5 (.cells #[.slice u.A N u.c] 26)
  have UU := c1_new w5 (.slice u.A N u.c) 26
  have lU : w5.heap.size < (w5.alloc (.cells #[.slice u.A N u.c] 26)).heap.size := by simp
  have b5 := bt hb4 (bt hb5 hxU)
  have HUI := Lib.hid ((tbl.TV.Own.inn huo).next (bt hb5 hxU))
  have HVI := Lib.hid (hvi.next hxU)
  have HVL := Lib.hid hvl
  have HVN := Lib.hid hvn
  replace GG := GG.keep b5 (by omega)
  replace TT := TT.keep b5 lT
  replace lT := Nat.lt_of_lt_of_le lT b5.size
  replace HXI := Lib.hid (HXI.out.next b5)
  replace HHI := Lib.hid (HHI.out.next b5)
  replace hw := bt hw b5
  clear hun hb4 hb5 hxU b5 huo hvi hvl hvn t0 HTT HTR
  generalize hgU : w5.heap.size = gU at *
  clear hgU
  generalize w5.alloc (.cells #[.slice u.A N u.c] 26) = w6 at *
  have HBK := Lib.hid (show ∀ W, Below w6.heap.size w6 W → Calls Try.prog 12 #[.agg #[.int .i64 z, .int .i64 d, .int .i64 s, .int .i64 l, .int .i64 a], .agg #[.slice u.A N u.c], .slice vA n vc, .int .i64 at0] W fun e w' => BytX 0 [] 1 e w' ∧ Below W.heap.size W w' from fun W hW => by
    refine (HC.out.block_geo z d s l a u N ⟨vA, vc, vr⟩ n W at0 (bt hw hW) (by rw [HUE.out]; exact HNG.out) (HUI.out.next hW) HUN.out (by have := HN20.out; omega) (HVI.out.next hW) HVN.out (by have := Hn20.out; omega)).mono ?_
    rintro e w' ⟨⟨X, c, rfl⟩, hb⟩
    exact ⟨⟨X, c, rfl, fun h => absurd h (by decide)⟩, hb⟩)
  have HAL := Lib.hid (show ∀ W, Below w6.heap.size w6 W → Calls Try.prog 13 #[.agg #[.int .i64 z, .int .i64 d, .int .i64 s, .int .i64 l, .int .i64 a], .agg #[.slice u.A N u.c], .slice vA n vc] W fun e w' => AllX 0 [] 1 e w' ∧ Below W.heap.size W w' from fun W hW => by
    refine (HC.out.all_geo z d s l a u N ⟨vA, vc, vr⟩ n W (bt hw hW) (by rw [HUE.out]; exact HNG.out) (HUI.out.next hW) HUN.out (by have := HN20.out; omega) (HVI.out.next hW) HVN.out (by have := Hn20.out; omega)).mono ?_
    rintro e w' ⟨⟨X, c, K, k, rfl⟩, hb⟩
    exact ⟨⟨X, c, [], K, k, rfl, fun h => absurd h (by decide)⟩, hb⟩)
  obtain ⟨g0, g1', g2, g3, g4⟩ := id GG
  have u0 := UU.c0
  go_upto_region 5 with (go_at_call 12; (with_reducible refine (HBK.out w6 (Below.refl _ _)).mono ?_); rintro e w7 ⟨⟨X, xc, rfl, hbx⟩, hb7⟩)
  have HBX := Lib.hid hbx
  clear hbx g0 g1' g2 g3 g4 u0
  obtain ⟨g0, g1', g2, g3, g4⟩ := id (GG.keep hb7 (by omega))
  have u0 := (UU.keep hb7 lU).c0
  go_upto_region 6 with (go_at_call 13; (with_reducible refine (HAL.out w7 hb7).mono ?_); rintro e w8 ⟨⟨Y, yc, yr, K, kc, rfl, hax⟩, hb8⟩)
  have HAX := Lib.hid hax
  have b8 := bt hb7 hb8
  replace HBX := Lib.hid (fun h => (HBX.out h).next hb8)
  replace UU := UU.keep b8 lU
  replace HUI := Lib.hid (HUI.out.next b8)
  replace HVI := Lib.hid (HVI.out.next b8)
  replace GG := GG.keep b8 (by omega)
  replace TT := TT.keep b8 lT
  replace lT := Nat.lt_of_lt_of_le lT b8.size
  replace HXI := Lib.hid (HXI.out.next b8)
  replace HHI := Lib.hid (HHI.out.next b8)
  replace hw := bt hw b8
  clear hax hb7 hb8 b8 g0 g1' g2 g3 g4 u0 HBK HAL
  have HKT := Lib.hid (show Calls Try.prog 14 #[.agg #[.slice u.A N u.c], .agg #[.slice x.A N x.c]] w8 fun e w' => e = .returned (.bool true) ∧ Below w8.heap.size w8 w' from by
    have h9 := tbl.tab_same u x w8 HUI.out HXI.out (by rw [HUN.out]; have := HN20.out; omega)
    rw [decide_eq_true HUE.out, tbl.TV.v, tbl.TV.v, HUN.out, HNE.out] at h9
    exact h9)
  have HKR := Lib.hid (show ∀ W, Below w8.heap.size w8 W → Calls Try.prog 15 #[.slice vA n vc, .slice hA n hq] W fun e w' => e = .returned (.bool true) ∧ Below W.heap.size W w' from fun W hW => by
    have h9 := rows_any vA hA vc hq n n vr hr W HVN.out HHn.out (HVI.out.next hW).h (HHI.out.next hW).h (HVI.out.next hW).r (HHI.out.next hW).r (by have := Hn20.out; omega) (fun r hr2 => by
      have h8 : r.l ∈ lists vr := List.mem_map_of_mem hr2
      rw [HVL.out] at h8
      exact Nat.le_trans (HSH.out r.l h8) (by decide))
    rw [decide_eq_true HVL.out] at h9
    exact h9)
  have u0 := UU.c0
  have t0 := TT.c0
  go_upto_region 8 with (first
    | (go_at_call 14; (with_reducible refine HKT.out.mono ?_); rintro e w9 ⟨rfl, hb9⟩)
    | (go_at_call 15; (with_reducible refine (HKR.out _ hb9).mono ?_); rintro e w10 ⟨rfl, hb10⟩))
  have b10 := bt hb9 hb10
  replace HBX := Lib.hid (fun h => (HBX.out h).next b10)
  replace HAX := Lib.hid (fun h => And.intro (HAX.out h).1 (And.intro ((HAX.out h).2.1.next b10) ((HAX.out h).2.2.next b10)))
  replace GG := GG.keep b10 (by omega)
  replace TT := TT.keep b10 lT
  replace lT := Nat.lt_of_lt_of_le lT b10.size
  replace HXI := Lib.hid (HXI.out.next b10)
  replace HHI := Lib.hid (HHI.out.next b10)
  replace hw := bt hw b10
  clear hb9 hb10 b10 u0 t0 HKT HKR UU lU HUI HVI
  obtain ⟨g0, g1', g2, g3, g4⟩ := id GG
  have t0 := TT.c0
  have HRG := Lib.hid (gmt.rgeo_at true z d s l a w10 (iff_of_true rfl ho))
  have HO := Lib.hid ho
  have HRT := Lib.hid (show ∀ W, Below w10.heap.size w10 W → Calls Try.prog 17 #[.agg #[.int .i64 z, .int .i64 d, .int .i64 s, .int .i64 l, .int .i64 a], .agg #[.slice x.A N x.c]] W fun e w' => e = .returned (.bool false) ∧ Below W.heap.size W w' from fun W hW => by
    have h9 := tbl.rtable_any false z d s l a x W HO.out (HXI.out.next hW) (by rw [HNE.out]; have := HN20.out; omega) (iff_of_false Bool.false_ne_true hg)
    rw [tbl.TV.v, HNE.out] at h9
    exact h9)
  have HM10 := Lib.hid (show ∀ W, Below w10.heap.size w10 W → G5 W w.heap.size z d s l a ∧ C1 W (w.heap.size + 1) (.slice x.A N x.c) from fun W hW => ⟨GG.keep hW (by omega), TT.keep hW lT⟩)
  have HWK := Lib.hid (fun (W : World) (hW : Below w10.heap.size w10 W) => wk_zn W (HC.out.next (bt hw hW)))
  clear ho hg
  go_wp2_with (first
    | (go_at_call 16; (with_reducible refine HRG.out.mono ?_); rintro e wa ⟨rfl, hba⟩; clear g0 g1' g2 g3 g4 t0; obtain ⟨⟨g0, g1', g2, g3, g4⟩, TX⟩ := HM10.out _ hba; have t0 := TX.c0)
    | (go_at_call 17; (with_reducible refine (HRT.out _ hba).mono ?_); rintro e wb ⟨rfl, hbb⟩; have hbb2 := bt hba hbb; clear g0 g1' g2 g3 g4 t0 TX; obtain ⟨⟨g0, g1', g2, g3, g4⟩, TX⟩ := HM10.out _ hbb2; have t0 := TX.c0)
    | (go_at_call 18; (with_reducible refine (HWK.out _ hbb2).mono ?_); rintro e wc ⟨rfl, hbc⟩))
  go_ret
  exact ⟨rfl, bt hw (bt hbb2 hbc)⟩
set_option maxRecDepth 100000 in
set_option maxHeartbeats 8000000 in
theorem ze_had (z s l a : Int) (D : Nat) (x : tbl.TV) (N : Nat) (hA : Option Addr) (hq : Nat) (hr : List Row) (n : Nat) (at0 : Int) (w : World) (hc : Czn w) (hN : x.es.length = N) (hx : x.In w w.heap.size) (hn : hr.length = n) (hh : LV.In w w.heap.size ⟨hA, hq, hr⟩) (hv : ¬ (20 < N ∨ 20 < n ∨ ∃ y ∈ lists hr, 100 < y.length)) (ho : Ok z D s l a) (hg : tbl.Good (D : Int) x.es) (hd : ¬ HadOk (D + 1) (lists hr)) :
    Calls Try.prog 3 #[.agg #[.int .i64 z, .int .i64 D, .int .i64 s, .int .i64 l, .int .i64 a], .agg #[.slice x.A N x.c], .slice hA n hq, .int .i64 at0] w fun e w' => e = .returned (.bool true) ∧ Below w.heap.size w w' := by
  have HO := Lib.hid ho
  have HG := Lib.hid hg
  have HD1 : Hid (1 ≤ D ∧ D ≤ 4) := Lib.hid (by have := ho.2.1; omega)
  have HND := Lib.hid hd
  clear ho hg hd
  have s1 : (w.alloc (.cells #[.int .i64 z, .int .i64 D, .int .i64 s, .int .i64 l, .int .i64 a] 23)).heap.size = w.heap.size + 1 := by simp
  have hx2 := anc.bl (w.alloc (.cells #[.int .i64 z, .int .i64 D, .int .i64 s, .int .i64 l, .int .i64 a] 23)) (.cells #[.slice x.A N x.c] 26)
  have GG := (g5_new w z D s l a).keep hx2 (by omega)
  have TT := c1_new (w.alloc (.cells #[.int .i64 z, .int .i64 D, .int .i64 s, .int .i64 l, .int .i64 a] 23)) (.slice x.A N x.c) 26
  rw [s1] at TT
  have hw := kal (anc.bl w (.cells #[.int .i64 z, .int .i64 D, .int .i64 s, .int .i64 l, .int .i64 a] 23)) (.cells #[.slice x.A N x.c] 26)
  have lT : w.heap.size + 1 < ((w.alloc (.cells #[.int .i64 z, .int .i64 D, .int .i64 s, .int .i64 l, .int .i64 a] 23)).alloc (.cells #[.slice x.A N x.c] 26)).heap.size := by simp
  have HC := Lib.hid hc
  have HNE := Lib.hid hN
  have HXI := Lib.hid (hx.next hw)
  have HHI := Lib.hid (hh.next hw)
  have HHn := Lib.hid hn
  clear hc hN hx hh hn s1 hx2
  go_enter Try.func3, Try.ntmps3
  go_upto_region 1 with fail
  generalize ((w.alloc (.cells #[.int .i64 z, .int .i64 D, .int .i64 s, .int .i64 l, .int .i64 a] 23)).alloc (.cells #[.slice x.A N x.c] 26)) = w2 at *
  obtain ⟨g0, g1', g2, g3, g4⟩ := id GG
  have t0 := TT.c0
  have HHV := Lib.hid (heavy_c false x.A hA N x.c n hq hr w2 HHn.out HHI.out.h HHI.out.r (iff_of_false Bool.false_ne_true hv))
  have hN20 : N ≤ 20 := by omega
  have hn20 : n ≤ 20 := by omega
  have HN20 := Lib.hid hN20
  have Hn20 := Lib.hid hn20
  have HSH := Lib.hid (show ∀ y ∈ lists hr, y.length ≤ 100 from fun y hy => Nat.le_of_not_lt fun k => hv (.inr (.inr ⟨y, hy, k⟩)))
  clear hv hN20 hn20
  have HMG := Lib.hid (show ∀ W, Below w2.heap.size w2 W → (W.cell? ⟨w.heap.size, 0, none⟩ = some (.int .i64 z) ∧ W.cell? ⟨w.heap.size, 1, none⟩ = some (.int .i64 D) ∧ W.cell? ⟨w.heap.size, 2, none⟩ = some (.int .i64 s) ∧ W.cell? ⟨w.heap.size, 3, none⟩ = some (.int .i64 l) ∧ W.cell? ⟨w.heap.size, 4, none⟩ = some (.int .i64 a)) ∧ W.cell? ⟨w.heap.size + 1, 0, none⟩ = some (.slice x.A N x.c) from fun W h => ⟨⟨kst h (by omega) g0, kst h (by omega) g1', kst h (by omega) g2, kst h (by omega) g3, kst h (by omega) g4⟩, kst h lT t0⟩)
  go_upto_region 3 with (first
    | (go_at_call 9; (with_reducible refine HHV.out.mono ?_); rintro e w3 ⟨rfl, hb3⟩; clear g0 g1' g2 g3 g4 t0; obtain ⟨⟨g0, g1', g2, g3, g4⟩, t0⟩ := HMG.out _ hb3))
  replace GG := GG.keep hb3 (by omega)
  replace TT := TT.keep hb3 lT
  replace lT := Nat.lt_of_lt_of_le lT hb3.size
  replace HXI := Lib.hid (HXI.out.next hb3)
  replace HHI := Lib.hid (HHI.out.next hb3)
  replace hw := bt hw hb3
  clear hb3 g0 g1' g2 g3 g4 t0 HMG HHV
  have t0 := TT.c0
  have HTT := Lib.hid (show Calls Try.prog 10 #[.agg #[.slice x.A N x.c]] w3 fun e w' => tbl.TbQ w3.heap.size x.es e w' ∧ Below w3.heap.size w3 w' from by
    have h9 := tbl.twin_table x N w3 HXI.out HNE.out (by have := HN20.out; omega)
    rw [tbl.TV.v, HNE.out] at h9
    exact h9)
  have HTR := Lib.hid (show ∀ W, Below w3.heap.size w3 W → Calls Try.prog 11 #[.slice hA n hq] W fun e w' => (∃ (v : LV), e = .returned (.slice v.A n v.c) ∧ lists v.rs = lists hr ∧ v.rs.length = n ∧ v.In w' w'.heap.size) ∧ Below W.heap.size W w' from fun W hW => by
    refine (twins_any hA hq n hr W HHn.out (HHI.out.next hW).h (HHI.out.next hW).r (by have := Hn20.out; omega) (fun r hr2 => Nat.le_trans (HSH.out r.l (List.mem_map_of_mem hr2)) (by decide))).mono ?_
    rintro e w' ⟨⟨v, rs, rfl, ho⟩, hb⟩
    obtain ⟨A, c, hv, hi⟩ := rows_lv ho
    have hl : rs.length = n := by rw [ho.len, lists_length, HHn.out]
    rw [hl] at hv
    subst hv
    exact ⟨⟨⟨A, c, rs⟩, rfl, ho.2.1, hl, hi⟩, hb⟩)
  go_upto_region 4 with (first
    | (go_at_call 10; (with_reducible refine HTT.out.mono ?_); rintro e w4 ⟨⟨u, heu, hue0, huo⟩, hb4⟩; rw [tbl.TV.v] at heu; subst heu; have HUE := Lib.hid hue0; clear hue0)
    | (go_at_call 11; (with_reducible refine (HTR.out _ hb4).mono ?_); rintro e w5 ⟨⟨⟨vA, vc, vr⟩, rfl, hvl, hvn, hvi⟩, hb5⟩))
  have hun : u.es.length = N := by rw [HUE.out, HNE.out]
  rw [hun]
  have HUN := Lib.hid hun
  have hxU := anc.bl w5 (.cells #[.slice u.A N u.c] 26)
  have UU := c1_new w5 (.slice u.A N u.c) 26
  have lU : w5.heap.size < (w5.alloc (.cells #[.slice u.A N u.c] 26)).heap.size := by simp
  have b5 := bt hb4 (bt hb5 hxU)
  have HUI := Lib.hid ((tbl.TV.Own.inn huo).next (bt hb5 hxU))
  have HVI := Lib.hid (hvi.next hxU)
  have HVL := Lib.hid hvl
  have HVN := Lib.hid hvn
  replace GG := GG.keep b5 (by omega)
  replace TT := TT.keep b5 lT
  replace lT := Nat.lt_of_lt_of_le lT b5.size
  replace HXI := Lib.hid (HXI.out.next b5)
  replace HHI := Lib.hid (HHI.out.next b5)
  replace hw := bt hw b5
  clear hun hb4 hb5 hxU b5 huo hvi hvl hvn t0 HTT HTR
  generalize hgU : w5.heap.size = gU at *
  clear hgU
  generalize w5.alloc (.cells #[.slice u.A N u.c] 26) = w6 at *
  have HBK := Lib.hid (show ∀ W, Below w6.heap.size w6 W → Calls Try.prog 12 #[.agg #[.int .i64 z, .int .i64 D, .int .i64 s, .int .i64 l, .int .i64 a], .agg #[.slice u.A N u.c], .slice vA n vc, .int .i64 at0] W fun e w' => BytX 0 [] 2 e w' ∧ Below W.heap.size W w' from fun W hW => by
    refine (HC.out.block_len z s l a D u N ⟨vA, vc, vr⟩ n W at0 (bt hw hW) HO.out (HUI.out.next hW) HUN.out (by rw [HUE.out]; exact HG.out) (HVI.out.next hW) HVN.out (by have := Hn20.out; omega) (by show ¬ HadOk _ (lists vr); rw [HVL.out]; exact HND.out)).mono ?_
    rintro e w' ⟨⟨X, c, rfl⟩, hb⟩
    exact ⟨⟨X, c, rfl, fun h => absurd h (by decide)⟩, hb⟩)
  have HAL := Lib.hid (show ∀ W, Below w6.heap.size w6 W → Calls Try.prog 13 #[.agg #[.int .i64 z, .int .i64 D, .int .i64 s, .int .i64 l, .int .i64 a], .agg #[.slice u.A N u.c], .slice vA n vc] W fun e w' => AllX 0 [] 2 e w' ∧ Below W.heap.size W w' from fun W hW => by
    refine (HC.out.all_len z s l a D u N ⟨vA, vc, vr⟩ n W (bt hw hW) HO.out (HUI.out.next hW) HUN.out (by rw [HUE.out]; exact HG.out) (HVI.out.next hW) HVN.out (by have := Hn20.out; omega) (by show ¬ HadOk _ (lists vr); rw [HVL.out]; exact HND.out)).mono ?_
    rintro e w' ⟨⟨X, c, K, k, rfl⟩, hb⟩
    exact ⟨⟨X, c, [], K, k, rfl, fun h => absurd h (by decide)⟩, hb⟩)
  obtain ⟨g0, g1', g2, g3, g4⟩ := id GG
  have u0 := UU.c0
  go_upto_region 5 with (go_at_call 12; (with_reducible refine (HBK.out w6 (Below.refl _ _)).mono ?_); rintro e w7 ⟨⟨X, xc, rfl, hbx⟩, hb7⟩)
  have HBX := Lib.hid hbx
  clear hbx g0 g1' g2 g3 g4 u0
  obtain ⟨g0, g1', g2, g3, g4⟩ := id (GG.keep hb7 (by omega))
  have u0 := (UU.keep hb7 lU).c0
  go_upto_region 6 with (go_at_call 13; (with_reducible refine (HAL.out w7 hb7).mono ?_); rintro e w8 ⟨⟨Y, yc, yr, K, kc, rfl, hax⟩, hb8⟩)
  have HAX := Lib.hid hax
  have b8 := bt hb7 hb8
  replace HBX := Lib.hid (fun h => (HBX.out h).next hb8)
  replace UU := UU.keep b8 lU
  replace HUI := Lib.hid (HUI.out.next b8)
  replace HVI := Lib.hid (HVI.out.next b8)
  replace GG := GG.keep b8 (by omega)
  replace TT := TT.keep b8 lT
  replace lT := Nat.lt_of_lt_of_le lT b8.size
  replace HXI := Lib.hid (HXI.out.next b8)
  replace HHI := Lib.hid (HHI.out.next b8)
  replace hw := bt hw b8
  clear hax hb7 hb8 b8 g0 g1' g2 g3 g4 u0 HBK HAL
  have HKT := Lib.hid (show Calls Try.prog 14 #[.agg #[.slice u.A N u.c], .agg #[.slice x.A N x.c]] w8 fun e w' => e = .returned (.bool true) ∧ Below w8.heap.size w8 w' from by
    have h9 := tbl.tab_same u x w8 HUI.out HXI.out (by rw [HUN.out]; have := HN20.out; omega)
    rw [decide_eq_true HUE.out, tbl.TV.v, tbl.TV.v, HUN.out, HNE.out] at h9
    exact h9)
  have HKR := Lib.hid (show ∀ W, Below w8.heap.size w8 W → Calls Try.prog 15 #[.slice vA n vc, .slice hA n hq] W fun e w' => e = .returned (.bool true) ∧ Below W.heap.size W w' from fun W hW => by
    have h9 := rows_any vA hA vc hq n n vr hr W HVN.out HHn.out (HVI.out.next hW).h (HHI.out.next hW).h (HVI.out.next hW).r (HHI.out.next hW).r (by have := Hn20.out; omega) (fun r hr2 => by
      have h8 : r.l ∈ lists vr := List.mem_map_of_mem hr2
      rw [HVL.out] at h8
      exact Nat.le_trans (HSH.out r.l h8) (by decide))
    rw [decide_eq_true HVL.out] at h9
    exact h9)
  have u0 := UU.c0
  have t0 := TT.c0
  go_upto_region 8 with (first
    | (go_at_call 14; (with_reducible refine HKT.out.mono ?_); rintro e w9 ⟨rfl, hb9⟩)
    | (go_at_call 15; (with_reducible refine (HKR.out _ hb9).mono ?_); rintro e w10 ⟨rfl, hb10⟩))
  have b10 := bt hb9 hb10
  replace HBX := Lib.hid (fun h => (HBX.out h).next b10)
  replace HAX := Lib.hid (fun h => And.intro (HAX.out h).1 (And.intro ((HAX.out h).2.1.next b10) ((HAX.out h).2.2.next b10)))
  replace GG := GG.keep b10 (by omega)
  replace TT := TT.keep b10 lT
  replace lT := Nat.lt_of_lt_of_le lT b10.size
  replace HXI := Lib.hid (HXI.out.next b10)
  replace HHI := Lib.hid (HHI.out.next b10)
  replace hw := bt hw b10
  clear hb9 hb10 b10 u0 t0 HKT HKR UU lU HUI HVI
  obtain ⟨g0, g1', g2, g3, g4⟩ := id GG
  have t0 := TT.c0
  have HRG := Lib.hid (gmt.rgeo_at true z D s l a w10 (iff_of_true rfl HO.out))
  have HRT := Lib.hid (show ∀ W, Below w10.heap.size w10 W → Calls Try.prog 17 #[.agg #[.int .i64 z, .int .i64 D, .int .i64 s, .int .i64 l, .int .i64 a], .agg #[.slice x.A N x.c]] W fun e w' => e = .returned (.bool true) ∧ Below W.heap.size W w' from fun W hW => by
    have h9 := tbl.rtable_any true z D s l a x W HO.out (HXI.out.next hW) (by rw [HNE.out]; have := HN20.out; omega) (iff_of_true rfl HG.out)
    rw [tbl.TV.v, HNE.out] at h9
    exact h9)
  have HM10 := Lib.hid (show ∀ W, Below w10.heap.size w10 W → G5 W w.heap.size z D s l a ∧ C1 W (w.heap.size + 1) (.slice x.A N x.c) from fun W hW => ⟨GG.keep hW (by omega), TT.keep hW lT⟩)
  have HRH := Lib.hid (show ∀ W, Below w10.heap.size w10 W → Calls Try.prog 19 #[.agg #[.int .i64 z, .int .i64 D, .int .i64 s, .int .i64 l, .int .i64 a], .slice hA n hq] W fun e w' => e = .returned (.bool false) ∧ Below W.heap.size W w' from fun W hW => had_c false z s l a D hA n hq hr W HO.out HHn.out (HHI.out.next hW).h (HHI.out.next hW).r (iff_of_false Bool.false_ne_true HND.out))
  have HWK := Lib.hid (fun (W : World) (hW : Below w10.heap.size w10 W) => wk_zn W (HC.out.next (bt hw hW)))
  go_wp2_with (first
    | (go_at_call 16; (with_reducible refine HRG.out.mono ?_); rintro e wa ⟨rfl, hba⟩; clear g0 g1' g2 g3 g4 t0; obtain ⟨⟨g0, g1', g2, g3, g4⟩, TX⟩ := HM10.out _ hba; have t0 := TX.c0)
    | (go_at_call 17; (with_reducible refine (HRT.out _ hba).mono ?_); rintro e wb ⟨rfl, hbb⟩; have hbb2 := bt hba hbb; clear g0 g1' g2 g3 g4 t0 TX; obtain ⟨⟨g0, g1', g2, g3, g4⟩, TX⟩ := HM10.out _ hbb2; have t0 := TX.c0)
    | (go_at_call 19; (with_reducible refine (HRH.out _ hbb2).mono ?_); rintro e wd ⟨rfl, hbd⟩; have hbd2 := bt hbb2 hbd)
    | (go_at_call 18; (with_reducible refine (HWK.out _ hbd2).mono ?_); rintro e wc ⟨rfl, hbc⟩))
  go_ret
  exact ⟨rfl, bt hw (bt hbd2 hbc)⟩
end Go.Proofs.Ytajjmllolaajoaa.zon
