/-
  The law ZoneExact, walked: where all is right; the law.
-/
import Derived.Test.YtajjmllolaajoaaZnP
import Derived.Test.YtajjmllolaajoaaDkQ
import Derived.Test.YtajjmllolaajoaaZnLE
namespace Go.Proofs.Ytajjmllolaajoaa.zon
open Go.RowKit Go.Lib
open Go.Proofs.Ytajjmllolaajoaa.gmt (Ok)
open Go.Proofs.Ytajjmllolaajoaa.anc (kal kst ks bm ka)
open Go.Proofs.Ytajjmllolaajoaa.tbl (Ent EntOk C1 c1_new G5 g5_new OwnE)
open Go.Proofs.Ytajjmllolaajoaa.par (zx zeros zeros_length zx_length)
theorem atN_le {D : Nat} {i : Int} (h : -1 ≤ i ∧ i ≤ (D : Int) - 1) : atN D i ≤ D := by
  unfold atN
  split <;> omega
theorem atN_cast {D : Nat} {i : Int} (h : -1 ≤ i ∧ i ≤ (D : Int) - 1) : ((atN D i : Nat) : Int) = if i = -1 then (D : Int) else i := by
  unfold atN
  split <;> omega
set_option maxRecDepth 100000 in
set_option maxHeartbeats 8000000 in
theorem ze_main (z s l a : Int) (D : Nat) (x : tbl.TV) (N : Nat) (hA : Option Addr) (hq : Nat) (hr : List Row) (n : Nat) (at0 : Int) (w : World) (hc : Czn w) (hN : x.es.length = N) (hx : x.In w w.heap.size) (hn : hr.length = n) (hh : LV.In w w.heap.size ⟨hA, hq, hr⟩) (hv : ¬ (20 < N ∨ 20 < n ∨ ∃ y ∈ lists hr, 100 < y.length)) (ho : Ok z D s l a) (hg : tbl.Good (D : Int) x.es) (hd : HadOk (D + 1) (lists hr)) :
    Calls Try.prog 3 #[.agg #[.int .i64 z, .int .i64 D, .int .i64 s, .int .i64 l, .int .i64 a], .agg #[.slice x.A N x.c], .slice hA n hq, .int .i64 at0] w fun e w' => e = .returned (.bool true) ∧ Below w.heap.size w w' := by
  have HO := Lib.hid ho
  have HG := Lib.hid hg
  have HD1 : Hid (1 ≤ D ∧ D ≤ 4) := Lib.hid (by have := ho.2.1; omega)
  have HH := Lib.hid hd
  clear ho hg hd
  have s1 : (w.alloc (.cells #[.int .i64 z, .int .i64 D, .int .i64 s, .int .i64 l, .int .i64 a] 23)).heap.size = w.heap.size + 1 := by simp
  have hx2 := anc.bl (w.alloc (.cells #[.int .i64 z, .int .i64 D, .int .i64 s, .int .i64 l, .int .i64 a] 23)) (.cells #[.slice x.A N x.c] 26)
  have GG := (g5_new w z D s l a).keep hx2 (by omega)
  have TT := c1_new (w.alloc (.cells #[.int .i64 z, .int .i64 D, .int .i64 s, .int .i64 l, .int .i64 a] 23)) (.slice x.A N x.c) 26
  rw [s1] at TT
  have hw := kal (anc.bl w (.cells #[.int .i64 z, .int .i64 D, .int .i64 s, .int .i64 l, .int .i64 a] 23)) (.cells #[.slice x.A N x.c] 26)
  have lT : w.heap.size + 1 < ((w.alloc (.cells #[.int .i64 z, .int .i64 D, .int .i64 s, .int .i64 l, .int .i64 a] 23)).alloc (.cells #[.slice x.A N x.c] 26)).heap.size := by simp
  have HC := Lib.hid hc
  have HNE := Lib.hid hN
  have HXI := Lib.hid (hx.next hw)
  have HHI := Lib.hid (hh.next hw)
  have HHn := Lib.hid hn
  clear hc hN hx hh hn s1 hx2
  go_enter Try.func3, Try.ntmps3
  go_upto_region 1 with fail
  generalize ((w.alloc (.cells #[.int .i64 z, .int .i64 D, .int .i64 s, .int .i64 l, .int .i64 a] 23)).alloc (.cells #[.slice x.A N x.c] 26)) = w2 at *
  obtain ⟨g0, g1', g2, g3, g4⟩ := id GG
  have t0 := TT.c0
  have HHV := Lib.hid (heavy_c false x.A hA N x.c n hq hr w2 HHn.out HHI.out.h HHI.out.r (iff_of_false Bool.false_ne_true hv))
  have hN20 : N ≤ 20 := by omega
  have hn20 : n ≤ 20 := by omega
  have HN20 := Lib.hid hN20
  have Hn20 := Lib.hid hn20
  have HSH := Lib.hid (show ∀ y ∈ lists hr, y.length ≤ 100 from fun y hy => Nat.le_of_not_lt fun k => hv (.inr (.inr ⟨y, hy, k⟩)))
  clear hv hN20 hn20
  have HMG := Lib.hid (show ∀ W, Below w2.heap.size w2 W → (W.cell? ⟨w.heap.size, 0, none⟩ = some (.int .i64 z) ∧ W.cell? ⟨w.heap.size, 1, none⟩ = some (.int .i64 D) ∧ W.cell? ⟨w.heap.size, 2, none⟩ = some (.int .i64 s) ∧ W.cell? ⟨w.heap.size, 3, none⟩ = some (.int .i64 l) ∧ W.cell? ⟨w.heap.size, 4, none⟩ = some (.int .i64 a)) ∧ W.cell? ⟨w.heap.size + 1, 0, none⟩ = some (.slice x.A N x.c) from fun W h => ⟨⟨kst h (by omega) g0, kst h (by omega) g1', kst h (by omega) g2, kst h (by omega) g3, kst h (by omega) g4⟩, kst h lT t0⟩)
  go_upto_region 3 with (first
    | (go_at_call 9; (with_reducible refine HHV.out.mono ?_); rintro e w3 ⟨rfl, hb3⟩; clear g0 g1' g2 g3 g4 t0; obtain ⟨⟨g0, g1', g2, g3, g4⟩, t0⟩ := HMG.out _ hb3))
  replace GG := GG.keep hb3 (by omega)
  replace TT := TT.keep hb3 lT
  replace lT := Nat.lt_of_lt_of_le lT hb3.size
  replace HXI := Lib.hid (HXI.out.next hb3)
  replace HHI := Lib.hid (HHI.out.next hb3)
  replace hw := bt hw hb3
  clear hb3 g0 g1' g2 g3 g4 t0 HMG HHV
  have t0 := TT.c0
  have HTT := Lib.hid (show Calls Try.prog 10 #[.agg #[.slice x.A N x.c]] w3 fun e w' => tbl.TbQ w3.heap.size x.es e w' ∧ Below w3.heap.size w3 w' from by
    have h9 := tbl.twin_table x N w3 HXI.out HNE.out (by have := HN20.out; omega)
    rw [tbl.TV.v, HNE.out] at h9
    exact h9)
  have HTR := Lib.hid (show ∀ W, Below w3.heap.size w3 W → Calls Try.prog 11 #[.slice hA n hq] W fun e w' => (∃ (v : LV), e = .returned (.slice v.A n v.c) ∧ lists v.rs = lists hr ∧ v.rs.length = n ∧ v.In w' w'.heap.size) ∧ Below W.heap.size W w' from fun W hW => by
    refine (twins_any hA hq n hr W HHn.out (HHI.out.next hW).h (HHI.out.next hW).r (by have := Hn20.out; omega) (fun r hr2 => Nat.le_trans (HSH.out r.l (List.mem_map_of_mem hr2)) (by decide))).mono ?_
    rintro e w' ⟨⟨v, rs, rfl, ho⟩, hb⟩
    obtain ⟨A, c, hv, hi⟩ := rows_lv ho
    have hl : rs.length = n := by rw [ho.len, lists_length, HHn.out]
    rw [hl] at hv
    subst hv
    exact ⟨⟨⟨A, c, rs⟩, rfl, ho.2.1, hl, hi⟩, hb⟩)
  go_upto_region 4 with (first
    | (go_at_call 10; (with_reducible refine HTT.out.mono ?_); rintro e w4 ⟨⟨u, heu, hue0, huo⟩, hb4⟩; rw [tbl.TV.v] at heu; subst heu; have HUE := Lib.hid hue0; clear hue0)
    | (go_at_call 11; (with_reducible refine (HTR.out _ hb4).mono ?_); rintro e w5 ⟨⟨⟨vA, vc, vr⟩, rfl, hvl, hvn, hvi⟩, hb5⟩))
  have hun : u.es.length = N := by rw [HUE.out, HNE.out]
  rw [hun]
  have HUN := Lib.hid hun
  have hxU := anc.bl w5 (.cells #[.slice u.A N u.c] 26)
  have UU := c1_new w5 (.slice u.A N u.c) 26
  have lU : w5.heap.size < (w5.alloc (.cells #[.slice u.A N u.c] 26)).heap.size := by simp
  have b5 := bt hb4 (bt hb5 hxU)
  have HUI := Lib.hid ((tbl.TV.Own.inn huo).next (bt hb5 hxU))
  have HVI := Lib.hid (hvi.next hxU)
  have HVL := Lib.hid hvl
  have HVN := Lib.hid hvn
  replace GG := GG.keep b5 (by omega)
  replace TT := TT.keep b5 lT
  replace lT := Nat.lt_of_lt_of_le lT b5.size
  replace HXI := Lib.hid (HXI.out.next b5)
  replace HHI := Lib.hid (HHI.out.next b5)
  replace hw := bt hw b5
  clear hun hb4 hb5 hxU b5 huo hvi hvl hvn t0 HTT HTR
  generalize hgU : w5.heap.size = gU at *
  clear hgU
  generalize w5.alloc (.cells #[.slice u.A N u.c] 26) = w6 at *
  obtain ⟨q, Lb, eb, hbq, hb1, hb2⟩ : ∃ (q : Nat) (Lb : List UInt8) (eb : Int), (∀ W, Below w6.heap.size w6 W → Calls Try.prog 12 #[.agg #[.int .i64 z, .int .i64 D, .int .i64 s, .int .i64 l, .int .i64 a], .agg #[.slice u.A N u.c], .slice vA n vc, .int .i64 at0] W fun e w' => BytX q Lb eb e w' ∧ Below W.heap.size W w') ∧ ((-1 ≤ at0 ∧ at0 ≤ (D : Int) - 1) → q = (known (D + 1) x.es (lists hr) (atN D at0)).length ∧ Lb = known (D + 1) x.es (lists hr) (atN D at0) ∧ eb = if known (D + 1) x.es (lists hr) (atN D at0) = [] then 13 else 0) ∧ (¬ (-1 ≤ at0 ∧ at0 ≤ (D : Int) - 1) → q = 0 ∧ eb = 1) := by
    by_cases hwh : -1 ≤ at0 ∧ at0 ≤ (D : Int) - 1
    · refine ⟨_, _, _, fun W hW => ?_, fun _ => ⟨rfl, rfl, rfl⟩, fun h => absurd hwh h⟩
      refine (HC.out.block z s l a D u N ⟨vA, vc, vr⟩ n W at0 (bt hw hW) HO.out (HUI.out.next hW) HUN.out (by rw [HUE.out]; exact HG.out) (HVI.out.next hW) HVN.out (by show HadOk _ (lists vr); rw [HVL.out]; exact HH.out) hwh).mono ?_
      rintro e w' ⟨⟨X, c, rfl, ho⟩, hb⟩
      have h9 : known (D + 1) u.es (lists vr) (atN D at0) = known (D + 1) x.es (lists hr) (atN D at0) := by rw [HUE.out, HVL.out]
      change Own _ _ _ (.slice X (known (D + 1) u.es (lists vr) (atN D at0)).length c) (known (D + 1) u.es (lists vr) (atN D at0)) at ho
      rw [h9] at ho
      refine ⟨⟨X, c, ?_, fun _ => (own_at ho).2.2.2⟩, hb⟩
      show Ending.returned (.tuple #[.slice X (known (D + 1) u.es (lists vr) (atN D at0)).length c, .int .i64 (if known (D + 1) u.es (lists vr) (atN D at0) = [] then 13 else 0)]) = _
      rw [h9]
    · refine ⟨0, [], 1, fun W hW => ?_, fun h => absurd h hwh, fun _ => ⟨rfl, rfl⟩⟩
      refine (HC.out.block_what z s l a D u N ⟨vA, vc, vr⟩ n W at0 (bt hw hW) HO.out (HUI.out.next hW) HUN.out (by rw [HUE.out]; exact HG.out) (HVI.out.next hW) HVN.out (by show HadOk _ (lists vr); rw [HVL.out]; exact HH.out) hwh).mono ?_
      rintro e w' ⟨⟨X, c, rfl⟩, hb⟩
      exact ⟨⟨X, c, rfl, fun h => absurd h (by decide)⟩, hb⟩
  have HBK := Lib.hid hbq
  have HB1 := Lib.hid hb1
  have HB2 := Lib.hid hb2
  clear hbq hb1 hb2
  have HAL := Lib.hid (show ∀ W, Below w6.heap.size w6 W → Calls Try.prog 13 #[.agg #[.int .i64 z, .int .i64 D, .int .i64 s, .int .i64 l, .int .i64 a], .agg #[.slice u.A N u.c], .slice vA n vc] W fun e w' => AllX (D + 1) (knowns (D + 1) x.es (lists hr)) 0 e w' ∧ Below W.heap.size W w' from fun W hW => by
    refine (HC.out.all z s l a D u N ⟨vA, vc, vr⟩ n W (bt hw hW) HO.out (HUI.out.next hW) HUN.out (by rw [HUE.out]; exact HG.out) (HVI.out.next hW) HVN.out (by show HadOk _ (lists vr); rw [HVL.out]; exact HH.out)).mono ?_
    rintro e w' ⟨⟨Y, yc, yr, K, kc, rfl, h1, h2, h3⟩, hb⟩
    have h9 : knowns (D + 1) u.es (lists vr) = knowns (D + 1) x.es (lists hr) := by rw [HUE.out, HVL.out]
    change lists yr = knowns (D + 1) u.es (lists vr) at h1
    change SlV _ _ K (bools (kn (knowns (D + 1) u.es (lists vr)))) at h3
    rw [h9] at h1 h3
    exact ⟨⟨Y, yc, yr, K, kc, rfl, fun _ => ⟨h1, h2, h3⟩⟩, hb⟩)
  obtain ⟨g0, g1', g2, g3, g4⟩ := id GG
  have u0 := UU.c0
  go_upto_region 5 with (go_at_call 12; (with_reducible refine (HBK.out w6 (Below.refl _ _)).mono ?_); rintro e w7 ⟨⟨X, xc, rfl, hbx⟩, hb7⟩)
  have HBX := Lib.hid hbx
  clear hbx g0 g1' g2 g3 g4 u0
  obtain ⟨g0, g1', g2, g3, g4⟩ := id (GG.keep hb7 (by omega))
  have u0 := (UU.keep hb7 lU).c0
  go_upto_region 6 with (go_at_call 13; (with_reducible refine (HAL.out w7 hb7).mono ?_); rintro e w8 ⟨⟨Y, yc, yr, K, kc, rfl, hax⟩, hb8⟩)
  have HAX := Lib.hid hax
  have b8 := bt hb7 hb8
  replace HBX := Lib.hid (fun h => (HBX.out h).next hb8)
  replace UU := UU.keep b8 lU
  replace HUI := Lib.hid (HUI.out.next b8)
  replace HVI := Lib.hid (HVI.out.next b8)
  replace GG := GG.keep b8 (by omega)
  replace TT := TT.keep b8 lT
  replace lT := Nat.lt_of_lt_of_le lT b8.size
  replace HXI := Lib.hid (HXI.out.next b8)
  replace HHI := Lib.hid (HHI.out.next b8)
  replace hw := bt hw b8
  clear hax hb7 hb8 b8 g0 g1' g2 g3 g4 u0 HBK HAL
  have HKT := Lib.hid (show Calls Try.prog 14 #[.agg #[.slice u.A N u.c], .agg #[.slice x.A N x.c]] w8 fun e w' => e = .returned (.bool true) ∧ Below w8.heap.size w8 w' from by
    have h9 := tbl.tab_same u x w8 HUI.out HXI.out (by rw [HUN.out]; have := HN20.out; omega)
    rw [decide_eq_true HUE.out, tbl.TV.v, tbl.TV.v, HUN.out, HNE.out] at h9
    exact h9)
  have HKR := Lib.hid (show ∀ W, Below w8.heap.size w8 W → Calls Try.prog 15 #[.slice vA n vc, .slice hA n hq] W fun e w' => e = .returned (.bool true) ∧ Below W.heap.size W w' from fun W hW => by
    have h9 := rows_any vA hA vc hq n n vr hr W HVN.out HHn.out (HVI.out.next hW).h (HHI.out.next hW).h (HVI.out.next hW).r (HHI.out.next hW).r (by have := Hn20.out; omega) (fun r hr2 => by
      have h8 : r.l ∈ lists vr := List.mem_map_of_mem hr2
      rw [HVL.out] at h8
      exact Nat.le_trans (HSH.out r.l h8) (by decide))
    rw [decide_eq_true HVL.out] at h9
    exact h9)
  have u0 := UU.c0
  have t0 := TT.c0
  go_upto_region 8 with (first
    | (go_at_call 14; (with_reducible refine HKT.out.mono ?_); rintro e w9 ⟨rfl, hb9⟩)
    | (go_at_call 15; (with_reducible refine (HKR.out _ hb9).mono ?_); rintro e w10 ⟨rfl, hb10⟩))
  have b10 := bt hb9 hb10
  replace HBX := Lib.hid (fun h => (HBX.out h).next b10)
  replace HAX := Lib.hid (fun h => And.intro (HAX.out h).1 (And.intro ((HAX.out h).2.1.next b10) ((HAX.out h).2.2.next b10)))
  replace GG := GG.keep b10 (by omega)
  replace TT := TT.keep b10 lT
  replace lT := Nat.lt_of_lt_of_le lT b10.size
  replace HXI := Lib.hid (HXI.out.next b10)
  replace HHI := Lib.hid (HHI.out.next b10)
  replace hw := bt hw b10
  clear hb9 hb10 b10 u0 t0 HKT HKR UU lU HUI HVI
  obtain ⟨g0, g1', g2, g3, g4⟩ := id GG
  have t0 := TT.c0
  have HRG := Lib.hid (gmt.rgeo_at true z D s l a w10 (iff_of_true rfl HO.out))
  have HRT := Lib.hid (show ∀ W, Below w10.heap.size w10 W → Calls Try.prog 17 #[.agg #[.int .i64 z, .int .i64 D, .int .i64 s, .int .i64 l, .int .i64 a], .agg #[.slice x.A N x.c]] W fun e w' => e = .returned (.bool true) ∧ Below W.heap.size W w' from fun W hW => by
    have h9 := tbl.rtable_any true z D s l a x W HO.out (HXI.out.next hW) (by rw [HNE.out]; have := HN20.out; omega) (iff_of_true rfl HG.out)
    rw [tbl.TV.v, HNE.out] at h9
    exact h9)
  have HM10 := Lib.hid (show ∀ W, Below w10.heap.size w10 W → G5 W w.heap.size z D s l a ∧ C1 W (w.heap.size + 1) (.slice x.A N x.c) from fun W hW => ⟨GG.keep hW (by omega), TT.keep hW lT⟩)
  have HRH := Lib.hid (show ∀ W, Below w10.heap.size w10 W → Calls Try.prog 19 #[.agg #[.int .i64 z, .int .i64 D, .int .i64 s, .int .i64 l, .int .i64 a], .slice hA n hq] W fun e w' => e = .returned (.bool true) ∧ Below W.heap.size W w' from fun W hW => had_c true z s l a D hA n hq hr W HO.out HHn.out (HHI.out.next hW).h (HHI.out.next hW).r (iff_of_true rfl HH.out))
  have HeN : Hid (N = D + 1) := Lib.hid (by have := HG.out.1; rw [HNE.out] at this; omega)
  have Hen : Hid (n = D + 1) := Lib.hid (by have := HH.out.1; rw [lists_length, HHn.out] at this; exact this)
  have HKN := Lib.hid (show ∀ (i : Nat) W, Below w10.heap.size w10 W → i ≤ D → Calls Try.prog 20 #[.agg #[.int .i64 z, .int .i64 D, .int .i64 s, .int .i64 l, .int .i64 a], .agg #[.slice x.A N x.c], .slice hA n hq, .int .i64 (i : Nat)] W fun e w' => (∃ (A : Option Addr) (c : Nat), e = .returned (.slice A (known (D + 1) x.es (lists hr) i).length c) ∧ Own w' W.heap.size 5 (.slice A (known (D + 1) x.es (lists hr) i).length c) (known (D + 1) x.es (lists hr) i)) ∧ Below W.heap.size W w' from fun i W hW hi => by
    refine (rknown_at z s l a D x N hA n hq hr i W HO.out HNE.out HeN.out (HXI.out.next hW) HHn.out Hen.out (HHI.out.next hW).h (HHI.out.next hW).r HH.out hi).mono ?_
    rintro e w' ⟨⟨v, rfl, ho⟩, hb⟩
    obtain ⟨A, c, hv, -, -, -, -⟩ := id ho.form
    subst hv
    exact ⟨⟨A, c, rfl, ho⟩, hb⟩)
  have hDb : D ≤ 4 := HD1.out.2
  have q9 : (((D + 1 : Nat) : Int) != (D : Int) + 1) = false := by rw [show ((D + 1 : Nat) : Int) = (D : Int) + 1 by omega]; exact bne_self_eq_false _
  go_upto_region 15 with (first
    | (go_at_call 16; (with_reducible refine HRG.out.mono ?_); rintro e wa ⟨rfl, hba⟩; clear g0 g1' g2 g3 g4 t0; obtain ⟨⟨g0, g1', g2, g3, g4⟩, TX⟩ := HM10.out _ hba; have t0 := TX.c0)
    | (go_at_call 17; (with_reducible refine (HRT.out _ hba).mono ?_); rintro e wb ⟨rfl, hbb⟩; have hbb2 := bt hba hbb; clear g0 g1' g2 g3 g4 t0 TX; obtain ⟨⟨g0, g1', g2, g3, g4⟩, TX⟩ := HM10.out _ hbb2; have t0 := TX.c0)
    | (go_at_call 19; (with_reducible refine (HRH.out _ hbb2).mono ?_); rintro e wd ⟨rfl, hbd⟩; have hbd2 := bt hbb2 hbd; clear g0 g1' g2 g3 g4 t0 TX; obtain ⟨⟨g0, g1', g2, g3, g4⟩, TX⟩ := HM10.out _ hbd2; have t0 := TX.c0))
  clear g0 g1' g2 g3 g4 t0 TX q9 hba hbb hbb2 HRG HRT HRH hbd
  go_loopw [16, 17] (fun i v w' => ∃ (k : Nat), k ≤ D + 1 ∧ i = .int .i64 k ∧ Below w10.heap.size w10 w') (fun i _ _ => D + 1 - (RowKit.intOf i).toNat)
  case atStart => exact ⟨0, by omega, rfl, hbd2⟩
  case round =>
    obtain ⟨w11, rfl⟩ : ∃ q, q = wr := ⟨wr, rfl⟩
    obtain ⟨k, hk, rfl, hbr⟩ := hrel
    obtain ⟨⟨g0, g1', g2, g3, g4⟩, TX⟩ := HM10.out _ hbr
    have t0 := TX.c0
    have hx11 := bt hw hbr
    by_cases hlt : k ≤ D
    · have i4 : (k : Int) ≤ (D : Int) := by omega
      obtain ⟨hyl, hyi, hks⟩ := HAX.out trivial
      have hkl : k < (knowns (D + 1) x.es (lists hr)).length := by rw [knowns_length]; omega
      obtain ⟨b2, of2, ry, hY, hb2, r2, hry, -, -, e2⟩ := row_at (hyi.next hbr).h (hyi.next hbr).r (show k < yr.length by have h9 := congrArg List.length hyl; rw [lists_length, knowns_length] at h9; omega)
      obtain ⟨b4, of4, hK, hb4, c4, e4⟩ := bool_at (hks.next hbr) (show k < (kn (knowns (D + 1) x.es (lists hr))).length by rw [kn_length]; exact hkl)
      obtain ⟨P, hP⟩ : ∃ P, P = known (D + 1) x.es (lists hr) k := ⟨_, rfl⟩
      have hyk : ry.l = P := by
        rw [hyl, knowns_get _ _ (by omega)] at e2
        rw [hP]
        exact (Option.some.inj e2).symm
      have hbk : (kn (knowns (D + 1) x.es (lists hr)))[k]'(by rw [kn_length]; exact hkl) = !P.isEmpty := by
        have h9 := kn_get (knowns_get (n := D + 1) x.es (lists hr) (show k < D + 1 by omega))
        rw [e4] at h9
        rw [hP]
        exact Option.some.inj h9
      rw [hbk] at c4
      have HK1 := Lib.hid (HKN.out k w11 hbr hlt)
      rw [← hP] at HK1
      have hp8 : P.length ≤ 1048576 := by
        have h9 := known_length (es := x.es) HH.out k
        rw [← hP] at h9
        rcases h9 with h9 | h9
        · rw [h9]; exact Nat.zero_le _
        · omega
      have HKB := Lib.hid (show ∀ (A : Option Addr) (c : Nat) (W : World), Below w11.heap.size w11 W → Sl W W.heap.size A P → Calls Try.prog 21 #[.slice ry.A ry.l.length ry.c, .slice A P.length c] W fun e w' => e = .returned (.bool true) ∧ Below W.heap.size W w' from fun A c W hW hs => keep_c true ry.A A _ _ ry.c c ry.l P W rfl rfl (by rw [hyk]; exact hp8) (hry.next hW) hs (iff_of_true rfl hyk))
      subst hY hK
      have j1 : (k : Int) < ((D + 1 : Nat) : Int) := by omega
      have j0 : (0 : Int) ≤ (k : Int) := by omega
      have HC4 := Lib.hid (show ∀ W, Below w11.heap.size w11 W → W.cell? ⟨b4, of4 + k, none⟩ = some (.bool (!P.isEmpty)) ∧ W.cell? ⟨b2, of2 + k, none⟩ = some (.slice ry.A ry.l.length ry.c) from fun W hW => ⟨kst hW hb4 c4, kst hW hb2 r2⟩)
      clear hyl hyi hks hkl e2 e4 hbk hry hyk hP c4 r2 hp8
      go_upto_region 18 with (go_at_call 20; (with_reducible refine HK1.out.mono ?_); rintro e w12 ⟨⟨A, c, rfl, hpo⟩, hb12⟩)
      obtain ⟨c4, r2⟩ := HC4.out _ hb12
      have hps := (own_at hpo).2.2.2
      have HB9 := Lib.hid (HKB.out A c w12 hb12 hps)
      clear hpo hps HKB HK1 HC4
      by_cases hz : P = []
      · have c5 : w12.cell? ⟨b4, of4 + k, none⟩ = some (.bool false) := by rw [c4, hz]; rfl
        subst hz
        rw [List.length_nil] at HB9
        clear c4
        go_wp2_with (go_at_call 21; (with_reducible refine HB9.out.mono ?_); rintro e w13 ⟨rfl, hb13⟩)
        go_roundw
        case rel => exact ⟨k + 1, by omega, by go_num, bt hbr (bt hb12 hb13)⟩
        case measure => simp [RowKit.intOf]; omega
      · have c5 : w12.cell? ⟨b4, of4 + k, none⟩ = some (.bool true) := by
          rw [c4]
          cases P with
          | nil => exact absurd rfl hz
          | cons _ _ => rfl
        have q : (0 : Int) < (P.length : Int) := by have := List.length_pos_iff.2 hz; omega
        clear c4 hz
        go_wp2_with (go_at_call 21; (with_reducible refine HB9.out.mono ?_); rintro e w13 ⟨rfl, hb13⟩)
        go_roundw
        case rel => exact ⟨k + 1, by omega, by go_num, bt hbr (bt hb12 hb13)⟩
        case measure => simp [RowKit.intOf]; omega
    · have i4 : ¬ (k : Int) ≤ (D : Int) := by omega
      have HWK := Lib.hid (fun (W : World) (hW : Below w.heap.size w W) => wk_zn W (HC.out.next hW))
      by_cases hwh : -1 ≤ at0 ∧ at0 ≤ (D : Int) - 1
      · have HRW := Lib.hid (rwhat_c true z D s l a at0 w11 HO.out (iff_of_true rfl hwh))
        obtain ⟨hq0, hL0, he0⟩ := HB1.out hwh
        have hP1 := atN_le hwh
        have hP0 := atN_cast hwh
        obtain ⟨m, hm⟩ : ∃ m, m = atN D at0 := ⟨_, rfl⟩
        rw [← hm] at hq0 hL0 he0 hP1 hP0
        obtain ⟨P, hP⟩ : ∃ P, P = known (D + 1) x.es (lists hr) m := ⟨_, rfl⟩
        have HKQ := Lib.hid (fun W hW => HKN.out m W hW hP1)
        rw [← hP] at hq0 hL0 he0 HKQ
        have hp8 : P.length ≤ 1048576 := by
          have h9 := known_length (es := x.es) HH.out m
          rw [← hP] at h9
          rcases h9 with h9 | h9
          · rw [h9]; exact Nat.zero_le _
          · omega
        have HRA := Lib.hid (show ∀ W, Calls Try.prog 23 #[.agg #[.int .i64 z, .int .i64 D, .int .i64 s, .int .i64 l, .int .i64 a], .int .i64 at0] W fun e w' => e = .returned (.int .i64 (m : Nat)) ∧ Below W.heap.size W w' from fun W => by
          have h9 := rat_c z D s l a at0 W
          rw [← hP0] at h9
          exact h9)
        clear HB1 HB2 hm hP hP0 hP1 hwh HKN HAX HG HH
        replace hL0 := hL0.symm
        subst hq0 hL0
        have HE0 := Lib.hid he0
        clear he0
        go_upto_region 22 with (go_at_call 22; (with_reducible refine HRW.out.mono ?_); rintro e w12 ⟨rfl, hb12⟩)
        have hbr2 := bt hbr hb12
        obtain ⟨⟨m0, m1', m2, m3, m4⟩, TX2⟩ := HM10.out _ hbr2
        have mt := TX2.c0
        replace HBX := Lib.hid (fun h => (HBX.out h).next hbr2)
        have hx12 := bt hx11 hb12
        have HS := Lib.hid (show ∀ W, Below w12.heap.size w12 W → W.cell? ⟨w.heap.size, 0, none⟩ = some (.int .i64 z) ∧ W.cell? ⟨w.heap.size, 1, none⟩ = some (.int .i64 D) ∧ W.cell? ⟨w.heap.size, 2, none⟩ = some (.int .i64 s) ∧ W.cell? ⟨w.heap.size, 3, none⟩ = some (.int .i64 l) ∧ W.cell? ⟨w.heap.size, 4, none⟩ = some (.int .i64 a) ∧ W.cell? ⟨w.heap.size + 1, 0, none⟩ = some (.slice x.A N x.c) ∧ Below w12.heap.size w12 W from fun W h => by
          obtain ⟨⟨q0, q1, q2, q3, q4⟩, TQ⟩ := HM10.out _ (bt hbr2 h)
          exact ⟨q0, q1, q2, q3, q4, TQ.c0, h⟩)
        have HKQ2 := Lib.hid (fun W (hW : Below w12.heap.size w12 W) => HKQ.out W (bt hbr2 hW))
        have HWK2 := Lib.hid (fun W (hW : Below w12.heap.size w12 W) => HWK.out W (bt hx12 hW))
        clear g0 g1' g2 g3 g4 t0 TX HKQ HWK HRW
        go_region_held3 (fun W => W.cell? ⟨w.heap.size, 0, none⟩ = some (.int .i64 z) ∧ W.cell? ⟨w.heap.size, 1, none⟩ = some (.int .i64 D) ∧ W.cell? ⟨w.heap.size, 2, none⟩ = some (.int .i64 s) ∧ W.cell? ⟨w.heap.size, 3, none⟩ = some (.int .i64 l) ∧ W.cell? ⟨w.heap.size, 4, none⟩ = some (.int .i64 a) ∧ W.cell? ⟨w.heap.size + 1, 0, none⟩ = some (.slice x.A N x.c) ∧ Below w12.heap.size w12 W)
          ((refine HS.out _ ?_; first
            | with_reducible exact hb9
            | with_reducible exact hb1
            | with_reducible exact below_dr (Below.refl _ _)
            | fail))
          (first
            | (go_at_call 23; (with_reducible refine (HRA.out _).mono ?_); rintro e w13 ⟨rfl, hbq⟩; have hb1 := bt (below_dr (Below.refl w12.heap.size w12)) hbq; clear hbq)
            | (go_at_call 20; (with_reducible refine (HKQ2.out _ hb1).mono ?_); rintro e w14 ⟨⟨A, c, rfl, hpo⟩, hbq⟩; have hps := (own_at hpo).2.2.2; have hb9 := bt hb1 hbq; clear hbq hpo)
            | fail)
        by_cases hz : P = []
        · subst hz
          have he0 := HE0.out
          rw [if_pos rfl] at he0
          subst he0
          have HWK3 := Lib.hid (HWK2.out _ hb9)
          clear HBX HWK2 HKQ2 HS HE0
          go_wp2_with (go_at_call 18; (with_reducible refine HWK3.out.mono ?_); rintro e w15 ⟨rfl, hb15⟩)
          go_ret
          exact ⟨rfl, bt (bt hx12 hb9) hb15⟩
        · have he0 := HE0.out
          rw [if_neg hz] at he0
          subst he0
          have q : (0 : Int) < (P.length : Int) := by have := List.length_pos_iff.2 hz; omega
          have HBY := Lib.hid (keep_c true X A P.length P.length xc c P P w14 rfl rfl hp8 ((HBX.out rfl).next hb9) hps (iff_of_true rfl rfl))
          have HWK3 := Lib.hid (fun W (hW : Below w14.heap.size w14 W) => HWK2.out W (bt hb9 hW))
          clear HBX HWK2 HKQ2 HS HE0 hz hp8 hps
          go_wp2_with (first
            | (go_at_call 21; (with_reducible refine HBY.out.mono ?_); rintro e w15 ⟨rfl, hb15⟩)
            | (go_at_call 18; (with_reducible refine (HWK3.out _ hb15).mono ?_); rintro e w16 ⟨rfl, hb16⟩))
          go_ret
          exact ⟨rfl, bt (bt hx12 hb9) (bt hb15 hb16)⟩
      · have HRW := Lib.hid (rwhat_c false z D s l a at0 w11 HO.out (iff_of_false Bool.false_ne_true hwh))
        obtain ⟨hq0, he0⟩ := HB2.out hwh
        subst hq0 he0
        clear HB1 HB2 HBX HAX hwh HKN HG HH
        go_wp2_with (first
          | (go_at_call 22; (with_reducible refine HRW.out.mono ?_); rintro e w12 ⟨rfl, hb12⟩)
          | (go_at_call 18; (with_reducible refine (HWK.out _ (bt hx11 hb12)).mono ?_); rintro e w13 ⟨rfl, hb13⟩))
        go_ret
        exact ⟨rfl, bt hx11 (bt hb12 hb13)⟩
/-- The law. -/
theorem exact_law (z s l a : Int) (d : Int) (x : tbl.TV) (N : Nat) (hA : Option Addr) (hq : Nat) (hr : List Row) (n : Nat) (at0 : Int) (w : World) (hc : Czn w) (hN : x.es.length = N) (hx : x.In w w.heap.size) (hn : hr.length = n) (hh : LV.In w w.heap.size ⟨hA, hq, hr⟩) :
    Calls Try.prog 3 #[.agg #[.int .i64 z, .int .i64 d, .int .i64 s, .int .i64 l, .int .i64 a], .agg #[.slice x.A N x.c], .slice hA n hq, .int .i64 at0] w fun e w' => e = .returned (.bool true) ∧ Below w.heap.size w w' := by
  by_cases hv : 20 < N ∨ 20 < n ∨ ∃ y ∈ lists hr, 100 < y.length
  · exact ze_heavy z s l a d x N hA hq hr n at0 w hc hN hx hn hh hv
  by_cases ho : Ok z d s l a
  case neg => exact ze_geo z s l a d x N hA hq hr n at0 w hc hN hx hn hh hv ho
  by_cases hg : tbl.Good d x.es
  case neg => exact ze_tab z s l a d x N hA hq hr n at0 w hc hN hx hn hh hv ho hg
  obtain ⟨D, rfl⟩ : ∃ D : Nat, d = D := ⟨d.toNat, by have := ho.2.1; omega⟩
  by_cases hd : HadOk (D + 1) (lists hr)
  case neg => exact ze_had z s l a D x N hA hq hr n at0 w hc hN hx hn hh hv ho hg hd
  exact ze_main z s l a D x N hA hq hr n at0 w hc hN hx hn hh hv ho hg hd
/-- The law as its row calls it. -/
theorem exact_said (z s l a d : Int) (x : tbl.TV) (hA : Option Addr) (hq : Nat) (hr : List Row) (at0 : Int) (w : World) (hc : Czn w) (hx : x.In w w.heap.size) (hh : LV.In w w.heap.size ⟨hA, hq, hr⟩) :
    Calls Try.prog 3 #[.agg #[.int .i64 z, .int .i64 d, .int .i64 s, .int .i64 l, .int .i64 a], x.v, .slice hA hr.length hq, .int .i64 at0] w fun e w' => e = .returned (.bool true) ∧ Below w.heap.size w w' := by
  unfold tbl.TV.v
  exact exact_law z s l a d x _ hA hq hr _ at0 w hc rfl hx rfl hh
end Go.Proofs.Ytajjmllolaajoaa.zon
