/-
  The law StripeExact, where the zone is right. Conditions: 'Cst'.
-/
import Derived.Test.YthdahdopejapmaaStQ
import Derived.Test.YthdahdopejapmaaDkQ
import Derived.Deep.RegionHeld3
import Derived.Test.YthdahdopejapmaaStLH
import Derived.Test.YthdahdopejapmaaStV
import Derived.Deep.CutRange
import Derived.Deep.CutBlock
namespace Go.Proofs.Ythdahdopejapmaa.stp
open Go.RowKit Go.Lib
open Go.Proofs.Ythdahdopejapmaa.gmt (Ok)
open Go.Proofs.Ythdahdopejapmaa.anc (bl kal kst ks bm ka)
open Go.Proofs.Ythdahdopejapmaa.tbl (Ent EntOk C1 c1_new G5 g5_new OwnE)
open Go.Proofs.Ythdahdopejapmaa.par (zx zeros zeros_length zx_length)
open Go.Proofs.Ythdahdopejapmaa.zon
open Go.Proofs.Ythdahdopejapmaa.img
set_option maxRecDepth 100000 in
set_option maxHeartbeats 16000000 in
theorem ex_good (z s l a st zn : Int) (D : Nat) (x : tbl.TV) (N : Nat) (hA : Option Addr) (hq : Nat) (hr : List Row) (n : Nat) (aA : Option Addr) (ac : Nat) (ats : List Int) (m : Nat) (bA : Option Addr) (bc : Nat) (br : List Row) (k : Nat) (pA : Option Addr) (pn pc : Nat) (p : List UInt8) (w : World) (hc : Cst w) (hN : x.es.length = N) (hx : x.In w w.heap.size) (hn : hr.length = n) (hh : LV.In w w.heap.size ⟨hA, hq, hr⟩) (hm : ats.length = m) (ha : NV.In w w.heap.size ⟨aA, ac, ats⟩) (hk : br.length = k) (hb : LV.In w w.heap.size ⟨bA, bc, br⟩) (hpn : p.length = pn) (hp : Sl w w.heap.size pA p) (hpc : pn ≤ pc ∧ pc ≤ maxLen) (h1 : ¬ (20 < N ∨ 20 < n ∨ ∃ y ∈ lists hr, 100 < y.length)) (h2 : ¬ (20 < N ∨ 20 < k ∨ ∃ y ∈ lists br, 100 < y.length)) (h3 : ¬ (20 < m ∨ 100 < pn)) (ho : Ok z D s l a) (hg : tbl.Good (D : Int) x.es) :
    Calls Try.prog 3 #[.agg #[.int .i64 z, .int .i64 D, .int .i64 s, .int .i64 l, .int .i64 a], .agg #[.slice x.A N x.c], .slice hA n hq, .slice aA m ac, .slice bA k bc, .int .i64 st, .int .i64 zn, .slice pA pn pc] w fun e w' => e = .returned (.bool true) ∧ Below w.heap.size w w' := by
  have s1 : (w.alloc (.cells #[.int .i64 z, .int .i64 D, .int .i64 s, .int .i64 l, .int .i64 a] 23)).heap.size = w.heap.size + 1 := by simp
  have hx2 := anc.bl (w.alloc (.cells #[.int .i64 z, .int .i64 D, .int .i64 s, .int .i64 l, .int .i64 a] 23)) (.cells #[.slice x.A N x.c] 26)
  have GG := (g5_new w z D s l a).keep hx2 (by omega)
  have TT := c1_new (w.alloc (.cells #[.int .i64 z, .int .i64 D, .int .i64 s, .int .i64 l, .int .i64 a] 23)) (.slice x.A N x.c) 26
  rw [s1] at TT
  have hw := kal (anc.bl w (.cells #[.int .i64 z, .int .i64 D, .int .i64 s, .int .i64 l, .int .i64 a] 23)) (.cells #[.slice x.A N x.c] 26)
  have lT : w.heap.size + 1 < ((w.alloc (.cells #[.int .i64 z, .int .i64 D, .int .i64 s, .int .i64 l, .int .i64 a] 23)).alloc (.cells #[.slice x.A N x.c] 26)).heap.size := by simp
  have HC := Lib.hid hc
  have HAI := Lib.hid (ha.next hw)
  have HAM := Lib.hid hm
  have HBI := Lib.hid (hb.next hw)
  have HBK := Lib.hid hk
  have HHI := Lib.hid (hh.next hw)
  have HHn := Lib.hid hn
  have HXI := Lib.hid (hx.next hw)
  have HNE := Lib.hid hN
  have HPI := Lib.hid (hp.next hw)
  have HPN := Lib.hid hpn
  have HPC := Lib.hid hpc
  clear hc hm ha hk hb hn hh hN hx hpn hp hpc s1 hx2
  go_enter Try.func3, Try.ntmps3
  go_upto_region 1 with fail
  generalize ((w.alloc (.cells #[.int .i64 z, .int .i64 D, .int .i64 s, .int .i64 l, .int .i64 a] 23)).alloc (.cells #[.slice x.A N x.c] 26)) = w2 at *
  obtain ⟨g0, g1', g2, g3, g4⟩ := id GG
  have t0 := TT.c0
  have HH1 := Lib.hid (heavy_c false x.A hA N x.c n hq hr w2 HHn.out HHI.out.h HHI.out.r (iff_of_false Bool.false_ne_true h1))
  have HH2 := Lib.hid (show ∀ W, Below w2.heap.size w2 W → Calls Try.prog 8 #[.agg #[.slice x.A N x.c], .slice bA k bc] W fun e w' => e = .returned (.bool false) ∧ Below W.heap.size W w' from fun W hW => heavy_c false x.A bA N x.c k bc br W HBK.out (HBI.out.next hW).h (HBI.out.next hW).r (iff_of_false Bool.false_ne_true h2))
  have h4 : ¬ (20 : Int) < (m : Int) := by omega
  have h5 : ¬ (100 : Int) < (pn : Int) := by omega
  have HNN := Lib.hid (show N ≤ 20 ∧ n ≤ 20 ∧ k ≤ 20 ∧ m ≤ 20 ∧ pn ≤ 100 by omega)
  have HSH := Lib.hid (show ∀ y ∈ lists hr, y.length ≤ 100 from fun y hy => Nat.le_of_not_lt fun k => h1 (.inr (.inr ⟨y, hy, k⟩)))
  clear h1 h2 h3
  have HMG := Lib.hid (show ∀ W, Below w2.heap.size w2 W → (W.cell? ⟨w.heap.size, 0, none⟩ = some (.int .i64 z) ∧ W.cell? ⟨w.heap.size, 1, none⟩ = some (.int .i64 D) ∧ W.cell? ⟨w.heap.size, 2, none⟩ = some (.int .i64 s) ∧ W.cell? ⟨w.heap.size, 3, none⟩ = some (.int .i64 l) ∧ W.cell? ⟨w.heap.size, 4, none⟩ = some (.int .i64 a)) ∧ W.cell? ⟨w.heap.size + 1, 0, none⟩ = some (.slice x.A N x.c) from fun W h => ⟨⟨kst h (by omega) g0, kst h (by omega) g1', kst h (by omega) g2, kst h (by omega) g3, kst h (by omega) g4⟩, kst h lT t0⟩)
  go_upto_region 3 with (first
    | (go_at_call 8; (with_reducible refine HH1.out.mono ?_); rintro e w3 ⟨rfl, hb3⟩; clear g0 g1' g2 g3 g4 t0; obtain ⟨⟨g0, g1', g2, g3, g4⟩, t0⟩ := HMG.out _ hb3)
    | (go_at_call 8; (with_reducible refine (HH2.out _ hb3).mono ?_); rintro e w3' ⟨rfl, hb3'⟩; replace hb3 := bt hb3 hb3'; clear g0 g1' g2 g3 g4 t0; obtain ⟨⟨g0, g1', g2, g3, g4⟩, t0⟩ := HMG.out _ hb3))
  replace GG := GG.keep hb3 (by omega)
  replace TT := TT.keep hb3 lT
  replace lT := Nat.lt_of_lt_of_le lT hb3.size
  replace hw := bt hw hb3
  replace HAI := Lib.hid (HAI.out.next hb3)
  replace HBI := Lib.hid (HBI.out.next hb3)
  replace HHI := Lib.hid (HHI.out.next hb3)
  replace HXI := Lib.hid (HXI.out.next hb3)
  replace HPI := Lib.hid (HPI.out.next hb3)
  clear g0 g1' g2 g3 g4 t0 HMG HH1 HH2 hb3 hb3' h4 h5
  obtain ⟨g0, g1', g2, g3, g4⟩ := id GG
  have t0 := TT.c0
  have HTW1 := Lib.hid (show Calls Try.prog 9 #[.agg #[.slice x.A N x.c]] w3' fun e w' => (∃ t : tbl.TV, e = .returned (.agg #[.slice t.A N t.c]) ∧ t.es = x.es ∧ t.Own w' w3'.heap.size) ∧ Below w3'.heap.size w3' w' from by
    have h9 := tbl.twin_table x N w3' HXI.out HNE.out (by have := HNN.out; omega)
    rw [tbl.TV.v, HNE.out] at h9
    refine h9.mono ?_
    rintro e w' ⟨⟨t, rfl, hte, hto⟩, hb⟩
    exact ⟨⟨t, by rw [tbl.TV.v, hte, HNE.out], hte, hto⟩, hb⟩)
  have HTW2 := Lib.hid (show ∀ W, Below w3'.heap.size w3' W → Calls Try.prog 10 #[.slice hA n hq] W fun e w' => (∃ (A : Option Addr) (c : Nat) (rs : List Row), e = .returned (.slice A n c) ∧ LV.In w' w'.heap.size ⟨A, c, rs⟩ ∧ lists rs = lists hr ∧ rs.length = n) ∧ Below W.heap.size W w' from fun W hW => by
    have hi := HHI.out.next hW
    refine (twins_any hA hq n hr W HHn.out hi.h hi.r (by have := HNN.out; omega) (fun r hr9 => Nat.le_trans (HSH.out r.l (List.mem_map.2 ⟨r, hr9, rfl⟩)) (by decide))).mono ?_
    rintro e w' ⟨⟨v, rs, rfl, ho⟩, hb⟩
    obtain ⟨A, c, hv, hin⟩ := rows_lv ho
    have hl : rs.length = n := by rw [ho.len, lists_length, HHn.out]
    rw [hl] at hv
    subst hv
    exact ⟨⟨A, c, rs, rfl, hin, ho.2.1, hl⟩, hb⟩)
  go_upto_region 4 with (first
    | (go_at_call 9; (with_reducible refine HTW1.out.mono ?_); rintro e w4 ⟨⟨t, rfl, hte, hto⟩, hb4⟩)
    | (go_at_call 10; (with_reducible refine (HTW2.out _ hb4).mono ?_); rintro e w5 ⟨⟨iA, ic, ir, rfl, hii, hil, hin⟩, hb5⟩))
  have hb35 := bt hb4 hb5
  have hxI := anc.bl w5 (.cells #[.slice t.A N t.c] 26)
  have II := c1_new w5 (.slice t.A N t.c) 26
  have lI : w5.heap.size < (w5.alloc (.cells #[.slice t.A N t.c] 26)).heap.size := by simp
  have hb36 := bt hb35 hxI
  have HTE := Lib.hid hte
  have HTI := Lib.hid ((tbl.TV.Own.inn hto).next (bt hb5 hxI))
  have HII := Lib.hid (hii.next hxI)
  have HIL := Lib.hid hil
  have HIN := Lib.hid hin
  replace GG := GG.keep hb36 (by omega)
  replace TT := TT.keep hb36 lT
  replace lT := Nat.lt_of_lt_of_le lT hb36.size
  replace hw := bt hw hb36
  replace HAI := Lib.hid (HAI.out.next hb36)
  replace HBI := Lib.hid (HBI.out.next hb36)
  replace HHI := Lib.hid (HHI.out.next hb36)
  replace HXI := Lib.hid (HXI.out.next hb36)
  replace HPI := Lib.hid (HPI.out.next hb36)
  clear hb36 hb35 hxI hb4 hb5 hte hto hii hil hin HTW1 HTW2 g0 g1' g2 g3 g4 t0
  generalize hgI : w5.heap.size = gI at *
  clear hgI
  generalize w5.alloc (.cells #[.slice t.A N t.c] 26) = w6 at *
  obtain ⟨E, es, pp, hWR, hE⟩ := write_ex z D s l a st t N ⟨iA, ic, ir⟩ n ⟨aA, ac, ats⟩ m ⟨bA, bc, br⟩ k w6 (HC.out.next hw) HTI.out (by rw [HTE.out]; exact HNE.out) (by have := HNN.out; omega) HII.out HIN.out (by have := HNN.out; omega) HAI.out HAM.out (by have := HNN.out; omega) HBI.out HBK.out (by have := HNN.out; omega)
  rw [HTE.out] at hE
  change (E = 0 ∧ WrOk z D s l a x.es (lists ir) ats (lists br) st ∧ es = newT ((D : Nat) : Int).toNat x.es (lists ir) ats (lists br) st ∧ pp = newP ((D : Nat) : Int).toNat x.es (lists ir) ats (lists br) st ((D : Nat) : Int).toNat) ∨ (E ≠ 0 ∧ WrWhy z D s l a x.es (lists ir) ats (lists br) st E ∧ es = [] ∧ pp = []) at hE
  rw [HIL.out] at hE
  obtain ⟨F, ds, hIM, hF⟩ := images_ex z D s l a zn t N pA pn pc p ⟨aA, ac, ats⟩ m ⟨bA, bc, br⟩ k w6 (HC.out.next hw) HTI.out (by rw [HTE.out]; exact HNE.out) (by have := HNN.out; omega) HPI.out HPN.out HPC.out HAI.out HAM.out (by have := HNN.out; omega) HBI.out HBK.out (by have := HNN.out; omega)
  rw [HTE.out] at hF
  change (F = 0 ∧ ImOk z D s l a x.es ats (lists br) p zn ∧ ds = imgL zn x.es p ats (lists br)) ∨ (F ≠ 0 ∧ ImWhy z D s l a x.es ats (lists br) p zn F ∧ ds = []) at hF
  have HWR := Lib.hid hWR
  have HIM := Lib.hid hIM
  have HEE := Lib.hid hE
  have HFF := Lib.hid hF
  clear hWR hIM hE hF
  obtain ⟨g0, g1', g2, g3, g4⟩ := id GG
  have i0 := II.c0
  go_upto_region 5 with (go_at_call 11; (with_reducible refine (HWR.out _ (Below.refl _ _)).mono ?_); rintro e w7 ⟨⟨u, X, c, rfl, hue, hui, hps, hc1, hc2⟩, hb7⟩)
  have hxU := anc.bl w7 (.cells #[.slice u.A es.length u.c] 26)
  have UU := c1_new w7 (.slice u.A es.length u.c) 26
  have lU : w7.heap.size < (w7.alloc (.cells #[.slice u.A es.length u.c] 26)).heap.size := by simp
  have b8 := bt hb7 hxU
  have HUE := Lib.hid hue
  have HUI := Lib.hid (hui.next hxU)
  have HPS := Lib.hid (hps.next hxU)
  have HPC2 := Lib.hid (show pp.length ≤ c ∧ c ≤ maxLen from ⟨hc1, hc2⟩)
  have II8 := II.keep b8 lI
  have lI8 := Nat.lt_of_lt_of_le lI b8.size
  have HTI8 := Lib.hid (HTI.out.next b8)
  have HII8 := Lib.hid (HII.out.next b8)
  replace GG := GG.keep b8 (by omega)
  replace TT := TT.keep b8 lT
  replace lT := Nat.lt_of_lt_of_le lT b8.size
  replace hw := bt hw b8
  replace HAI := Lib.hid (HAI.out.next b8)
  replace HBI := Lib.hid (HBI.out.next b8)
  replace HHI := Lib.hid (HHI.out.next b8)
  replace HXI := Lib.hid (HXI.out.next b8)
  replace HPI := Lib.hid (HPI.out.next b8)
  clear hxU hue hui hps hc1 hc2 hb7 HWR g0 g1' g2 g3 g4 i0 II lI HTI HII
  generalize hgU : w7.heap.size = gU at *
  clear hgU
  have HB68 := Lib.hid b8
  clear b8
  generalize w7.alloc (.cells #[.slice u.A es.length u.c] 26) = w8 at *
  obtain ⟨g0, g1', g2, g3, g4⟩ := id GG
  have i0 := II8.c0
  go_upto_region 7 with (go_at_call 12; (with_reducible refine (HIM.out _ HB68.out).mono ?_); rintro e w9 ⟨⟨lA9, lc9, lr9, rfl, hid, hii⟩, hb9⟩)
  have HID := Lib.hid hid
  have hxN := anc.bl w9 (.cells #[.slice none 0 0] 26)
  have NN := c1_new w9 (.slice none 0 0) 26
  have lN : w9.heap.size < (w9.alloc (.cells #[.slice none 0 0] 26)).heap.size := by simp
  have b10 := bt hb9 hxN
  have HIV := Lib.hid (show F = 0 → IV.In (w9.alloc (.cells #[.slice none 0 0] 26)) (w9.alloc (.cells #[.slice none 0 0] 26)).heap.size ⟨lA9, lc9, lr9⟩ from fun h => (hii h).next hxN)
  have II10 := II8.keep b10 lI8
  have lI10 := Nat.lt_of_lt_of_le lI8 b10.size
  have UU10 := UU.keep b10 lU
  have lU10 := Nat.lt_of_lt_of_le lU b10.size
  have HTI10 := Lib.hid (HTI8.out.next b10)
  have HII10 := Lib.hid (HII8.out.next b10)
  have HUI10 := Lib.hid (HUI.out.next b10)
  have HPS10 := Lib.hid (HPS.out.next b10)
  replace GG := GG.keep b10 (by omega)
  replace TT := TT.keep b10 lT
  replace lT := Nat.lt_of_lt_of_le lT b10.size
  replace hw := bt hw b10
  replace HAI := Lib.hid (HAI.out.next b10)
  replace HBI := Lib.hid (HBI.out.next b10)
  replace HHI := Lib.hid (HHI.out.next b10)
  replace HXI := Lib.hid (HXI.out.next b10)
  replace HPI := Lib.hid (HPI.out.next b10)
  clear hxN hid hii hb9 HIM g0 g1' g2 g3 g4 i0 II8 lI8 UU lU HTI8 HII8 HUI HPS b10 HB68
  generalize hgN : w9.heap.size = gN at *
  clear hgN
  generalize w9.alloc (.cells #[.slice none 0 0] 26) = w10 at *
  have HKT := Lib.hid (show Calls Try.prog 13 #[.agg #[.slice t.A N t.c], .agg #[.slice x.A N x.c]] w10 fun e w' => e = .returned (.bool true) ∧ Below w10.heap.size w10 w' from by
    have h9 := tbl.tab_same t x w10 HTI10.out HXI.out (by rw [HTE.out, HNE.out]; have := HNN.out; omega)
    rw [decide_eq_true HTE.out, tbl.TV.v, tbl.TV.v, HTE.out, HNE.out] at h9
    exact h9)
  have HKR := Lib.hid (show ∀ W, Below w10.heap.size w10 W → Calls Try.prog 14 #[.slice iA n ic, .slice hA n hq] W fun e w' => e = .returned (.bool true) ∧ Below W.heap.size W w' from fun W hW => by
    have h9 := rows_any iA hA ic hq n n ir hr W HIN.out HHn.out (HII10.out.next hW).h (HHI.out.next hW).h (HII10.out.next hW).r (HHI.out.next hW).r (by have := HNN.out; omega) (fun r hr9 => by
      have h8 : r.l ∈ lists ir := List.mem_map.2 ⟨r, hr9, rfl⟩
      rw [HIL.out] at h8
      exact Nat.le_trans (HSH.out _ h8) (by decide))
    rw [decide_eq_true HIL.out] at h9
    exact h9)
  have i0 := II10.c0
  have t0 := TT.c0
  go_upto_region 9 with (first
    | (go_at_call 13; (with_reducible refine HKT.out.mono ?_); rintro e w11 ⟨rfl, hb11⟩)
    | (go_at_call 14; (with_reducible refine (HKR.out _ hb11).mono ?_); rintro e w12 ⟨rfl, hb12⟩))
  have b12 := bt hb11 hb12
  have UU12 := UU10.keep b12 lU10
  have NN12 := NN.keep b12 lN
  have lU12 := Nat.lt_of_lt_of_le lU10 b12.size
  have lN12 := Nat.lt_of_lt_of_le lN b12.size
  have HUI12 := Lib.hid (HUI10.out.next b12)
  have HPS12 := Lib.hid (HPS10.out.next b12)
  have HIV12 := Lib.hid (show F = 0 → IV.In w12 w12.heap.size ⟨lA9, lc9, lr9⟩ from fun h => (HIV.out h).next b12)
  replace GG := GG.keep b12 (by omega)
  replace TT := TT.keep b12 lT
  replace lT := Nat.lt_of_lt_of_le lT b12.size
  replace hw := bt hw b12
  replace HAI := Lib.hid (HAI.out.next b12)
  replace HBI := Lib.hid (HBI.out.next b12)
  replace HHI := Lib.hid (HHI.out.next b12)
  replace HXI := Lib.hid (HXI.out.next b12)
  replace HPI := Lib.hid (HPI.out.next b12)
  clear hb11 hb12 b12 HKT HKR i0 t0 II10 lI10 UU10 lU10 NN lN HTI10 HUI10 HPS10 HIV HII10
  obtain ⟨g0, g1', g2, g3, g4⟩ := id GG
  have t0 := TT.c0
  have HO := Lib.hid ho
  have HG := Lib.hid hg
  have HD1 : Hid (1 ≤ D ∧ D ≤ 4) := Lib.hid (by have := ho.2.1; omega)
  have lG12 : w.heap.size < w12.heap.size := by omega
  have HM12 := Lib.hid (show ∀ W, Below w12.heap.size w12 W → (W.cell? ⟨w.heap.size, 0, none⟩ = some (.int .i64 z) ∧ W.cell? ⟨w.heap.size, 1, none⟩ = some (.int .i64 D) ∧ W.cell? ⟨w.heap.size, 2, none⟩ = some (.int .i64 s) ∧ W.cell? ⟨w.heap.size, 3, none⟩ = some (.int .i64 l) ∧ W.cell? ⟨w.heap.size, 4, none⟩ = some (.int .i64 a)) ∧ W.cell? ⟨w.heap.size + 1, 0, none⟩ = some (.slice x.A N x.c) from fun W h => ⟨⟨kst h lG12 g0, kst h lG12 g1', kst h lG12 g2, kst h lG12 g3, kst h lG12 g4⟩, kst h lT t0⟩)
  have hbZ := Below.refl w12.heap.size w12
  have HRG := Lib.hid (show ∀ W, Calls Try.prog 15 #[.agg #[.int .i64 z, .int .i64 D, .int .i64 s, .int .i64 l, .int .i64 a]] W fun e w' => e = .returned (.bool true) ∧ Below W.heap.size W w' from fun W => gmt.rgeo_at true z D s l a W (iff_of_true rfl ho))
  have HRT := Lib.hid (show ∀ W, Below w12.heap.size w12 W → Calls Try.prog 16 #[.agg #[.int .i64 z, .int .i64 D, .int .i64 s, .int .i64 l, .int .i64 a], .agg #[.slice x.A N x.c]] W fun e w' => e = .returned (.bool true) ∧ Below W.heap.size W w' from fun W hW => by
    have h9 := tbl.rtable_any true z D s l a x W HO.out (HXI.out.next hW) (by rw [HNE.out]; have := HNN.out; omega) (iff_of_true rfl HG.out)
    rw [tbl.TV.v, HNE.out] at h9
    exact h9)
  obtain ⟨a1, ha1⟩ : ∃ a1 : Bool, (a1 = true ↔ AtsOk (D : Int) ats) := by
    by_cases h : AtsOk (D : Int) ats
    · exact ⟨true, iff_of_true rfl h⟩
    · exact ⟨false, iff_of_false Bool.false_ne_true h⟩
  have HAT := Lib.hid (show ∀ W, Below w12.heap.size w12 W → Calls Try.prog 18 #[.slice aA m ac, .int .i64 D] W fun e w' => e = .returned (.bool a1) ∧ Below W.heap.size W w' from fun W hW => ats_c a1 aA m ac ats D W HAM.out (by have := HNN.out; omega) (HAI.out.h.next hW) (by have := HD1.out; omega) ha1)
  have HA1 := Lib.hid ha1
  clear ho hg ha1
  go_upto_region 12 with (first
    | (go_at_call 15; (with_reducible refine (HRG.out _).mono ?_); rintro e w13 ⟨rfl, hb13⟩; replace hbZ := bt hbZ hb13; clear g0 g1' g2 g3 g4 t0; obtain ⟨⟨g0, g1', g2, g3, g4⟩, t0⟩ := HM12.out _ hbZ)
    | (go_at_call 16; (with_reducible refine (HRT.out _ hbZ).mono ?_); rintro e w14 ⟨rfl, hb14⟩; replace hbZ := bt hbZ hb14; clear g0 g1' g2 g3 g4 t0; obtain ⟨⟨g0, g1', g2, g3, g4⟩, t0⟩ := HM12.out _ hbZ)
    | (go_at_call 18; (with_reducible refine (HAT.out _ hbZ).mono ?_); rintro e w15 ⟨rfl, hb15⟩; replace hbZ := bt hbZ hb15; clear g0 g1' g2 g3 g4 t0; obtain ⟨⟨g0, g1', g2, g3, g4⟩, t0⟩ := HM12.out _ hbZ))
  have HBR := Lib.hid (show ∀ b : Bool, (b = true ↔ ∀ h ∈ lists br, h.length = 8) → Calls Try.prog 19 #[.slice bA k bc] w15 fun e w' => e = .returned (.bool b) ∧ Below w15.heap.size w15 w' from fun b hb9 => blocks_c b bA k bc br w15 HBK.out (by have := HNN.out; omega) (HBI.out.next hbZ).h (HBI.out.next hbZ).r hb9)
  go_cut [26] from 300 (fun v wx => (∃ l1 : Bool, v = .bool l1 ∧ (l1 = true ↔ BlkOk m (lists br))) ∧ Below w15.heap.size w15 wx)
  case first =>
    clear HEE HFF HIV12 HUI12 HPS12
    have hbk : (lists br).length = k := by rw [lists_length, HBK.out]
    by_cases hkm : k = m
    case neg =>
      have q1 : ((k : Int) == (m : Int)) = false := beq_eq_false_iff_ne.2 (by omega)
      have HR := Lib.hid (show (false = true ↔ BlkOk m (lists br)) from iff_of_false Bool.false_ne_true fun h => hkm (by rw [← hbk]; exact h.1))
      clear hkm
      go_wp2_with fail
      go_meet
      exact ⟨⟨false, rfl, HR.out⟩, Below.refl _ _⟩
    case pos =>
      have q1 : ((k : Int) == (m : Int)) = true := beq_iff_eq.2 (by omega)
      obtain ⟨b8, hb8⟩ : ∃ b8 : Bool, (b8 = true ↔ ∀ h ∈ lists br, h.length = 8) := ⟨decide (∀ h ∈ lists br, h.length = 8), by simp⟩
      have HBC := Lib.hid (HBR.out b8 hb8)
      have HR := Lib.hid (show (b8 = true ↔ BlkOk m (lists br)) from hb8.trans ⟨fun h => ⟨by omega, h⟩, fun h => h.2⟩)
      clear hkm hb8
      go_wp2_with (go_at_call 19; (with_reducible refine HBC.out.mono ?_); rintro e w16 ⟨rfl, hb16⟩)
      go_meet
      exact ⟨⟨b8, rfl, HR.out⟩, hb16⟩
  case rest =>
    obtain ⟨w16, rfl⟩ : ∃ y, y = wc := ⟨wc, rfl⟩
    obtain ⟨⟨l1, rfl, hl1⟩, hb16⟩ := hcut
    replace hbZ := bt hbZ hb16
    clear g0 g1' g2 g3 g4 t0
    obtain ⟨⟨g0, g1', g2, g3, g4⟩, t0⟩ := HM12.out _ hbZ
    have HL1 := Lib.hid hl1
    clear hl1
    go_upto_block 0 with fail
    go_cut [27] from 300 (fun v wx => v = .int .i64 F ∧ wx = w16)
    case first =>
      have HFW := HFF.out
      clear HEE HFF HIV12 HUI12 HPS12
      rcases HFW with ⟨rfl, hok, -⟩ | ⟨-, hwhy, -⟩
      · obtain ⟨-, ⟨⟨z1, z2⟩, hat⟩, hbl, hp8⟩ := hok
        obtain rfl : a1 = true := HA1.out.2 hat
        obtain rfl : l1 = true := HL1.out.2 (by rw [← HAM.out]; exact hbl)
        have q8 : ((pn : Int) != 8) = false := by rw [show (pn : Int) = 8 by have := HPN.out; omega]; rfl
        have i1 : ¬ zn < 0 := by omega
        have i2 : ¬ z ≤ zn := by omega
        clear z1 z2 hat hbl hp8
        go_wp2_with fail
        go_meet
        exact ⟨rfl, rfl⟩
      · rcases hwhy with ⟨h, -⟩ | ⟨-, hno, rfl⟩ | ⟨-, ⟨⟨z1, z2⟩, hat⟩, hno, rfl⟩
        · exact absurd ⟨HO.out, HG.out⟩ h
        · by_cases i1 : zn < 0
          · clear hno
            go_wp2_with fail
            go_meet
            exact ⟨rfl, rfl⟩
          · by_cases i2 : z ≤ zn
            · clear hno
              go_wp2_with fail
              go_meet
              exact ⟨rfl, rfl⟩
            · obtain rfl : a1 = false := by
                cases a1
                · rfl
                · exact absurd ⟨⟨by omega, by omega⟩, HA1.out.1 rfl⟩ hno
              clear hno
              go_wp2_with fail
              go_meet
              exact ⟨rfl, rfl⟩
        · obtain rfl : a1 = true := HA1.out.2 hat
          have i1 : ¬ zn < 0 := by omega
          have i2 : ¬ z ≤ zn := by omega
          clear z1 z2 hat
          cases l1 with
          | false =>
            clear hno
            go_wp2_with fail
            go_meet
            exact ⟨rfl, rfl⟩
          | true =>
            have q8 : ((pn : Int) != 8) = true := bne_iff_ne.2 (fun h => hno ⟨by rw [HAM.out]; exact HL1.out.1 rfl, by rw [HPN.out]; omega⟩)
            clear hno
            go_wp2_with fail
            go_meet
            exact ⟨rfl, rfl⟩
    case rest =>
      obtain ⟨rfl, rfl⟩ := hcut
      obtain ⟨w17, rfl⟩ : ∃ y, y = wc := ⟨wc, rfl⟩
      go_upto_region 18 with fail
      go_cut [175] from 300 (fun v wx => v = .bool false ∧ Below w17.heap.size w17 wx)
      case first =>
        have HFW := HFF.out
        rcases HFW with ⟨rfl, hok, hds⟩ | ⟨hF, -, rfl⟩
        · obtain ⟨-, -, hbl, hp8⟩ := hok
          have hkm : k = m := by
            have := hbl.1
            rw [lists_length, HBK.out, HAM.out] at this
            exact this
          subst hkm
          have HV := HIV12.out rfl
          have HRI := Lib.hid (show Calls Try.prog 21 #[.int .i64 zn, .agg #[.slice x.A N x.c], .slice pA pn pc, .slice aA k ac, .slice bA k bc] w17 fun e w' => (∃ (A : Option Addr) (cc : Nat) (rs : List ImR), e = .returned (.slice A ds.length cc) ∧ ids rs = ds ∧ IV.In w' w'.heap.size ⟨A, cc, rs⟩ ∧ rs.length = ds.length) ∧ Below w17.heap.size w17 w' from by
            refine (rimages_c zn x N pA pn pc p aA ac ats k bA bc br w17 HNE.out (by have := HNN.out; omega) (HXI.out.next hbZ) HG.out.2.1 HPN.out (by have := HNN.out; omega) (HPI.out.next hbZ) HAM.out (HAI.out.h.next hbZ) (by have := HNN.out; omega) HBK.out (HBI.out.next hbZ) hbl.2).mono ?_
            rintro e w' ⟨⟨v, rs, rfl, hid, hown⟩, hb⟩
            obtain ⟨g, rfl, rfl, hg⟩ := ownI_gv hown
            have hl : g.rs.length = ds.length := by rw [hds, ← hid, ids_length]
            exact ⟨⟨g.A, g.c, g.rs, by rw [IV.v, hl], hid.trans hds.symm, hg.inn, hl⟩, hb⟩)
          have HKI := Lib.hid (show ∀ (A : Option Addr) (cc : Nat) (rs : List ImR) W, Below w17.heap.size w17 W → IV.In W W.heap.size ⟨A, cc, rs⟩ → ids rs = ds → rs.length = ds.length → Calls Try.prog 20 #[.slice lA9 ds.length lc9, .slice A ds.length cc] W fun e w' => e = .returned (.bool true) ∧ Below W.heap.size W w' from fun A cc rs W hW hin hid hl => by
            have hV := HV.next (bt hbZ hW)
            have h9 := imgs_any lA9 A lc9 cc ds.length ds.length lr9 rs W (by rw [← HID.out, ids_length]) hl hV.h hin.h hV.i hin.i (by rw [hds, imgL_length, HAM.out]; have := HNN.out; omega) (imgL_short (HID.out.trans hds) (fun y hy => by rw [hbl.2 y hy]; decide) (by rw [HPN.out]; have := HNN.out; omega) (by rw [tbl.encT_length, HNE.out]; have := HNN.out; omega))
            rw [decide_eq_true (HID.out.trans hid.symm)] at h9
            exact h9)
          clear HEE HFF HIV12 HUI12 HPS12 hbl hp8 hds HV
          go_wp2_with (first
            | (go_at_call 21; (with_reducible refine HRI.out.mono ?_); rintro e w18 ⟨⟨A9, c9, r9, rfl, hi9, hn9, hl9⟩, hb18⟩)
            | (go_at_call 20; (with_reducible refine (HKI.out _ _ _ _ hb18 hn9 hi9 hl9).mono ?_); rintro e w19 ⟨rfl, hb19⟩))
          go_meet
          exact ⟨rfl, bt hb18 hb19⟩
        · have q1 : ((F : Int) == 0) = false := beq_eq_false_iff_ne.2 hF
          have q2 : ((F : Int) != 0) = true := bne_iff_ne.2 hF
          clear HEE HFF HIV12 HUI12 HPS12
          go_wp2_with fail
          go_meet
          exact ⟨rfl, Below.refl _ _⟩
      case rest =>
        obtain ⟨rfl, hb18⟩ := hcut
        obtain ⟨w20, rfl⟩ : ∃ y, y = wc := ⟨wc, rfl⟩
        replace hbZ := bt hbZ hb18
        clear g0 g1' g2 g3 g4 t0 HFF HIV12 HID
        obtain ⟨⟨g0, g1', g2, g3, g4⟩, t0⟩ := HM12.out _ hbZ
        go_upto_region 20 with fail
        go_upto_block 1 with fail
        obtain ⟨c1, hc1⟩ : ∃ c1 : Bool, (c1 = true ↔ HadOk (D + 1) (lists hr)) := by
          by_cases h : HadOk (D + 1) (lists hr)
          · exact ⟨true, iff_of_true rfl h⟩
          · exact ⟨false, iff_of_false Bool.false_ne_true h⟩
        have HHD := Lib.hid (show Calls Try.prog 22 #[.agg #[.int .i64 z, .int .i64 D, .int .i64 s, .int .i64 l, .int .i64 a], .slice hA n hq] w20 fun e w' => e = .returned (.bool c1) ∧ Below w20.heap.size w20 w' from had_c c1 z s l a D hA n hq hr w20 HO.out HHn.out (HHI.out.next hbZ).h (HHI.out.next hbZ).r hc1)
        have HC1 := Lib.hid hc1
        clear hc1
        go_cut [27] from 300 (fun v wx => v = .int .i64 E ∧ Below w20.heap.size w20 wx)
        case first =>
          have HEW := HEE.out
          unfold WrOk WrWhy at HEW
          rw [Int.toNat_natCast] at HEW
          clear HEE HUI12 HPS12
          rcases HEW with ⟨rfl, hok, -⟩ | ⟨-, hwhy, -⟩
          · obtain ⟨-, hh, ⟨hat, hst⟩, hbl⟩ := hok
            obtain rfl : c1 = true := HC1.out.2 hh
            obtain rfl : a1 = true := HA1.out.2 hat
            obtain rfl : l1 = true := HL1.out.2 (by rw [← HAM.out]; exact hbl)
            have hs1 : 0 ≤ st ∧ st ≤ 4294967295 := hst
            have i1 : ¬ st < 0 := by omega
            have i2 : ¬ (4294967295 : Int) < st := by omega
            clear hh hat hst hbl hs1
            go_wp2_with (go_at_call 22; (with_reducible refine HHD.out.mono ?_); rintro e w21 ⟨rfl, hb21⟩)
            go_meet
            exact ⟨rfl, hb21⟩
          · rcases hwhy with ⟨h, -⟩ | ⟨-, hno, rfl⟩ | ⟨-, hh, hno, rfl⟩ | ⟨-, hh, ⟨hat, hst⟩, hno, rfl⟩
            · exact absurd ⟨HO.out, HG.out⟩ h
            · obtain rfl : c1 = false := by
                cases c1
                · rfl
                · exact absurd (HC1.out.1 rfl) hno
              clear hno
              go_wp2_with (go_at_call 22; (with_reducible refine HHD.out.mono ?_); rintro e w21 ⟨rfl, hb21⟩)
              go_meet
              exact ⟨rfl, hb21⟩
            · obtain rfl : c1 = true := HC1.out.2 hh
              clear hh
              cases a1 with
              | false =>
                clear hno
                go_wp2_with (go_at_call 22; (with_reducible refine HHD.out.mono ?_); rintro e w21 ⟨rfl, hb21⟩)
                go_meet
                exact ⟨rfl, hb21⟩
              | true =>
                have hs1 : ¬ (0 ≤ st ∧ st ≤ 4294967295) := fun h => hno ⟨HA1.out.1 rfl, h⟩
                clear hno
                by_cases i1 : st < 0
                · clear hs1
                  go_wp2_with (go_at_call 22; (with_reducible refine HHD.out.mono ?_); rintro e w21 ⟨rfl, hb21⟩)
                  go_meet
                  exact ⟨rfl, hb21⟩
                · have i2 : (4294967295 : Int) < st := by omega
                  clear hs1
                  go_wp2_with (go_at_call 22; (with_reducible refine HHD.out.mono ?_); rintro e w21 ⟨rfl, hb21⟩)
                  go_meet
                  exact ⟨rfl, hb21⟩
            · obtain rfl : c1 = true := HC1.out.2 hh
              obtain rfl : a1 = true := HA1.out.2 hat
              obtain rfl : l1 = false := by
                cases l1
                · rfl
                · exact absurd (by rw [HAM.out]; exact HL1.out.1 rfl) hno
              have hs1 : 0 ≤ st ∧ st ≤ 4294967295 := hst
              have i1 : ¬ st < 0 := by omega
              have i2 : ¬ (4294967295 : Int) < st := by omega
              clear hh hat hst hno hs1
              go_wp2_with (go_at_call 22; (with_reducible refine HHD.out.mono ?_); rintro e w21 ⟨rfl, hb21⟩)
              go_meet
              exact ⟨rfl, hb21⟩
        case rest =>
          obtain ⟨rfl, hb21⟩ := hcut
          obtain ⟨w22, rfl⟩ : ∃ y, y = wc := ⟨wc, rfl⟩
          replace hbZ := bt hbZ hb21
          clear g0 g1' g2 g3 g4 t0
          obtain ⟨⟨g0, g1', g2, g3, g4⟩, t0⟩ := HM12.out _ hbZ
          rcases HEE.out with ⟨rfl, hok, hes, hpp⟩ | ⟨hE, -, rfl, rfl⟩
          case inr =>
            rw [List.length_nil] at UU12
            have q1 : ((E : Int) != 0) = true := bne_iff_ne.2 hE
            have u0 := (UU12.keep hbZ lU12).c0
            have n0 := (NN12.keep hbZ lN12).c0
            have HKN := Lib.hid (show ∀ W, Below w12.heap.size w12 W → Calls Try.prog 13 #[.agg #[.slice u.A 0 u.c], .agg #[.slice none 0 0]] W fun e w' => e = .returned (.bool true) ∧ Below W.heap.size W w' from fun W hW => by
              have h9 := tbl.tab_same u tbl.noTV W (HUI12.out.next hW) (tbl.TV.Own.inn (tbl.noTV_own W W.heap.size)) (by rw [HUE.out]; decide)
              rw [decide_eq_true (by rw [HUE.out]; rfl), tbl.TV.v, tbl.TV.v, HUE.out] at h9
              exact h9)
            have HWK := Lib.hid (show ∀ W, Below w12.heap.size w12 W → Calls Try.prog 17 #[] W fun e w' => e = .returned (.bool true) ∧ Below W.heap.size W w' from fun W hW => wk_stp W (HC.out.next (bt hw hW)))
            clear HEE HPS12 HUI12
            go_wp2_with (first
              | (go_at_call 13; (with_reducible refine (HKN.out _ hbZ).mono ?_); rintro e w23 ⟨rfl, hb23⟩; replace hbZ := bt hbZ hb23)
              | (go_at_call 17; (with_reducible refine (HWK.out _ hbZ).mono ?_); rintro e w24 ⟨rfl, hb24⟩; replace hbZ := bt hbZ hb24))
            go_ret
            exact ⟨rfl, bt hw hbZ⟩
          case inl =>
            obtain ⟨-, hhd, ⟨hat, hst⟩, hbl⟩ := hok
            rw [Int.toNat_natCast] at hhd hes hpp
            have hkm : k = m := by
              have := hbl.1
              rw [lists_length, HBK.out, HAM.out] at this
              exact this
            subst hkm
            have HRW := Lib.hid (rwritten_c z s l a st D x N hA hq hr n aA ac ats k bA bc br w22 HO.out hst HNE.out (HXI.out.next hbZ) HG.out HHn.out (HHI.out.next hbZ) hhd HAM.out (HAI.out.h.next hbZ) (by have := HNN.out; omega) hat.2.2 HBK.out (HBI.out.next hbZ) hbl.2)
            have HES := Lib.hid hes
            have HPP := Lib.hid hpp
            clear HEE hhd hat hst hbl hes hpp
            go_upto_region 30 with (go_at_call 23; (with_reducible refine HRW.out.mono ?_); rintro e w23 ⟨hwq, hb23⟩; obtain ⟨v, Y, yc, rfl, hve, hvo, hyo⟩ := hwq)
            have hx9 := anc.bl w23 (.cells #[.slice v.A (D + 1) v.c] 26)
            have VV := c1_new w23 (.slice v.A (D + 1) v.c) 26
            replace hbZ := bt hbZ (bt hb23 hx9)
            have v0 := VV.c0
            have u0 := (UU12.keep hbZ lU12).c0
            have HVI := Lib.hid ((tbl.TV.Own.inn hvo).next hx9)
            have HVE := Lib.hid hve
            obtain ⟨hy8, -, -, hys⟩ := own_at hyo
            have HY8 := Lib.hid hy8
            have HYS := Lib.hid (hys.next hx9)
            clear hvo hve hyo hy8 hys hb23
            generalize w23.alloc (.cells #[.slice v.A (D + 1) v.c] 26) = w24 at *
            have HKU := Lib.hid (show Calls Try.prog 13 #[.agg #[.slice u.A es.length u.c], .agg #[.slice v.A (D + 1) v.c]] w24 fun e w' => e = .returned (.bool true) ∧ Below w24.heap.size w24 w' from by
              have hl : v.es.length = D + 1 := by rw [HVE.out, newT_length]
              have h9 := tbl.tab_same u v w24 (HUI12.out.next hbZ) HVI.out (by rw [HUE.out, HES.out, newT_length]; have := HD1.out; omega)
              rw [decide_eq_true (HUE.out.trans (HES.out.trans HVE.out.symm)), tbl.TV.v, tbl.TV.v, HUE.out, hl] at h9
              exact h9)
            have HKB := Lib.hid (show ∀ W, Below w24.heap.size w24 W → Calls Try.prog 24 #[.slice X pp.length c, .slice Y 8 yc] W fun e w' => e = .returned (.bool true) ∧ Below W.heap.size W w' from fun W hW => keep_c true X Y pp.length 8 c yc pp _ W rfl HY8.out (by rw [HPP.out, HY8.out]; decide) ((HPS12.out.next hbZ).next hW) (HYS.out.next hW) (iff_of_true rfl HPP.out))
            have HWK := Lib.hid (show ∀ W, Below w24.heap.size w24 W → Calls Try.prog 17 #[] W fun e w' => e = .returned (.bool true) ∧ Below W.heap.size W w' from fun W hW => wk_stp W (HC.out.next (bt hw (bt hbZ hW))))
            clear HUI12 HPS12 HES HPP HRW
            go_wp2_with (first
              | (go_at_call 13; (with_reducible refine HKU.out.mono ?_); rintro e w25 ⟨rfl, hb25⟩)
              | (go_at_call 24; (with_reducible refine (HKB.out _ hb25).mono ?_); rintro e w26 ⟨rfl, hb26⟩; replace hb26 := bt hb25 hb26)
              | (go_at_call 17; (with_reducible refine (HWK.out _ hb26).mono ?_); rintro e w27 ⟨rfl, hb27⟩; replace hb27 := bt hb26 hb27))
            go_ret
            exact ⟨rfl, bt hw (bt hbZ hb27)⟩
end Go.Proofs.Ythdahdopejapmaa.stp
