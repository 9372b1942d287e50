/-
  The law StripeExact, walked up to the document's answers. Conditions: 'Cst'.
-/
import Derived.Test.YthdahdopejapmaaStQ
import Derived.Test.YthdahdopejapmaaDkQ
import Derived.Deep.RegionHeld3
import Derived.Test.YthdahdopejapmaaStLG
namespace Go.Proofs.Ythdahdopejapmaa.stp
open Go.RowKit Go.Lib
open Go.Proofs.Ythdahdopejapmaa.gmt (Ok)
open Go.Proofs.Ythdahdopejapmaa.anc (bl kal kst ks bm ka)
open Go.Proofs.Ythdahdopejapmaa.tbl (Ent EntOk C1 c1_new G5 g5_new OwnE)
open Go.Proofs.Ythdahdopejapmaa.par (zx zeros zeros_length zx_length)
open Go.Proofs.Ythdahdopejapmaa.zon
open Go.Proofs.Ythdahdopejapmaa.img
set_option maxRecDepth 100000 in
set_option maxHeartbeats 16000000 in
theorem ex_bad (z s l a st zn : Int) (d : Int) (x : tbl.TV) (N : Nat) (hA : Option Addr) (hq : Nat) (hr : List Row) (n : Nat) (aA : Option Addr) (ac : Nat) (ats : List Int) (m : Nat) (bA : Option Addr) (bc : Nat) (br : List Row) (k : Nat) (pA : Option Addr) (pn pc : Nat) (p : List UInt8) (w : World) (hc : Cst w) (hN : x.es.length = N) (hx : x.In w w.heap.size) (hn : hr.length = n) (hh : LV.In w w.heap.size ⟨hA, hq, hr⟩) (hm : ats.length = m) (ha : NV.In w w.heap.size ⟨aA, ac, ats⟩) (hk : br.length = k) (hb : LV.In w w.heap.size ⟨bA, bc, br⟩) (hpn : p.length = pn) (hp : Sl w w.heap.size pA p) (hpc : pn ≤ pc ∧ pc ≤ maxLen) (h1 : ¬ (20 < N ∨ 20 < n ∨ ∃ y ∈ lists hr, 100 < y.length)) (h2 : ¬ (20 < N ∨ 20 < k ∨ ∃ y ∈ lists br, 100 < y.length)) (h3 : ¬ (20 < m ∨ 100 < pn)) (hog : ¬ (Ok z d s l a ∧ tbl.Good d x.es)) :
    Calls Try.prog 3 #[.agg #[.int .i64 z, .int .i64 d, .int .i64 s, .int .i64 l, .int .i64 a], .agg #[.slice x.A N x.c], .slice hA n hq, .slice aA m ac, .slice bA k bc, .int .i64 st, .int .i64 zn, .slice pA pn pc] w fun e w' => e = .returned (.bool true) ∧ Below w.heap.size w w' := by
  have s1 : (w.alloc (.cells #[.int .i64 z, .int .i64 d, .int .i64 s, .int .i64 l, .int .i64 a] 23)).heap.size = w.heap.size + 1 := by simp
  have hx2 := anc.bl (w.alloc (.cells #[.int .i64 z, .int .i64 d, .int .i64 s, .int .i64 l, .int .i64 a] 23)) (.cells #[.slice x.A N x.c] 26)
  have GG := (g5_new w z d s l a).keep hx2 (by omega)
  have TT := c1_new (w.alloc (.cells #[.int .i64 z, .int .i64 d, .int .i64 s, .int .i64 l, .int .i64 a] 23)) (.slice x.A N x.c) 26
  rw [s1] at TT
  have hw := kal (anc.bl w (.cells #[.int .i64 z, .int .i64 d, .int .i64 s, .int .i64 l, .int .i64 a] 23)) (.cells #[.slice x.A N x.c] 26)
  have lT : w.heap.size + 1 < ((w.alloc (.cells #[.int .i64 z, .int .i64 d, .int .i64 s, .int .i64 l, .int .i64 a] 23)).alloc (.cells #[.slice x.A N x.c] 26)).heap.size := by simp
  have HC := Lib.hid hc
  have HAI := Lib.hid (ha.next hw)
  have HAM := Lib.hid hm
  have HBI := Lib.hid (hb.next hw)
  have HBK := Lib.hid hk
  have HHI := Lib.hid (hh.next hw)
  have HHn := Lib.hid hn
  have HXI := Lib.hid (hx.next hw)
  have HNE := Lib.hid hN
  have HPI := Lib.hid (hp.next hw)
  have HPN := Lib.hid hpn
  have HPC := Lib.hid hpc
  clear hc hm ha hk hb hn hh hN hx hpn hp hpc s1 hx2
  go_enter Try.func3, Try.ntmps3
  go_upto_region 1 with fail
  generalize ((w.alloc (.cells #[.int .i64 z, .int .i64 d, .int .i64 s, .int .i64 l, .int .i64 a] 23)).alloc (.cells #[.slice x.A N x.c] 26)) = w2 at *
  obtain ⟨g0, g1', g2, g3, g4⟩ := id GG
  have t0 := TT.c0
  have HH1 := Lib.hid (heavy_c false x.A hA N x.c n hq hr w2 HHn.out HHI.out.h HHI.out.r (iff_of_false Bool.false_ne_true h1))
  have HH2 := Lib.hid (show ∀ W, Below w2.heap.size w2 W → Calls Try.prog 8 #[.agg #[.slice x.A N x.c], .slice bA k bc] W fun e w' => e = .returned (.bool false) ∧ Below W.heap.size W w' from fun W hW => heavy_c false x.A bA N x.c k bc br W HBK.out (HBI.out.next hW).h (HBI.out.next hW).r (iff_of_false Bool.false_ne_true h2))
  have h4 : ¬ (20 : Int) < (m : Int) := by omega
  have h5 : ¬ (100 : Int) < (pn : Int) := by omega
  have HNN := Lib.hid (show N ≤ 20 ∧ n ≤ 20 ∧ k ≤ 20 ∧ m ≤ 20 ∧ pn ≤ 100 by omega)
  have HSH := Lib.hid (show ∀ y ∈ lists hr, y.length ≤ 100 from fun y hy => Nat.le_of_not_lt fun k => h1 (.inr (.inr ⟨y, hy, k⟩)))
  clear h1 h2 h3
  have HMG := Lib.hid (show ∀ W, Below w2.heap.size w2 W → (W.cell? ⟨w.heap.size, 0, none⟩ = some (.int .i64 z) ∧ W.cell? ⟨w.heap.size, 1, none⟩ = some (.int .i64 d) ∧ W.cell? ⟨w.heap.size, 2, none⟩ = some (.int .i64 s) ∧ W.cell? ⟨w.heap.size, 3, none⟩ = some (.int .i64 l) ∧ W.cell? ⟨w.heap.size, 4, none⟩ = some (.int .i64 a)) ∧ W.cell? ⟨w.heap.size + 1, 0, none⟩ = some (.slice x.A N x.c) from fun W h => ⟨⟨kst h (by omega) g0, kst h (by omega) g1', kst h (by omega) g2, kst h (by omega) g3, kst h (by omega) g4⟩, kst h lT t0⟩)
  go_upto_region 3 with (first
    | (go_at_call 8; (with_reducible refine HH1.out.mono ?_); rintro e w3 ⟨rfl, hb3⟩; clear g0 g1' g2 g3 g4 t0; obtain ⟨⟨g0, g1', g2, g3, g4⟩, t0⟩ := HMG.out _ hb3)
    | (go_at_call 8; (with_reducible refine (HH2.out _ hb3).mono ?_); rintro e w3' ⟨rfl, hb3'⟩; replace hb3 := bt hb3 hb3'; clear g0 g1' g2 g3 g4 t0; obtain ⟨⟨g0, g1', g2, g3, g4⟩, t0⟩ := HMG.out _ hb3))
  replace GG := GG.keep hb3 (by omega)
  replace TT := TT.keep hb3 lT
  replace lT := Nat.lt_of_lt_of_le lT hb3.size
  replace hw := bt hw hb3
  replace HAI := Lib.hid (HAI.out.next hb3)
  replace HBI := Lib.hid (HBI.out.next hb3)
  replace HHI := Lib.hid (HHI.out.next hb3)
  replace HXI := Lib.hid (HXI.out.next hb3)
  replace HPI := Lib.hid (HPI.out.next hb3)
  clear g0 g1' g2 g3 g4 t0 HMG HH1 HH2 hb3 hb3' h4 h5
  obtain ⟨g0, g1', g2, g3, g4⟩ := id GG
  have t0 := TT.c0
  have HTW1 := Lib.hid (show Calls Try.prog 9 #[.agg #[.slice x.A N x.c]] w3' fun e w' => (∃ t : tbl.TV, e = .returned (.agg #[.slice t.A N t.c]) ∧ t.es = x.es ∧ t.Own w' w3'.heap.size) ∧ Below w3'.heap.size w3' w' from by
    have h9 := tbl.twin_table x N w3' HXI.out HNE.out (by have := HNN.out; omega)
    rw [tbl.TV.v, HNE.out] at h9
    refine h9.mono ?_
    rintro e w' ⟨⟨t, rfl, hte, hto⟩, hb⟩
    exact ⟨⟨t, by rw [tbl.TV.v, hte, HNE.out], hte, hto⟩, hb⟩)
  have HTW2 := Lib.hid (show ∀ W, Below w3'.heap.size w3' W → Calls Try.prog 10 #[.slice hA n hq] W fun e w' => (∃ (A : Option Addr) (c : Nat) (rs : List Row), e = .returned (.slice A n c) ∧ LV.In w' w'.heap.size ⟨A, c, rs⟩ ∧ lists rs = lists hr ∧ rs.length = n) ∧ Below W.heap.size W w' from fun W hW => by
    have hi := HHI.out.next hW
    refine (twins_any hA hq n hr W HHn.out hi.h hi.r (by have := HNN.out; omega) (fun r hr9 => Nat.le_trans (HSH.out r.l (List.mem_map.2 ⟨r, hr9, rfl⟩)) (by decide))).mono ?_
    rintro e w' ⟨⟨v, rs, rfl, ho⟩, hb⟩
    obtain ⟨A, c, hv, hin⟩ := rows_lv ho
    have hl : rs.length = n := by rw [ho.len, lists_length, HHn.out]
    rw [hl] at hv
    subst hv
    exact ⟨⟨A, c, rs, rfl, hin, ho.2.1, hl⟩, hb⟩)
  go_upto_region 4 with (first
    | (go_at_call 9; (with_reducible refine HTW1.out.mono ?_); rintro e w4 ⟨⟨t, rfl, hte, hto⟩, hb4⟩)
    | (go_at_call 10; (with_reducible refine (HTW2.out _ hb4).mono ?_); rintro e w5 ⟨⟨iA, ic, ir, rfl, hii, hil, hin⟩, hb5⟩))
  have hb35 := bt hb4 hb5
  have hxI := anc.bl w5 (.cells #[.slice t.A N t.c] 26)
  have II := c1_new w5 (.slice t.A N t.c) 26
  have lI : w5.heap.size < (w5.alloc (.cells #[.slice t.A N t.c] 26)).heap.size := by simp
  have hb36 := bt hb35 hxI
  have HTE := Lib.hid hte
  have HTI := Lib.hid ((tbl.TV.Own.inn hto).next (bt hb5 hxI))
  have HII := Lib.hid (hii.next hxI)
  have HIL := Lib.hid hil
  have HIN := Lib.hid hin
  replace GG := GG.keep hb36 (by omega)
  replace TT := TT.keep hb36 lT
  replace lT := Nat.lt_of_lt_of_le lT hb36.size
  replace hw := bt hw hb36
  replace HAI := Lib.hid (HAI.out.next hb36)
  replace HBI := Lib.hid (HBI.out.next hb36)
  replace HHI := Lib.hid (HHI.out.next hb36)
  replace HXI := Lib.hid (HXI.out.next hb36)
  replace HPI := Lib.hid (HPI.out.next hb36)
  clear hb36 hb35 hxI hb4 hb5 hte hto hii hil hin HTW1 HTW2 g0 g1' g2 g3 g4 t0
  generalize hgI : w5.heap.size = gI at *
  clear hgI
  generalize w5.alloc (.cells #[.slice t.A N t.c] 26) = w6 at *
  obtain ⟨E, es, pp, hWR, hE⟩ := write_ex z d s l a st t N ⟨iA, ic, ir⟩ n ⟨aA, ac, ats⟩ m ⟨bA, bc, br⟩ k w6 (HC.out.next hw) HTI.out (by rw [HTE.out]; exact HNE.out) (by have := HNN.out; omega) HII.out HIN.out (by have := HNN.out; omega) HAI.out HAM.out (by have := HNN.out; omega) HBI.out HBK.out (by have := HNN.out; omega)
  rw [HTE.out] at hE
  change (E = 0 ∧ WrOk z d s l a x.es (lists ir) ats (lists br) st ∧ es = newT d.toNat x.es (lists ir) ats (lists br) st ∧ pp = newP d.toNat x.es (lists ir) ats (lists br) st d.toNat) ∨ (E ≠ 0 ∧ WrWhy z d s l a x.es (lists ir) ats (lists br) st E ∧ es = [] ∧ pp = []) at hE
  rw [HIL.out] at hE
  obtain ⟨F, ds, hIM, hF⟩ := images_ex z d s l a zn t N pA pn pc p ⟨aA, ac, ats⟩ m ⟨bA, bc, br⟩ k w6 (HC.out.next hw) HTI.out (by rw [HTE.out]; exact HNE.out) (by have := HNN.out; omega) HPI.out HPN.out HPC.out HAI.out HAM.out (by have := HNN.out; omega) HBI.out HBK.out (by have := HNN.out; omega)
  rw [HTE.out] at hF
  change (F = 0 ∧ ImOk z d s l a x.es ats (lists br) p zn ∧ ds = imgL zn x.es p ats (lists br)) ∨ (F ≠ 0 ∧ ImWhy z d s l a x.es ats (lists br) p zn F ∧ ds = []) at hF
  have HWR := Lib.hid hWR
  have HIM := Lib.hid hIM
  have HEE := Lib.hid hE
  have HFF := Lib.hid hF
  clear hWR hIM hE hF
  obtain ⟨g0, g1', g2, g3, g4⟩ := id GG
  have i0 := II.c0
  go_upto_region 5 with (go_at_call 11; (with_reducible refine (HWR.out _ (Below.refl _ _)).mono ?_); rintro e w7 ⟨⟨u, X, c, rfl, hue, hui, hps, hc1, hc2⟩, hb7⟩)
  have hxU := anc.bl w7 (.cells #[.slice u.A es.length u.c] 26)
  have UU := c1_new w7 (.slice u.A es.length u.c) 26
  have lU : w7.heap.size < (w7.alloc (.cells #[.slice u.A es.length u.c] 26)).heap.size := by simp
  have b8 := bt hb7 hxU
  have HUE := Lib.hid hue
  have HUI := Lib.hid (hui.next hxU)
  have HPS := Lib.hid (hps.next hxU)
  have HPC2 := Lib.hid (show pp.length ≤ c ∧ c ≤ maxLen from ⟨hc1, hc2⟩)
  have II8 := II.keep b8 lI
  have lI8 := Nat.lt_of_lt_of_le lI b8.size
  have HTI8 := Lib.hid (HTI.out.next b8)
  have HII8 := Lib.hid (HII.out.next b8)
  replace GG := GG.keep b8 (by omega)
  replace TT := TT.keep b8 lT
  replace lT := Nat.lt_of_lt_of_le lT b8.size
  replace hw := bt hw b8
  replace HAI := Lib.hid (HAI.out.next b8)
  replace HBI := Lib.hid (HBI.out.next b8)
  replace HHI := Lib.hid (HHI.out.next b8)
  replace HXI := Lib.hid (HXI.out.next b8)
  replace HPI := Lib.hid (HPI.out.next b8)
  clear hxU hue hui hps hc1 hc2 hb7 HWR g0 g1' g2 g3 g4 i0 II lI HTI HII
  generalize hgU : w7.heap.size = gU at *
  clear hgU
  have HB68 := Lib.hid b8
  clear b8
  generalize w7.alloc (.cells #[.slice u.A es.length u.c] 26) = w8 at *
  obtain ⟨g0, g1', g2, g3, g4⟩ := id GG
  have i0 := II8.c0
  go_upto_region 7 with (go_at_call 12; (with_reducible refine (HIM.out _ HB68.out).mono ?_); rintro e w9 ⟨⟨lA9, lc9, lr9, rfl, hid, hii⟩, hb9⟩)
  have HID := Lib.hid hid
  have hxN := anc.bl w9 (.cells #[.slice none 0 0] 26)
  have NN := c1_new w9 (.slice none 0 0) 26
  have lN : w9.heap.size < (w9.alloc (.cells #[.slice none 0 0] 26)).heap.size := by simp
  have b10 := bt hb9 hxN
  have HIV := Lib.hid (show F = 0 → IV.In (w9.alloc (.cells #[.slice none 0 0] 26)) (w9.alloc (.cells #[.slice none 0 0] 26)).heap.size ⟨lA9, lc9, lr9⟩ from fun h => (hii h).next hxN)
  have II10 := II8.keep b10 lI8
  have lI10 := Nat.lt_of_lt_of_le lI8 b10.size
  have UU10 := UU.keep b10 lU
  have lU10 := Nat.lt_of_lt_of_le lU b10.size
  have HTI10 := Lib.hid (HTI8.out.next b10)
  have HII10 := Lib.hid (HII8.out.next b10)
  have HUI10 := Lib.hid (HUI.out.next b10)
  have HPS10 := Lib.hid (HPS.out.next b10)
  replace GG := GG.keep b10 (by omega)
  replace TT := TT.keep b10 lT
  replace lT := Nat.lt_of_lt_of_le lT b10.size
  replace hw := bt hw b10
  replace HAI := Lib.hid (HAI.out.next b10)
  replace HBI := Lib.hid (HBI.out.next b10)
  replace HHI := Lib.hid (HHI.out.next b10)
  replace HXI := Lib.hid (HXI.out.next b10)
  replace HPI := Lib.hid (HPI.out.next b10)
  clear hxN hid hii hb9 HIM g0 g1' g2 g3 g4 i0 II8 lI8 UU lU HTI8 HII8 HUI HPS b10 HB68
  generalize hgN : w9.heap.size = gN at *
  clear hgN
  generalize w9.alloc (.cells #[.slice none 0 0] 26) = w10 at *
  have HKT := Lib.hid (show Calls Try.prog 13 #[.agg #[.slice t.A N t.c], .agg #[.slice x.A N x.c]] w10 fun e w' => e = .returned (.bool true) ∧ Below w10.heap.size w10 w' from by
    have h9 := tbl.tab_same t x w10 HTI10.out HXI.out (by rw [HTE.out, HNE.out]; have := HNN.out; omega)
    rw [decide_eq_true HTE.out, tbl.TV.v, tbl.TV.v, HTE.out, HNE.out] at h9
    exact h9)
  have HKR := Lib.hid (show ∀ W, Below w10.heap.size w10 W → Calls Try.prog 14 #[.slice iA n ic, .slice hA n hq] W fun e w' => e = .returned (.bool true) ∧ Below W.heap.size W w' from fun W hW => by
    have h9 := rows_any iA hA ic hq n n ir hr W HIN.out HHn.out (HII10.out.next hW).h (HHI.out.next hW).h (HII10.out.next hW).r (HHI.out.next hW).r (by have := HNN.out; omega) (fun r hr9 => by
      have h8 : r.l ∈ lists ir := List.mem_map.2 ⟨r, hr9, rfl⟩
      rw [HIL.out] at h8
      exact Nat.le_trans (HSH.out _ h8) (by decide))
    rw [decide_eq_true HIL.out] at h9
    exact h9)
  have i0 := II10.c0
  have t0 := TT.c0
  go_upto_region 9 with (first
    | (go_at_call 13; (with_reducible refine HKT.out.mono ?_); rintro e w11 ⟨rfl, hb11⟩)
    | (go_at_call 14; (with_reducible refine (HKR.out _ hb11).mono ?_); rintro e w12 ⟨rfl, hb12⟩))
  have b12 := bt hb11 hb12
  have UU12 := UU10.keep b12 lU10
  have NN12 := NN.keep b12 lN
  have lU12 := Nat.lt_of_lt_of_le lU10 b12.size
  have lN12 := Nat.lt_of_lt_of_le lN b12.size
  have HUI12 := Lib.hid (HUI10.out.next b12)
  have HPS12 := Lib.hid (HPS10.out.next b12)
  have HIV12 := Lib.hid (show F = 0 → IV.In w12 w12.heap.size ⟨lA9, lc9, lr9⟩ from fun h => (HIV.out h).next b12)
  replace GG := GG.keep b12 (by omega)
  replace TT := TT.keep b12 lT
  replace lT := Nat.lt_of_lt_of_le lT b12.size
  replace hw := bt hw b12
  replace HAI := Lib.hid (HAI.out.next b12)
  replace HBI := Lib.hid (HBI.out.next b12)
  replace HHI := Lib.hid (HHI.out.next b12)
  replace HXI := Lib.hid (HXI.out.next b12)
  replace HPI := Lib.hid (HPI.out.next b12)
  clear hb11 hb12 b12 HKT HKR i0 t0 II10 lI10 UU10 lU10 NN lN HTI10 HUI10 HPS10 HIV HII10
  obtain ⟨g0, g1', g2, g3, g4⟩ := id GG
  have t0 := TT.c0
  have hEF : E = 1 ∧ es = [] ∧ pp = [] ∧ F = 1 ∧ ds = [] := by
    have h1 : E = 1 ∧ es = [] ∧ pp = [] := by
      rcases HEE.out with ⟨-, hk9, -⟩ | ⟨-, hw9, h2, h3⟩
      · exact absurd hk9.1 hog
      · refine ⟨?_, h2, h3⟩
        rcases hw9 with ⟨-, h⟩ | ⟨h, -⟩ | ⟨h, -⟩ | ⟨h, -⟩
        · exact h
        all_goals exact absurd h hog
    have h2 : F = 1 ∧ ds = [] := by
      rcases HFF.out with ⟨-, hk9, -⟩ | ⟨-, hw9, h2⟩
      · exact absurd hk9.1 hog
      · refine ⟨?_, h2⟩
        rcases hw9 with ⟨-, h⟩ | ⟨h, -⟩ | ⟨h, -⟩
        · exact h
        all_goals exact absurd h hog
    exact ⟨h1.1, h1.2.1, h1.2.2, h2.1, h2.2⟩
  obtain ⟨rfl, rfl, rfl, rfl, rfl⟩ := hEF
  rw [List.length_nil] at UU12
  clear HEE HFF HIV12 HPS12
  have u0 := UU12.c0
  have n0 := NN12.c0
  have HKN := Lib.hid (show ∀ W, Below w12.heap.size w12 W → Calls Try.prog 13 #[.agg #[.slice u.A 0 u.c], .agg #[.slice none 0 0]] W fun e w' => e = .returned (.bool true) ∧ Below W.heap.size W w' from fun W hW => by
    have h9 := tbl.tab_same u tbl.noTV W (HUI12.out.next hW) (tbl.TV.Own.inn (tbl.noTV_own W W.heap.size)) (by rw [HUE.out]; decide)
    rw [decide_eq_true (by rw [HUE.out]; rfl), tbl.TV.v, tbl.TV.v, HUE.out] at h9
    exact h9)
  have HWK := Lib.hid (show ∀ W, Below w12.heap.size w12 W → Calls Try.prog 17 #[] W fun e w' => e = .returned (.bool true) ∧ Below W.heap.size W w' from fun W hW => wk_stp W (HC.out.next (bt hw hW)))
  have lG12 : w.heap.size < w12.heap.size := by omega
  have HM12 := Lib.hid (show ∀ W, Below w12.heap.size w12 W → ((W.cell? ⟨w.heap.size, 0, none⟩ = some (.int .i64 z) ∧ W.cell? ⟨w.heap.size, 1, none⟩ = some (.int .i64 d) ∧ W.cell? ⟨w.heap.size, 2, none⟩ = some (.int .i64 s) ∧ W.cell? ⟨w.heap.size, 3, none⟩ = some (.int .i64 l) ∧ W.cell? ⟨w.heap.size, 4, none⟩ = some (.int .i64 a)) ∧ W.cell? ⟨w.heap.size + 1, 0, none⟩ = some (.slice x.A N x.c)) ∧ W.cell? ⟨gU, 0, none⟩ = some (.slice u.A 0 u.c) ∧ W.cell? ⟨gN, 0, none⟩ = some (.slice none 0 0) from fun W h => ⟨⟨⟨kst h lG12 g0, kst h lG12 g1', kst h lG12 g2, kst h lG12 g3, kst h lG12 g4⟩, kst h lT t0⟩, kst h lU12 u0, kst h lN12 n0⟩)
  have hbZ := Below.refl w12.heap.size w12
  by_cases ho : Ok z d s l a
  · have hg : ¬ tbl.Good d x.es := fun h => hog ⟨ho, h⟩
    have HRG := Lib.hid (show ∀ W, Calls Try.prog 15 #[.agg #[.int .i64 z, .int .i64 d, .int .i64 s, .int .i64 l, .int .i64 a]] W fun e w' => e = .returned (.bool true) ∧ Below W.heap.size W w' from fun W => gmt.rgeo_at true z d s l a W (iff_of_true rfl ho))
    have HRT := Lib.hid (show ∀ W, Below w12.heap.size w12 W → Calls Try.prog 16 #[.agg #[.int .i64 z, .int .i64 d, .int .i64 s, .int .i64 l, .int .i64 a], .agg #[.slice x.A N x.c]] W fun e w' => e = .returned (.bool false) ∧ Below W.heap.size W w' from fun W hW => by
      have h9 := tbl.rtable_any false z d s l a x W ho (HXI.out.next hW) (by rw [HNE.out]; have := HNN.out; omega) (iff_of_false Bool.false_ne_true hg)
      rw [tbl.TV.v, HNE.out] at h9
      exact h9)
    clear hog ho hg
    go_wp2_with (first
      | (go_at_call 15; (with_reducible refine (HRG.out _).mono ?_); rintro e w13 ⟨rfl, hb13⟩; replace hbZ := bt hbZ hb13; clear g0 g1' g2 g3 g4 t0 u0 n0; obtain ⟨⟨⟨g0, g1', g2, g3, g4⟩, t0⟩, u0, n0⟩ := HM12.out _ hbZ)
      | (go_at_call 16; (with_reducible refine (HRT.out _ hbZ).mono ?_); rintro e w14 ⟨rfl, hb14⟩; replace hbZ := bt hbZ hb14; clear g0 g1' g2 g3 g4 t0 u0 n0; obtain ⟨⟨⟨g0, g1', g2, g3, g4⟩, t0⟩, u0, n0⟩ := HM12.out _ hbZ)
      | (go_at_call 13; (with_reducible refine (HKN.out _ hbZ).mono ?_); rintro e w15 ⟨rfl, hb15⟩; replace hbZ := bt hbZ hb15)
      | (go_at_call 17; (with_reducible refine (HWK.out _ hbZ).mono ?_); rintro e w16 ⟨rfl, hb16⟩; replace hbZ := bt hbZ hb16))
    go_ret
    exact ⟨rfl, bt hw hbZ⟩
  · have HRG := Lib.hid (show ∀ W, Calls Try.prog 15 #[.agg #[.int .i64 z, .int .i64 d, .int .i64 s, .int .i64 l, .int .i64 a]] W fun e w' => e = .returned (.bool false) ∧ Below W.heap.size W w' from fun W => gmt.rgeo_at false z d s l a W (iff_of_false Bool.false_ne_true ho))
    clear hog ho
    go_wp2_with (first
      | (go_at_call 15; (with_reducible refine (HRG.out _).mono ?_); rintro e w13 ⟨rfl, hb13⟩; replace hbZ := bt hbZ hb13; clear g0 g1' g2 g3 g4 t0 u0 n0; obtain ⟨⟨⟨g0, g1', g2, g3, g4⟩, t0⟩, u0, n0⟩ := HM12.out _ hbZ)
      | (go_at_call 13; (with_reducible refine (HKN.out _ hbZ).mono ?_); rintro e w15 ⟨rfl, hb15⟩; replace hbZ := bt hbZ hb15)
      | (go_at_call 17; (with_reducible refine (HWK.out _ hbZ).mono ?_); rintro e w16 ⟨rfl, hb16⟩; replace hbZ := bt hbZ hb16))
    go_ret
    exact ⟨rfl, bt hw hbZ⟩
end Go.Proofs.Ythdahdopejapmaa.stp
