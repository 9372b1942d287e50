/-
  The law StripeTwice, walked. Conditions: 'Cst'.
-/
import Derived.Test.YthdahdopejapmaaStQ
import Derived.Test.YthdahdopejapmaaDkQ
import Derived.Deep.RegionHeld3
import Derived.Test.YthdahdopejapmaaStT
import Derived.Deep.QuietTactic
import Derived.BigQuiet
import Derived.Deep.CutRange
import Derived.Deep.CutBlock
import Derived.IntWalk
namespace Go.Proofs.Ythdahdopejapmaa.stp
open Go.RowKit Go.Lib
open Go.Proofs.Ythdahdopejapmaa.gmt (Ok)
open Go.Proofs.Ythdahdopejapmaa.anc (bl kal kst ks bm ka)
open Go.Proofs.Ythdahdopejapmaa.tbl (Ent EntOk C1 c1_new G5 g5_new OwnE)
open Go.Proofs.Ythdahdopejapmaa.par (zx zeros zeros_length zx_length)
open Go.Proofs.Ythdahdopejapmaa.zon
open Go.Proofs.Ythdahdopejapmaa.img
set_option maxRecDepth 100000 in
set_option maxHeartbeats 16000000 in
theorem tw_law (zo da st : Int) (bA : Option Addr) (bc : Nat) (br : List Row) (n : Nat) (aA : Option Addr) (ac : Nat) (ats : List Int) (m : Nat) (yA : Option Addr) (yc : Nat) (yr : List Row) (k : Nat) (w : World) (hc : Cst w) (hn : br.length = n) (hb : LV.In w w.heap.size ⟨bA, bc, br⟩) (hm : ats.length = m) (ha : NV.In w w.heap.size ⟨aA, ac, ats⟩) (hk : yr.length = k) (hy : LV.In w w.heap.size ⟨yA, yc, yr⟩) :
    Calls Try.prog 6 #[.int .i64 zo, .int .i64 da, .slice bA n bc, .slice aA m ac, .slice yA k yc, .int .i64 st] w fun e w' => e = .returned (.bool true) ∧ Below w.heap.size w w' := by
  have HC := Lib.hid hc
  have HN := Lib.hid hn
  have HB := Lib.hid hb
  have HM := Lib.hid hm
  have HA := Lib.hid ha
  have HK := Lib.hid hk
  have HY := Lib.hid hy
  clear hc hn hb hm ha hk hy
  have HSO := Lib.hid (gmt.some_any zo da 1 0 0 w)
  have hs := gmt.wrap_mod st 100000 (by omega)
  generalize hS0 : (IntKind.u64.wrap st).tmod 100000 = s0 at *
  go_enter Try.func6, Try.ntmps6
  go_upto_region 2 with (go_at_call 25; (with_reducible refine HSO.out.mono ?_); rintro e w1 ⟨⟨z, d0, s, l, a, ho, rfl⟩, hb1⟩)
  obtain ⟨D, rfl⟩ : ∃ D : Nat, d0 = D := ⟨d0.toNat, by have := ho.2.1; omega⟩
  have hxG := anc.bl w1 (.cells #[.int .i64 z, .int .i64 D, .int .i64 s, .int .i64 l, .int .i64 a] 23)
  have GG := g5_new w1 z D s l a
  have l1 : w1.heap.size < (w1.alloc (.cells #[.int .i64 z, .int .i64 D, .int .i64 s, .int .i64 l, .int .i64 a] 23)).heap.size := by simp
  have hx := bt hb1 hxG
  have HO := Lib.hid ho
  have hD := ho.2.1
  have HD1 : Hid (1 ≤ D ∧ D ≤ 4) := Lib.hid (by omega)
  have lg1 := hb1.size
  clear hb1 hxG ho hD HSO
  generalize hg1 : w1.heap.size = g1 at *
  clear hg1
  generalize w1.alloc (.cells #[.int .i64 z, .int .i64 D, .int .i64 s, .int .i64 l, .int .i64 a] 23) = w3 at *
  obtain ⟨g0, g1', g2, g3, g4⟩ := id GG
  by_cases h1 : 10 < n
  · have i1 : (10 : Int) < (n : Int) := by omega
    clear h1 hS0 hs
    go_wp2_with fail
    go_ret
    exact ⟨rfl, hx⟩
  have i1 : ¬ (10 : Int) < (n : Int) := by omega
  by_cases h2 : 10 < k
  · have i2 : (10 : Int) < (k : Int) := by omega
    clear h1 h2 hS0 hs
    go_wp2_with fail
    go_ret
    exact ⟨rfl, hx⟩
  have i2 : ¬ (10 : Int) < (k : Int) := by omega
  have hm9 : m ≤ 9223372036854775807 := by have := HA.out.k; rw [show (NV.mk aA ac ats).l.length = m from HM.out] at this; have h2 := this.2; unfold maxLen at h2; have h3 := this.1; omega
  by_cases hat : AtsOk (D : Int) ats
  case neg =>
    have HAT := Lib.hid (ats_c false aA m ac ats D w3 HM.out hm9 (HA.out.h.next hx) (by have := HD1.out; omega) (iff_of_false Bool.false_ne_true hat))
    clear h1 h2 hm9 hat hS0 hs
    go_wp2_with (go_at_call 18; (with_reducible refine HAT.out.mono ?_); rintro e w4 ⟨rfl, hb4⟩)
    go_ret
    exact ⟨rfl, bt hx hb4⟩
  have HAT := Lib.hid (ats_c true aA m ac ats D w3 HM.out hm9 (HA.out.h.next hx) (by have := HD1.out; omega) (iff_of_true rfl hat))
  have HATS := Lib.hid hat
  by_cases hkm : k = m
  case neg =>
    have q1 : ((k : Int) != (m : Int)) = true := bne_iff_ne.2 (by omega)
    clear h1 h2 hm9 hat hkm hS0 hs
    go_wp2_with (go_at_call 18; (with_reducible refine HAT.out.mono ?_); rintro e w4 ⟨rfl, hb4⟩)
    go_ret
    exact ⟨rfl, bt hx hb4⟩
  subst hkm
  have q1 : ((k : Int) != (k : Int)) = false := bne_self_eq_false _
  by_cases h8 : ∀ y ∈ lists yr, y.length = 8
  case neg =>
    have HBR := Lib.hid (show ∀ W, Below w3.heap.size w3 W → Calls Try.prog 19 #[.slice yA k yc] W fun e w' => e = .returned (.bool false) ∧ Below W.heap.size W w' from fun W hW => blocks_c false yA k yc yr W HK.out (by omega) ((HY.out.next hx).next hW).h ((HY.out.next hx).next hW).r (iff_of_false Bool.false_ne_true h8))
    clear h1 h2 hm9 hat h8 hS0 hs
    go_wp2_with (first
      | (go_at_call 18; (with_reducible refine HAT.out.mono ?_); rintro e w4 ⟨rfl, hb4⟩)
      | (go_at_call 19; (with_reducible refine (HBR.out _ hb4).mono ?_); rintro e w5 ⟨rfl, hb5⟩))
    go_ret
    exact ⟨rfl, bt hx (bt hb4 hb5)⟩
  have HBR := Lib.hid (show ∀ W, Below w3.heap.size w3 W → Calls Try.prog 19 #[.slice yA k yc] W fun e w' => e = .returned (.bool true) ∧ Below W.heap.size W w' from fun W hW => blocks_c true yA k yc yr W HK.out (by omega) ((HY.out.next hx).next hW).h ((HY.out.next hx).next hW).r (iff_of_true rfl h8))
  have H8 := Lib.hid h8
  have HN10 := Lib.hid (show n ≤ 10 ∧ k ≤ 10 by omega)
  clear h1 h2 hm9 hat h8
  go_upto_region 4 with (first
    | (go_at_call 18; (with_reducible refine HAT.out.mono ?_); rintro e w4 ⟨rfl, hb4⟩)
    | (go_at_call 19; (with_reducible refine (HBR.out _ hb4).mono ?_); rintro e w5 ⟨rfl, hb5⟩))
  have hb35 := bt hb4 hb5
  replace GG := GG.keep hb35 l1
  replace l1 := Nat.lt_of_lt_of_le l1 hb35.size
  replace hx := bt hx hb35
  clear hb35 hb4 hb5 HAT HBR g0 g1' g2 g3 g4 q1 i1 i2
  obtain ⟨g0, g1', g2, g3, g4⟩ := id GG
  have HFU := Lib.hid (show ∀ W, Below w5.heap.size w5 W → Calls Try.prog 26 #[.agg #[.int .i64 z, .int .i64 D, .int .i64 s, .int .i64 l, .int .i64 a], .slice bA n bc, .slice none 0 0, .int .i64 0] W fun e w' => FullZ W.heap.size D 0 (lists br) [] e w' ∧ Below W.heap.size W w' from fun W hW => full_z z s l a 0 D bA none n bc 0 0 br [] W HO.out HN.out rfl (by have := HN10.out; omega) ((HB.out.next hx).next hW).h ((HB.out.next hx).next hW).r (SlV.nil _ _ _))
  go_upto_region 5 with fail
  clear hS0
  have HS := Lib.hid (show 0 ≤ s0 ∧ s0 ≤ 99999 by omega)
  have hs1 : 0 ≤ 1 + s0 ∧ 1 + s0 ≤ 100000 := by omega
  generalize 1 + s0 = S at *
  clear hs HS
  go_upto_region 6 with (go_at_call 26; (with_reducible refine (HFU.out _ (Below.refl _ _)).mono ?_); rintro e w6 ⟨⟨t, gh, hc, rows, rfl, hte, hto, hor, hgh1, hgh2, hcap⟩, hb6⟩; have HTE := Lib.hid hte; clear hte)
  have hxT := anc.bl w6 (.cells #[.slice t.A (D + 1 : Nat) t.c] 26)
  have TT := c1_new w6 (.slice t.A (D + 1 : Nat) t.c) 26
  have lT : w6.heap.size < (w6.alloc (.cells #[.slice t.A (D + 1 : Nat) t.c] 26)).heap.size := by simp
  have b6 := bt hb6 hxT
  have HTO := Lib.hid (tbl.TV.Own.below hto hxT)
  have HOR := Lib.hid (hor.below hxT)
  have hghs := Nat.lt_trans hgh2 lT
  replace GG := GG.keep b6 l1
  replace l1 := Nat.lt_of_lt_of_le l1 b6.size
  replace hx := bt hx b6
  clear b6 hb6 hxT hto hor HFU hgh1 hgh2 g0 g1' g2 g3 g4
  generalize hgT : w6.heap.size = gT at *
  clear hgT
  generalize w6.alloc (.cells #[.slice t.A (D + 1 : Nat) t.c] 26) = w7 at *
  obtain ⟨g0, g1', g2, g3, g4⟩ := id GG
  have t0 := TT.c0
  have HW1 := Lib.hid (whole_full 0 (lists br) D)
  have HRL := Lib.hid (show rows.length = D + 1 from HOR.out.len.trans (fullH_length _ _ _))
  have HLR := Lib.hid (show lists rows = fullH (lists br) [] D from HOR.out.2.1)
  have HWR := Lib.hid (show ∀ W, Below w7.heap.size w7 W → Calls Try.prog 11 #[.agg #[.int .i64 z, .int .i64 D, .int .i64 s, .int .i64 l, .int .i64 a], .agg #[.slice t.A (D + 1 : Nat) t.c], .slice (some ⟨gh, 0, none⟩) (D + 1 : Nat) hc, .slice aA k ac, .slice yA k yc, .int .i64 S] W fun e w' => WrZ W.heap.size D (newT D (fullE 0 (lists br) [] D) (fullH (lists br) [] D) ats (lists yr) S) (newP D (fullE 0 (lists br) [] D) (fullH (lists br) [] D) ats (lists yr) S D) e w' ∧ Below W.heap.size W w' from fun W hW => by
    have h9 := HC.out.write z s l a S D t (D + 1) ⟨some ⟨gh, 0, none⟩, hc, rows⟩ (D + 1) ⟨aA, ac, ats⟩ k ⟨yA, yc, yr⟩ W (bt hx hW) HO.out ((tbl.TV.Own.inn HTO.out).next hW) (by rw [HTE.out, fullE_length]) (by rw [HTE.out]; exact full_good 0 (lists br) [] D (by decide)) ((rows_in HOR.out).next hW) HRL.out (by show HadOk _ (lists rows); rw [HLR.out]; exact full_had _ _ _) ((HA.out.next hx).next hW) HM.out (by have := HN10.out; omega) HATS.out ⟨by omega, by omega⟩ ((HY.out.next hx).next hW) HK.out H8.out
    rw [HTE.out] at h9
    change Calls _ _ _ _ (fun e w' => WrZ _ _ (newT _ _ (lists rows) _ _ _) (newP _ _ (lists rows) _ _ _ _) e w' ∧ _) at h9
    rw [HLR.out] at h9
    exact h9)
  go_upto_region 7 with (go_at_call 11; (with_reducible refine (HWR.out _ (Below.refl _ _)).mono ?_); rintro e w8 ⟨⟨u, X, c, rfl, hue, huo, hpo⟩, hb8⟩)
  have HUE := Lib.hid hue
  have hxU := anc.bl w8 (.cells #[.slice u.A (D + 1 : Nat) u.c] 26)
  have UU := c1_new w8 (.slice u.A (D + 1 : Nat) u.c) 26
  have lU : w8.heap.size < (w8.alloc (.cells #[.slice u.A (D + 1 : Nat) u.c] 26)).heap.size := by simp
  have b9 := bt hb8 hxU
  replace GG := GG.keep b9 l1
  replace TT := TT.keep b9 lT
  have HUI := Lib.hid ((tbl.TV.Own.inn huo).next hxU)
  have HPS := Lib.hid ((own_at hpo).2.2.2.next hxU)
  have HTO9 := Lib.hid (tbl.TV.Own.below HTO.out b9)
  have HOR9 := Lib.hid (HOR.out.below b9)
  replace l1 := Nat.lt_of_lt_of_le l1 b9.size
  replace lT := Nat.lt_of_lt_of_le lT b9.size
  replace hx := bt hx b9
  replace hghs := Nat.lt_of_lt_of_le hghs b9.size
  clear b9 hb8 hxU huo hpo hue HTO HOR g0 g1' g2 g3 g4 t0 HWR
  generalize hgU : w8.heap.size = gU at *
  clear hgU
  generalize w8.alloc (.cells #[.slice u.A (D + 1 : Nat) u.c] 26) = w9 at *
  have t0 := TT.c0
  have HTW := Lib.hid (show ∀ W, Below w9.heap.size w9 W → Calls Try.prog 10 #[.slice (some ⟨gh, 0, none⟩) (D + 1 : Nat) hc] W fun e w' => (∃ (gq qc : Nat) (rs : List Row), e = .returned (.slice (some ⟨gq, 0, none⟩) (D + 1 : Nat) qc) ∧ OwnRows w' W.heap.size (.slice (some ⟨gq, 0, none⟩) (D + 1 : Nat) qc) rs (fullH (lists br) [] D) ∧ W.heap.size ≤ gq ∧ gq < w'.heap.size) ∧ Below W.heap.size W w' from fun W hW => by
    have hi := (rows_in HOR9.out).next hW
    refine (twins_any _ hc (D + 1) rows W HRL.out hi.h hi.r (by have := HD1.out; omega) (fun r hr => by have h9 : r.l ∈ lists rows := List.mem_map.2 ⟨r, hr, rfl⟩; rw [HLR.out] at h9; exact (full_had (lists br) [] D).2 _ h9 |>.elim (fun h => by rw [h]; exact Nat.zero_le _) (fun h => by omega))).mono ?_
    rintro e w' ⟨⟨v, rs, rfl, ho⟩, hb⟩
    rw [HLR.out] at ho
    obtain ⟨g, gc, hv, h1, h2, h3, h4⟩ := ho.at (fullH_length _ _ _) (by omega)
    subst hv
    exact ⟨⟨g, gc, rs, rfl, ho, h3, h4⟩, hb⟩)
  go_upto_region 9 with fail
  go_cut [19, 20] from 181 (fun v u wx => ∃ (gv gq qc : Nat) (rs : List Row), v = .pointer (some ⟨gv, 0, none⟩) ∧ u = .slice (some ⟨gq, 0, none⟩) (D + 1 : Nat) qc ∧ C1 wx gv (.slice t.A (D + 1 : Nat) t.c) ∧ OwnRows wx w9.heap.size (.slice (some ⟨gq, 0, none⟩) (D + 1 : Nat) qc) rs (fullH (lists br) [] D) ∧ Lst wx w9.heap.size gv gq (D + 1) qc rs ∧ w9.heap.size ≤ gv ∧ gv < wx.heap.size ∧ w9.heap.size ≤ gq ∧ gq < wx.heap.size ∧ gv ≠ gq ∧ Below w9.heap.size w9 wx)
  case first =>
    have HCU := Lib.hid (show ∀ W, Below (w9.alloc (.cells #[.slice none 0 0] 26)).heap.size (w9.alloc (.cells #[.slice none 0 0] 26)) W → C1 W w9.heap.size (.slice none 0 0) ∧ Below w9.heap.size w9 W ∧ w9.heap.size < W.heap.size from fun W hW => ⟨(c1_new w9 (.slice none 0 0) 26).keep hW (by simp), bt (anc.bl w9 _) hW, Nat.lt_of_lt_of_le (by simp) hW.size⟩)
    have HF := Lib.hid (show ∀ W, Below w9.heap.size w9 W → W.cell? ⟨gT, 0, none⟩ = some (.slice t.A (D + 1 : Nat) t.c) ∧ Below w9.heap.size w9 W from fun W h => ⟨kst h lT t0, h⟩)
    go_region_held3 (fun W => W.cell? ⟨gT, 0, none⟩ = some (.slice t.A (D + 1 : Nat) t.c) ∧ Below w9.heap.size w9 W)
      (first
        | with_reducible exact HF.out _ (below_dr (Below.refl _ _))
        | with_reducible exact HF.out _ (below_dr (anc.bl w9 _))
        | with_reducible exact HF.out _ hbS
        | with_reducible exact HF.out _ (kal (below_dr (Below.refl _ _)) _)
        | with_reducible exact HF.out _ (kal hbS _)
        | with_reducible exact HF.out _ (hbS.setCell (p := ⟨w9.heap.size, 0, none⟩) (Nat.le_refl _) _)
        | with_reducible exact HF.out _ ((anc.bl w9 _))
        | fail)
      (first
        | (go_at_call 10; (with_reducible refine (HTW.out _ (by first | with_reducible exact below_dr (Below.refl w9.heap.size w9) | with_reducible exact below_dr (anc.bl w9 _))).mono ?_); rintro e w10 ⟨⟨gq, qc, rs, rfl, hro, hq1, hq2⟩, hb10⟩; have hbS : Below w9.heap.size w9 w10 := (by first | with_reducible exact bt (below_dr (Below.refl w9.heap.size w9)) hb10 | with_reducible exact bt (below_dr (anc.bl w9 _)) hb10); try (have hq : Below (w9.alloc (.cells #[.slice none 0 0] 26)).heap.size (w9.alloc (.cells #[.slice none 0 0] 26)) w10 := (by with_reducible exact bt (below_dr (Below.refl (w9.alloc (.cells #[.slice none 0 0] 26)).heap.size (w9.alloc (.cells #[.slice none 0 0] 26)))) hb10); obtain ⟨cu, -, lu⟩ := HCU.out _ hq; clear hq; obtain ⟨u0, uf⟩ := id cu))
        | fail)
    all_goals (go_wp2_with fail; go_meet)
    all_goals (first
      | exact ⟨w10.heap.size, gq, qc, rs, rfl, rfl, c1_new w10 _ _, hro.alloc _, (lst_own hro (.inr (Nat.le_refl _))).next (anc.bl w10 _), hbS.size, by simp, hq1, by simp; omega, Nat.ne_of_gt hq2, kal hbS _⟩
      | exact ⟨w9.heap.size, gq, qc, rs, rfl, rfl, C1.set cu _, OwnRows.less (OwnRows.cell_set hro (by simp) _) (by simp), (Lst.other (lst_own hro (.inl (by simp))) (by have h9 := hq1; simp at h9; omega) _).less (by simp), Nat.le_refl _, by rw [World.size_setCell]; exact lu, by have h9 := hq1; simp at h9; omega, by rw [World.size_setCell]; exact hq2, by have h9 := hq1; simp at h9; omega, hbS.setCell (p := ⟨w9.heap.size, 0, none⟩) (Nat.le_refl _) _⟩)
  case rest =>
    obtain ⟨w10, rfl⟩ : ∃ y, y = wc := ⟨wc, rfl⟩
    obtain ⟨gv, gq, qc, rs, rfl, rfl, cv, hro, hls, hv1, hv2, hq1, hq2, hvq, hb10⟩ := hcut
    have HLS := Lib.hid hls
    have HOT := Lib.hid ((offT_own HTO9.out (by rw [HTE.out, fullE_length]; omega) (.inr hv1) (.inr hq1)).next hb10)
    have HLF := Lib.hid (show lists rs = fullH (lists br) [] D from hro.2.1)
    clear hls hro HTW HOR9 HTO9
    go_upto_region 11 with fail
    go_loopw [21] (fun i w' => ∃ (j : Nat) (v : tbl.TV) (rs : List Row), j ≤ k ∧ i = .int .i64 j ∧ C1 w' gv (.slice v.A (D + 1 : Nat) v.c) ∧ OffT w' gv gq v ∧ Lst w' w9.heap.size gv gq (D + 1) qc rs ∧ Whole D v.es (lists rs) (upd (blk (lists br)) ats (lists yr) j) ∧ tbl.Good (D : Int) v.es ∧ HadOk (D + 1) (lists rs) ∧ hadK (lists rs) D = px (upd (blk (lists br)) ats (lists yr) j) D ∧ (∃ e, v.es[D]? = some e ∧ e.ls = false ∧ e.sm = ((crc.sum (px (upd (blk (lists br)) ats (lists yr) j) D) : Nat) : Int)) ∧ gv < w'.heap.size ∧ gq < w'.heap.size ∧ Below w9.heap.size w9 w') (fun i _ => k - (RowKit.intOf i).toNat)
    case atStart =>
      refine ⟨0, t, rs, by omega, rfl, cv, HOT.out, HLS.out, ?_, ?_, ?_, ?_, ?_, hv2, hq2, hb10⟩
      · rw [HTE.out, HLF.out]; exact HW1.out
      · rw [HTE.out]; exact full_good 0 (lists br) [] D (by decide)
      · rw [HLF.out]; exact full_had _ _ _
      · rw [HLF.out, hadK_get fullH_last, par8_px]; rfl
      · rw [HTE.out]; exact ⟨_, fullE_last, rfl, by show ((crc.sum (par8 (lists br) [] D) : Nat) : Int) = _; rw [par8_px]; rfl⟩
    case round =>
      obtain ⟨w11, rfl⟩ : ∃ y, y = wr := ⟨wr, rfl⟩
      obtain ⟨j, v, rs, hj, rfl, cv, hot, hls, hwh, hgd, hhd, hpx, hlast, hv2, hq2, hb11⟩ := hrel
      clear HLS HOT HLF
      have l11 := hb11.size
      have hx11 := bt hx hb11
      by_cases hlt : j < k
      · have j1 : (j : Int) < (k : Int) := by omega
        obtain ⟨bn, on, hN', hbn, hcs⟩ := (HA.out.h) (by rw [ints_length]; show 0 < ats.length; rw [HM.out]; omega)
        change aA = _ at hN'
        subst hN'
        have ga := hcs j (by rw [ints_length]; show j < ats.length; rw [HM.out]; exact hlt)
        rw [ints_get] at ga
        have hjl : j < ats.length := by rw [HM.out]; exact hlt
        have hei : ats[j]? = some (ats[j]'hjl) := List.getElem?_eq_getElem hjl
        change w.cell? _ = some (.int .i64 (ats[j]'hjl)) at ga
        have hyr := HATS.out.2.1 _ (List.getElem_mem hjl)
        obtain ⟨J, hJ⟩ : ∃ J : Nat, ats[j]'hjl = J := ⟨(ats[j]'hjl).toNat, by omega⟩
        rw [hJ] at hei ga hyr
        have hJD : J < D := by omega
        clear hcs hyr hJ
        obtain ⟨b2, o2, r, hYA, hb2, gr, hrs, hrm, -, r1⟩ := row_at HY.out.h HY.out.r (show j < yr.length by rw [HK.out]; exact hlt)
        change yA = _ at hYA
        subst hYA
        have h8r := H8.out r.l (List.mem_of_getElem? r1)
        rw [h8r] at gr
        have hcap := HY.out.l
        have hcap2 := HA.out.k
        change yr.length ≤ yc ∧ yc ≤ maxLen at hcap
        change ats.length ≤ ac ∧ ac ≤ maxLen at hcap2
        rw [HK.out] at hcap
        rw [HM.out] at hcap2
        have hrc := HY.out.k r hrm
        have hat1 := one_ats (D := D) (y := (J : Int)) (by omega)
        have h81 : ∀ u ∈ [r.l], u.length = 8 := fun u hu => by rw [List.mem_singleton] at hu; rw [hu]; exact h8r
        have hUN : upd (upd (blk (lists br)) ats (lists yr) j) [(J : Int)] [r.l] 1 = upd (blk (lists br)) ats (lists yr) (j + 1) := funext fun i => upd_next hei (hadK_get r1) i
        have hPJ := hwh.par (st := S + j) hat1 (bs := [r.l]) rfl h81 (Nat.le_refl D)
        rw [show [(J : Int)].length = 1 from rfl, hUN] at hPJ
        have hST := hwh.step (st := S + j) (q := px (upd (blk (lists br)) ats (lists yr) (j + 1)) D) hhd (show ((J : Nat) : Int) = (J : Int) from rfl) hJD h8r
        rw [hUN] at hST
        have hPL : (px (upd (blk (lists br)) ats (lists yr) (j + 1)) D).length = 8 := by rw [← hPJ]; exact newP_length hat1.2.2 hhd rfl h81 D
        have hgd2 := newT_good (hs := lists rs) (bs := [r.l]) (st := S + j) hgd hat1.2.2 (by have := HN10.out; omega)
        have hla2 := hwh.sums (st := S + j) hat1 (bs := [r.l]) rfl h81 (Nat.le_refl D)
        rw [if_neg (Nat.lt_irrefl D), show [(J : Int)].length = 1 from rfl, hUN] at hla2
        have hhd2 := hadOk_set (j := D) (hadOk_set (j := J) hhd h8r) hPL
        have HST := Lib.hid hST
        have HPL := Lib.hid hPL
        have HGD := Lib.hid hgd2
        have HLA := Lib.hid hla2
        have HHD := Lib.hid hhd2
        have ga11 := kst hx11 hbn ga
        have gr11 := kst hx11 hb2 gr
        have lw11 := hx11.size
        have hoff : Off w11 gv gq r.A r.l := off_arg (hrs.below hx11) lw11 (by have := hx.size; omega) (by have := hx.size; omega)
        have HWJ := Lib.hid (show ∀ W, Below w11.heap.size w11 W → Calls Try.prog 11 #[.agg #[.int .i64 z, .int .i64 D, .int .i64 s, .int .i64 l, .int .i64 a], .agg #[.slice v.A (D + 1 : Nat) v.c], .slice (some ⟨gq, 0, none⟩) (D + 1 : Nat) qc, .slice (some ⟨bn, on + j, none⟩) 1 (ac - j), .slice (some ⟨b2, o2 + j, none⟩) 1 (yc - j), .int .i64 (S + j)] W fun e w' => WrZ W.heap.size D (newT D v.es (lists rs) [(J : Int)] [r.l] (S + j)) (px (upd (blk (lists br)) ats (lists yr) (j + 1)) D) e w' ∧ Below W.heap.size W w' from fun W hW => by
          have h9 := HC.out.write z s l a (S + j) D v (D + 1) ⟨some ⟨gq, 0, none⟩, qc, rs⟩ (D + 1) ⟨some ⟨bn, on + j, none⟩, ac - j, [(J : Int)]⟩ 1 ⟨some ⟨b2, o2 + j, none⟩, yc - j, [r]⟩ W (bt hx11 hW) HO.out (hot.h.next hW) hwh.len hgd (hls.inn.next hW) hls.len hhd ((one_ni ga11 (Nat.lt_of_lt_of_le hbn lw11) (by omega)).next hW) rfl (by decide) hat1 (by have := HN10.out; exact ⟨by omega, by omega⟩) ((one_li (r := r) (by unfold Row.v; rw [h8r]; exact gr11) (Nat.lt_of_lt_of_le hb2 lw11) (by omega) (hrs.below hx11 |>.more lw11) hrc).next hW) rfl h81
          change Calls _ _ _ _ (fun e w' => WrZ _ _ _ (newP D v.es (lists rs) [(J : Int)] [r.l] (S + j) D) e w' ∧ _) at h9
          rw [hPJ] at h9
          exact h9)
        have HLS := Lib.hid hls
        have HOT := Lib.hid hot
        have HOF := Lib.hid hoff
        have HRC := Lib.hid hrc
        have H8R := Lib.hid h8r
        have GG11 := GG.keep hb11 l1
        obtain ⟨g0, g1', g2, g3, g4⟩ := id GG11
        have v0 := cv.c0
        have ll11 := Nat.lt_of_lt_of_le l1 l11
        have n1 : IntKind.i64.wrap ((j : Int) + 1) = (j : Int) + 1 := gmt.w6 _ (by have := HN10.out; omega) (by have := HN10.out; omega)
        have n2 : IntKind.i64.wrap (S + (j : Int)) = S + (j : Int) := gmt.w6 _ (by have := HN10.out; omega) (by have := HN10.out; omega)
        have j2 : (j : Int) ≤ (j : Int) + 1 := by omega
        have j3 : (j : Int) + 1 ≤ (ac : Int) := by omega
        have j4 : (j : Int) + 1 ≤ (yc : Int) := by omega
        have e1 : ¬ ac = j := by omega
        have e2 : ¬ yc = j := by omega
        clear hwh hgd hhd hpx hlast hls hot hoff hrc h8r hat1 h81 hUN hPJ hST hPL hgd2 hla2 hhd2 hrs hrm r1 hcap hcap2 ga gr hei hjl
        go_upto_region 13 with fail
        go_cut [22, 23, 24] from 181 (fun a b e wx => ∃ (gw : Nat) (u' : tbl.TV) (X' : Option Addr) (c' : Nat), a = .pointer (some ⟨gw, 0, none⟩) ∧ b = .slice X' 8 c' ∧ e = .int .i64 0 ∧ C1 wx gw (.slice u'.A (D + 1 : Nat) u'.c) ∧ u'.es = newT D v.es (lists rs) [(J : Int)] [r.l] (S + j) ∧ OffT wx gv gq u' ∧ Off wx gv gq X' (px (upd (blk (lists br)) ats (lists yr) (j + 1)) D) ∧ (8 ≤ c' ∧ c' ≤ maxLen) ∧ w11.heap.size ≤ gw ∧ gw < wx.heap.size ∧ Below w11.heap.size w11 wx)
        case first =>
          have HCU := Lib.hid (show ∀ W, Below (w11.alloc (.cells #[.slice none 0 0] 26)).heap.size (w11.alloc (.cells #[.slice none 0 0] 26)) W → C1 W w11.heap.size (.slice none 0 0) ∧ Below w11.heap.size w11 W ∧ w11.heap.size < W.heap.size from fun W hW => ⟨(c1_new w11 (.slice none 0 0) 26).keep hW (by simp), bt (anc.bl w11 _) hW, Nat.lt_of_lt_of_le (by simp) hW.size⟩)
          have HF := Lib.hid (show ∀ W, Below w11.heap.size w11 W → ((W.cell? ⟨g1, 0, none⟩ = some (.int .i64 z) ∧ W.cell? ⟨g1, 1, none⟩ = some (.int .i64 D) ∧ W.cell? ⟨g1, 2, none⟩ = some (.int .i64 s) ∧ W.cell? ⟨g1, 3, none⟩ = some (.int .i64 l) ∧ W.cell? ⟨g1, 4, none⟩ = some (.int .i64 a)) ∧ W.cell? ⟨gv, 0, none⟩ = some (.slice v.A (D + 1 : Nat) v.c)) ∧ Below w11.heap.size w11 W from fun W h => ⟨⟨⟨kst h ll11 g0, kst h ll11 g1', kst h ll11 g2, kst h ll11 g3, kst h ll11 g4⟩, kst h hv2 v0⟩, h⟩)
          clear ga11 gr11 HST HGD HLA HHD HLS HOT HOF
          go_region_held3 (fun W => ((W.cell? ⟨g1, 0, none⟩ = some (.int .i64 z) ∧ W.cell? ⟨g1, 1, none⟩ = some (.int .i64 D) ∧ W.cell? ⟨g1, 2, none⟩ = some (.int .i64 s) ∧ W.cell? ⟨g1, 3, none⟩ = some (.int .i64 l) ∧ W.cell? ⟨g1, 4, none⟩ = some (.int .i64 a)) ∧ W.cell? ⟨gv, 0, none⟩ = some (.slice v.A (D + 1 : Nat) v.c)) ∧ Below w11.heap.size w11 W)
            (first
              | with_reducible exact HF.out _ (below_dr (Below.refl _ _))
              | with_reducible exact HF.out _ (below_dr (anc.bl w11 _))
              | with_reducible exact HF.out _ hbS
              | with_reducible exact HF.out _ (kal (below_dr (Below.refl _ _)) _)
              | with_reducible exact HF.out _ (kal hbS _)
              | with_reducible exact HF.out _ (hbS.setCell (p := ⟨w11.heap.size, 0, none⟩) (Nat.le_refl _) _)
              | with_reducible exact HF.out _ ((anc.bl w11 _))
              | fail)
            (first
              | (go_at_call 11; (with_reducible refine (HWJ.out _ (by first | with_reducible exact below_dr (Below.refl w11.heap.size w11) | with_reducible exact below_dr (anc.bl w11 _))).mono ?_); rintro e w12 ⟨⟨u', X', c', rfl, hue, huo, hpo⟩, hb12⟩; have HUEJ := Lib.hid hue; clear hue; have hbS : Below w11.heap.size w11 w12 := (by first | with_reducible exact bt (below_dr (Below.refl w11.heap.size w11)) hb12 | with_reducible exact bt (below_dr (anc.bl w11 _)) hb12); try (have hq : Below (w11.alloc (.cells #[.slice none 0 0] 26)).heap.size (w11.alloc (.cells #[.slice none 0 0] 26)) w12 := (by with_reducible exact bt (below_dr (Below.refl (w11.alloc (.cells #[.slice none 0 0] 26)).heap.size (w11.alloc (.cells #[.slice none 0 0] 26)))) hb12); obtain ⟨cu, -, lu⟩ := HCU.out _ hq; clear hq; obtain ⟨u0, uf⟩ := id cu))
              | fail)
          all_goals (go_wp2_with fail; go_meet)
          all_goals (first
            | exact ⟨w12.heap.size, u', X', c', rfl, rfl, rfl, c1_new w12 _ _, HUEJ.out, (offT_own huo (by rw [HUEJ.out, newT_length]; omega) (.inl hv2) (.inl hq2)).next (anc.bl w12 _), (off_own hpo hv2 hq2).next (anc.bl w12 _), ⟨(own_at hpo).2.1, (own_at hpo).2.2.1⟩, hbS.size, by simp, kal hbS _⟩
            | exact ⟨w11.heap.size, u', X', c', rfl, rfl, rfl, C1.set cu _, HUEJ.out, offT_own (t := u') (OwnE.cell_set huo (by simp) _) (by rw [HUEJ.out, newT_length]; omega) (.inl (by simp; omega)) (.inl (by simp; omega)), off_own (own_set hpo (by simp) _) (by simp; omega) (by simp; omega), ⟨(own_at hpo).2.1, (own_at hpo).2.2.1⟩, Nat.le_refl _, by rw [World.size_setCell]; exact lu, hbS.setCell (p := ⟨w11.heap.size, 0, none⟩) (Nat.le_refl _) _⟩)
        case rest =>
          obtain ⟨w12, rfl⟩ : ∃ y, y = wc := ⟨wc, rfl⟩
          obtain ⟨gw, u', X', c', rfl, rfl, rfl, cw, hue, hou, hox, hcx, hw1, hw2, hb12⟩ := hcut
          have HUEJ := Lib.hid hue
          have HOU := Lib.hid hou
          have HOX := Lib.hid hox
          have hcv := cv.keep hb12 hv2
          have HLS2 := Lib.hid (HLS.out.next hb12)
          have HOR2 := Lib.hid (HOF.out.next hb12)
          have ga12 := kst hb12 (Nat.lt_of_lt_of_le hbn lw11) ga11
          have gr12 := kst hb12 (Nat.lt_of_lt_of_le hb2 lw11) gr11
          have g112 := kst hb12 ll11 g1'
          have wv := cw.c0
          have bn1 : bn ≠ gv := by have := hx.size; omega
          have bn2 : bn ≠ gq := by have := hx.size; omega
          have bb1 : b2 ≠ gv := by have := hx.size; omega
          have bb2 : b2 ≠ gq := by have := hx.size; omega
          have g11 : g1 ≠ gv := by omega
          have g12 : g1 ≠ gq := by omega
          have gw1 : gw ≠ gv := by omega
          have gw2 : gw ≠ gq := by omega
          obtain ⟨xJ, -, cJ, -, fJ⟩ := HLS2.out.cell (show J < D + 1 by omega)
          obtain ⟨xD, -, cD, -, fD⟩ := HLS2.out.cell (show D < D + 1 by omega)
          have v1 := hcv.c0
          have vf := hcv.f0
          have k1 : (J : Int) < (D : Int) + 1 := by omega
          have k2 : (D : Int) < (D : Int) + 1 := by omega
          clear hue hou hox ga11 gr11 g0 g1' g2 g3 g4 v0 HWJ
          have S0 : (fun W : World => (W.cell? ⟨bn, on + j, none⟩ = some (.int .i64 J) ∧ W.cell? ⟨b2, o2 + j, none⟩ = some (.slice r.A 8 r.c)) ∧ W.cell? ⟨g1, 1, none⟩ = some (.int .i64 D) ∧ W.cell? ⟨gw, 0, none⟩ = some (.slice u'.A (D + 1 : Nat) u'.c)) w12.drew := ⟨⟨ga12, gr12⟩, g112, wv⟩
          have HSS := Lib.hid (show ∀ (W : World) (g o : Nat) (v : Value), g = gv ∨ g = gq → (fun W : World => (W.cell? ⟨bn, on + j, none⟩ = some (.int .i64 J) ∧ W.cell? ⟨b2, o2 + j, none⟩ = some (.slice r.A 8 r.c)) ∧ W.cell? ⟨g1, 1, none⟩ = some (.int .i64 D) ∧ W.cell? ⟨gw, 0, none⟩ = some (.slice u'.A (D + 1 : Nat) u'.c)) W → (fun W : World => (W.cell? ⟨bn, on + j, none⟩ = some (.int .i64 J) ∧ W.cell? ⟨b2, o2 + j, none⟩ = some (.slice r.A 8 r.c)) ∧ W.cell? ⟨g1, 1, none⟩ = some (.int .i64 D) ∧ W.cell? ⟨gw, 0, none⟩ = some (.slice u'.A (D + 1 : Nat) u'.c)) (W.setCell ⟨g, o, none⟩ v) from fun W g o v hg h => by
            obtain ⟨⟨h1, h2⟩, h3, h4⟩ := h
            have q : ∀ b, b ≠ gv → b ≠ gq → b ≠ g := fun b x y => by rcases hg with rfl | rfl <;> assumption
            exact ⟨⟨(cell_off v (q _ bn1 bn2)).trans h1, (cell_off v (q _ bb1 bb2)).trans h2⟩, (cell_off v (q _ g11 g12)).trans h3, (cell_off v (q _ gw1 gw2)).trans h4⟩)
          have Z1 := HSS.out w12 gv 0 (.slice u'.A (D + 1 : Nat) u'.c) (.inl rfl) S0
          have Z2 := HSS.out _ gq J (.slice r.A 8 r.c) (.inr rfl) Z1
          have Z3 := HSS.out _ gq D (.slice X' 8 c') (.inr rfl) Z2
          have S1 : (fun W : World => (W.cell? ⟨bn, on + j, none⟩ = some (.int .i64 J) ∧ W.cell? ⟨b2, o2 + j, none⟩ = some (.slice r.A 8 r.c)) ∧ W.cell? ⟨g1, 1, none⟩ = some (.int .i64 D) ∧ W.cell? ⟨gw, 0, none⟩ = some (.slice u'.A (D + 1 : Nat) u'.c)) (w12.setCell ⟨gv, 0, none⟩ (.slice u'.A (D + 1 : Nat) u'.c)).drew := Z1
          have S2 : (fun W : World => (W.cell? ⟨bn, on + j, none⟩ = some (.int .i64 J) ∧ W.cell? ⟨b2, o2 + j, none⟩ = some (.slice r.A 8 r.c)) ∧ W.cell? ⟨g1, 1, none⟩ = some (.int .i64 D) ∧ W.cell? ⟨gw, 0, none⟩ = some (.slice u'.A (D + 1 : Nat) u'.c)) ((w12.setCell ⟨gv, 0, none⟩ (.slice u'.A (D + 1 : Nat) u'.c)).setCell ⟨gq, J, none⟩ (.slice r.A 8 r.c)).drew := Z2
          have S3 : (fun W : World => (W.cell? ⟨bn, on + j, none⟩ = some (.int .i64 J) ∧ W.cell? ⟨b2, o2 + j, none⟩ = some (.slice r.A 8 r.c)) ∧ W.cell? ⟨g1, 1, none⟩ = some (.int .i64 D) ∧ W.cell? ⟨gw, 0, none⟩ = some (.slice u'.A (D + 1 : Nat) u'.c)) (((w12.setCell ⟨gv, 0, none⟩ (.slice u'.A (D + 1 : Nat) u'.c)).setCell ⟨gq, J, none⟩ (.slice r.A 8 r.c)).setCell ⟨gq, D, none⟩ (.slice X' 8 c')).drew := Z3
          clear Z1 Z2 Z3
          go_upto_region 16 with fail
          go_region_held3 (fun W => (W.cell? ⟨bn, on + j, none⟩ = some (.int .i64 J) ∧ W.cell? ⟨b2, o2 + j, none⟩ = some (.slice r.A 8 r.c)) ∧ W.cell? ⟨g1, 1, none⟩ = some (.int .i64 D) ∧ W.cell? ⟨gw, 0, none⟩ = some (.slice u'.A (D + 1 : Nat) u'.c))
            (first
              | with_reducible exact S0
              | with_reducible exact S1
              | with_reducible exact S2
              | with_reducible exact S3
              | fail)
            (fail)
          clear S0 S1 S2 S3 HSS ga12 gr12 g112 wv cJ cD fJ fD v1 vf k1 k2
          have C9 : C1 (((w12.setCell ⟨gv, 0, none⟩ (.slice u'.A (D + 1 : Nat) u'.c)).setCell ⟨gq, J, none⟩ (.slice r.A 8 r.c)).setCell ⟨gq, D, none⟩ (.slice X' 8 c')).drew gv (.slice u'.A (D + 1 : Nat) u'.c) := by
            have h9 := ((hcv.set (.slice u'.A (D + 1 : Nat) u'.c)).apart hvq (o := J) (.slice r.A 8 r.c)).apart hvq (o := D) (.slice X' 8 c')
            exact ⟨h9.c0, h9.f0⟩
          have O9 : OffT (((w12.setCell ⟨gv, 0, none⟩ (.slice u'.A (D + 1 : Nat) u'.c)).setCell ⟨gq, J, none⟩ (.slice r.A 8 r.c)).setCell ⟨gq, D, none⟩ (.slice X' 8 c')).drew gv gq u' := (((HOU.out.set (o := 0) (.inl rfl) _).set (o := J) (.inr rfl) _).set (o := D) (.inr rfl) _).next (below_dr (Below.refl _ _))
          have L9 : Lst (((w12.setCell ⟨gv, 0, none⟩ (.slice u'.A (D + 1 : Nat) u'.c)).setCell ⟨gq, J, none⟩ (.slice r.A 8 r.c)).setCell ⟨gq, D, none⟩ (.slice X' 8 c')).drew w9.heap.size gv gq (D + 1) qc ((rs.set J r).set D ⟨X', c', px (upd (blk (lists br)) ats (lists yr) (j + 1)) D⟩) := by
            have h1 := Lst.other HLS2.out hvq (o := 0) (.slice u'.A (D + 1 : Nat) u'.c)
            have h2 := Lst.put h1 J (x := r) (HOR2.out.set (.inl rfl) _) HRC.out
            unfold Row.v at h2
            rw [H8R.out] at h2
            have h3 := Lst.put h2 D (x := ⟨X', c', px (upd (blk (lists br)) ats (lists yr) (j + 1)) D⟩) ((HOX.out.set (.inl rfl) _).set (.inr rfl) _) (by show (px (upd (blk (lists br)) ats (lists yr) (j + 1)) D).length ≤ c' ∧ c' ≤ maxLen; rw [HPL.out]; exact hcx)
            change Lst (((w12.setCell ⟨gv, 0, none⟩ (.slice u'.A (D + 1 : Nat) u'.c)).setCell ⟨gq, J, none⟩ (.slice r.A 8 r.c)).setCell ⟨gq, D, none⟩ (.slice X' (px (upd (blk (lists br)) ats (lists yr) (j + 1)) D).length c')) _ _ _ _ _ _ at h3
            rw [HPL.out] at h3
            exact h3.next (below_dr (Below.refl _ _))
          have B9 : Below w9.heap.size w9 (((w12.setCell ⟨gv, 0, none⟩ (.slice u'.A (D + 1 : Nat) u'.c)).setCell ⟨gq, J, none⟩ (.slice r.A 8 r.c)).setCell ⟨gq, D, none⟩ (.slice X' 8 c')).drew := below_dr ((((hb11.trans (hb12.mono l11)).setCell (p := ⟨gv, 0, none⟩) hv1 _).setCell (p := ⟨gq, J, none⟩) hq1 _).setCell (p := ⟨gq, D, none⟩) hq1 _)
          have lv9 : gv < (((w12.setCell ⟨gv, 0, none⟩ (.slice u'.A (D + 1 : Nat) u'.c)).setCell ⟨gq, J, none⟩ (.slice r.A 8 r.c)).setCell ⟨gq, D, none⟩ (.slice X' 8 c')).drew.heap.size := by show gv < (((w12.setCell ⟨gv, 0, none⟩ (.slice u'.A (D + 1 : Nat) u'.c)).setCell ⟨gq, J, none⟩ (.slice r.A 8 r.c)).setCell ⟨gq, D, none⟩ (.slice X' 8 c')).heap.size; simp only [World.size_setCell]; exact Nat.lt_of_lt_of_le hv2 hb12.size
          have lq9 : gq < (((w12.setCell ⟨gv, 0, none⟩ (.slice u'.A (D + 1 : Nat) u'.c)).setCell ⟨gq, J, none⟩ (.slice r.A 8 r.c)).setCell ⟨gq, D, none⟩ (.slice X' 8 c')).drew.heap.size := by show gq < (((w12.setCell ⟨gv, 0, none⟩ (.slice u'.A (D + 1 : Nat) u'.c)).setCell ⟨gq, J, none⟩ (.slice r.A 8 r.c)).setCell ⟨gq, D, none⟩ (.slice X' 8 c')).heap.size; simp only [World.size_setCell]; exact Nat.lt_of_lt_of_le hq2 hb12.size
          have HLL := Lib.hid (show lists ((rs.set J r).set D ⟨X', c', px (upd (blk (lists br)) ats (lists yr) (j + 1)) D⟩) = ((lists rs).set J r.l).set D (px (upd (blk (lists br)) ats (lists yr) (j + 1)) D) by unfold lists; rw [List.map_set, List.map_set])
          have HLD := Lib.hid (show D < ((lists rs).set J r.l).length by have := HHD.out.1; rw [List.length_set] at this; omega)
          generalize (((w12.setCell ⟨gv, 0, none⟩ (.slice u'.A (D + 1 : Nat) u'.c)).setCell ⟨gq, J, none⟩ (.slice r.A 8 r.c)).setCell ⟨gq, D, none⟩ (.slice X' 8 c')).drew = w15 at *
          go_wp2_with fail
          go_roundw
          case rel =>
            refine ⟨j + 1, u', (rs.set J r).set D ⟨X', c', px (upd (blk (lists br)) ats (lists yr) (j + 1)) D⟩, by omega, by go_num, C9, O9, L9, ?_, ?_, ?_, ?_, ?_, lv9, lq9, B9⟩
            · rw [HUEJ.out, HLL.out]; exact HST.out
            · rw [HUEJ.out]; exact HGD.out
            · rw [HLL.out]; exact HHD.out
            · rw [HLL.out, hadK_set _ HLD.out, if_pos rfl]
            · rw [HUEJ.out]; exact HLA.out
          case measure => simp [RowKit.intOf]; omega
      · have j1 : ¬ (j : Int) < (k : Int) := by omega
        obtain rfl : j = k := by omega
        have hyl : (lists yr).length = ats.length := by rw [lists_length, HK.out, HM.out]
        have hpp : newP D (fullE 0 (lists br) [] D) (fullH (lists br) [] D) ats (lists yr) S D = px (upd (blk (lists br)) ats (lists yr) j) D := by
          rw [HW1.out.par HATS.out hyl H8.out (Nat.le_refl D), HM.out]
        have hp8 : (px (upd (blk (lists br)) ats (lists yr) j) D).length = 8 := by rw [← hpp]; exact newP_length HATS.out.2.2 (full_had _ _ _) hyl H8.out D
        rw [hpp] at HPS
        obtain ⟨xD, hxD, cD, oD, -⟩ := hls.cell (show D < D + 1 by omega)
        have hxl : xD.l = px (upd (blk (lists br)) ats (lists yr) j) D := by
          rw [← hpx, hadK_get (show (lists rs)[D]? = some xD.l by unfold lists; rw [List.getElem?_map, hxD]; rfl)]
        have HKB := Lib.hid (keep_c true X xD.A 8 xD.l.length c xD.c (px (upd (blk (lists br)) ats (lists yr) j) D) xD.l w11 hp8 rfl (by decide) (HPS.out.next hb11) oD.h (iff_of_true rfl hxl.symm))
        have GG11 := GG.keep hb11 l1
        have UU11 := UU.keep hb11 lU
        have HUI11 := Lib.hid (HUI.out.next hb11)
        have HOT := Lib.hid hot
        have HSU := Lib.hid (show ∀ i, i ≤ D → ∃ e1 e2 : Ent, u.es[i]? = some e1 ∧ v.es[i]? = some e2 ∧ e1.sm = e2.sm ∧ e1.ls = false ∧ e2.ls = false from fun i hi => by
          obtain ⟨e1, he1, hl1, hs1⟩ := HW1.out.sums (st := S) HATS.out hyl H8.out hi
          rw [HM.out] at hs1
          by_cases hiD : i < D
          · obtain ⟨e2, he2, hl2, hs2⟩ := hwh.ent i hiD
            rw [if_pos hiD] at hs1
            exact ⟨e1, e2, by rw [HUE.out]; exact he1, he2, by rw [hs1, hs2], hl1, hl2⟩
          · obtain rfl : i = D := by omega
            obtain ⟨e2, he2, hl2, hs2⟩ := hlast
            rw [if_neg hiD] at hs1
            exact ⟨e1, e2, by rw [HUE.out]; exact he1, he2, by rw [hs1, hs2], hl1, hl2⟩)
        have hul : u.es.length = D + 1 := by rw [HUE.out, newT_length]
        have hvl : v.es.length = D + 1 := hwh.len
        obtain ⟨bu, ou, -, hUA, hbu, -⟩ := tbl.ent_at HUI11.out.h (show 0 < u.es.length by omega)
        obtain ⟨bv, ov, -, hVA, hbv, -⟩ := tbl.ent_at HOT.out.h.h (show 0 < v.es.length by omega)
        rw [hUA] at UU11
        rw [hVA] at cv
        have HUA := Lib.hid hUA
        have HVA := Lib.hid hVA
        obtain ⟨g0, g1', g2, g3, g4⟩ := id GG11
        have u0 := UU11.c0
        have v0 := cv.c0
        have q1 : ((D : Int) + 1 != (D : Int) + 1) = false := bne_self_eq_false _
        have k2 : (D : Int) < (D : Int) + 1 := by omega
        have lU11 := Nat.lt_of_lt_of_le lU l11
        have HM11 := Lib.hid (show ∀ W, Below w11.heap.size w11 W → W.cell? ⟨gU, 0, none⟩ = some (.slice (some ⟨bu, ou, none⟩) (D + 1 : Nat) u.c) ∧ W.cell? ⟨gv, 0, none⟩ = some (.slice (some ⟨bv, ov, none⟩) (D + 1 : Nat) v.c) from fun W h => ⟨kst h lU11 u0, kst h hv2 v0⟩)
        have HWK := Lib.hid (show ∀ W, Below w11.heap.size w11 W → Calls Try.prog 17 #[] W fun e w' => e = .returned (.bool true) ∧ Below W.heap.size W w' from fun W hW => wk_stp W (HC.out.next (bt hx11 hW)))
        clear hpp hp8 hxD oD hxl hwh hgd hhd hpx hlast hls hot hUA hVA GG11 UU11 cv
        go_upto_region 20 with (go_at_call 24; (with_reducible refine HKB.out.mono ?_); rintro e w12 ⟨rfl, hb12⟩)
        clear g0 g1' g2 g3 g4 u0 v0 q1 k2 cD HKB
        go_loopw [25] (fun i w' => ∃ i2 : Nat, i2 ≤ D + 1 ∧ i = .int .i64 i2 ∧ Below w11.heap.size w11 w') (fun i _ => D + 1 - (RowKit.intOf i).toNat)
        case atStart => exact ⟨0, by omega, rfl, hb12⟩
        case round =>
          obtain ⟨w13, rfl⟩ : ∃ y, y = wr := ⟨wr, rfl⟩
          obtain ⟨i2, hi2, rfl, hb13⟩ := hrel
          obtain ⟨u0, v0⟩ := HM11.out _ hb13
          have hD4 : D ≤ 4 := HD1.out.2
          by_cases hlt2 : i2 < D + 1
          · have k1 : (i2 : Int) < (D : Int) + 1 := by omega
            obtain ⟨e1, e2, he1, he2, hsm, hl1, hl2⟩ := HSU.out i2 (by omega)
            obtain ⟨bu', ou', e1', hUA', -, c0, c1, c2, -, e1e⟩ := tbl.ent_at (HUI11.out.next hb13).h (show i2 < u.es.length by omega)
            rw [HUA.out] at hUA'
            simp only [Option.some.injEq, Addr.mk.injEq, and_true] at hUA'
            obtain ⟨rfl, rfl⟩ := hUA'
            obtain rfl : e1 = e1' := by
              rw [he1] at e1e
              exact Option.some.inj e1e
            obtain ⟨bv', ov', e2', hVA', -, x0, x1, x2, -, e2e⟩ := tbl.ent_at (HOT.out.next hb13).h.h (show i2 < v.es.length by omega)
            rw [HVA.out] at hVA'
            simp only [Option.some.injEq, Addr.mk.injEq, and_true] at hVA'
            obtain ⟨rfl, rfl⟩ := hVA'
            obtain rfl : e2 = e2' := by
              rw [he2] at e2e
              exact Option.some.inj e2e
            rw [← hsm] at x1
            rw [hl1] at c2
            rw [hl2] at x2
            have q2 : (e1.sm != e1.sm) = false := bne_self_eq_false _
            clear he1 he2 hsm hl1 hl2 e1e e2e c0 x0
            go_upto_region 22 with fail
            go_quiet (fail)
            have hbq := below_dn hb13 nq
            generalize w13.drewN nq = wq at *
            go_wp2_with fail
            go_roundw
            case rel => exact ⟨i2 + 1, by omega, by go_num, hbq⟩
            case measure => simp [RowKit.intOf]; omega
          · have k1 : ¬ (i2 : Int) < (D : Int) + 1 := by omega
            go_wp2_with (go_at_call 17; (with_reducible refine (HWK.out _ hb13).mono ?_); rintro e w14 ⟨rfl, hb14⟩)
            go_ret
            exact ⟨rfl, bt hx11 (bt hb13 hb14)⟩
theorem twice_said (zo da st : Int) (bA : Option Addr) (bc : Nat) (br : List Row) (aA : Option Addr) (ac : Nat) (ats : List Int) (yA : Option Addr) (yc : Nat) (yr : List Row) (w : World) (hc : Cst w) (hb : LV.In w w.heap.size ⟨bA, bc, br⟩) (ha : NV.In w w.heap.size ⟨aA, ac, ats⟩) (hy : LV.In w w.heap.size ⟨yA, yc, yr⟩) :
    Calls Try.prog 6 #[.int .i64 zo, .int .i64 da, .slice bA br.length bc, .slice aA ats.length ac, .slice yA yr.length yc, .int .i64 st] w fun e w' => e = .returned (.bool true) ∧ Below w.heap.size w w' :=
  tw_law zo da st bA bc br _ aA ac ats _ yA yc yr _ w hc rfl hb rfl ha rfl hy
end Go.Proofs.Ythdahdopejapmaa.stp
