/-
  The developers' own Write, where all is right. Conditions: a right zone, right indices, as many blocks of eight bytes, a right stamp.
-/
import Derived.Test.YthdahdopejapmaaStYB
import Derived.Test.YthdahdopejapmaaStYC
import Derived.Deep.RegionHeld3
import Derived.StillTailTactics
namespace Go.Proofs.Ythdahdopejapmaa.stp
open Go.RowKit Go.Lib
open Go.Proofs.Ythdahdopejapmaa.gmt (Ok)
open Go.Proofs.Ythdahdopejapmaa.anc (bl kal kst ks bm ka)
open Go.Proofs.Ythdahdopejapmaa.tbl (Ent EntOk C1 c1_new G5 g5_new OwnE evs)
open Go.Proofs.Ythdahdopejapmaa.par (zx zeros zeros_length zx_length xall)
open Go.Proofs.Ythdahdopejapmaa.zon

set_option maxRecDepth 100000 in
set_option maxHeartbeats 16000000 in
theorem write_ok (z s l a st : Int) (D : Nat) (x : tbl.TV) (N : Nat) (hA : Option Addr) (hq : Nat) (hr : List Row) (n : Nat) (aA : Option Addr) (ac : Nat) (ats : List Int) (m : Nat) (bA : Option Addr) (bc : Nat) (br : List Row) (w : World) (ho : Ok z D s l a) (hst : 0 ≤ st ∧ st ≤ 4294967295) (hN : x.es.length = N) (hx : x.In w w.heap.size) (hg : tbl.Good (D : Int) x.es) (hn : hr.length = n) (hh : LV.In w w.heap.size ⟨hA, hq, hr⟩) (hd : HadOk (D + 1) (lists hr)) (hm : ats.length = m) (ha : SlV w w.heap.size aA (ints ats)) (hm1 : m ≤ 1048576) (hat : AtsOk D ats) (hbl : br.length = m) (hbb : LV.In w w.heap.size ⟨bA, bc, br⟩) (hb8 : ∀ y ∈ lists br, y.length = 8) :
    Calls Try.prog 11 #[.agg #[.int .i64 z, .int .i64 D, .int .i64 s, .int .i64 l, .int .i64 a], .agg #[.slice x.A N x.c], .slice hA n hq, .slice aA m ac, .slice bA m bc, .int .i64 st] w fun e w' => WrZ w.heap.size D (newT D x.es (lists hr) ats (lists br) st) (newP D x.es (lists hr) ats (lists br) st D) e w' ∧ Below w.heap.size w w' := by
  have hD : 1 ≤ D ∧ D ≤ 4 := by have := ho.2.1; omega
  have hND : N = D + 1 := by have := hg.1; rw [hN] at this; omega
  have s1 : (w.alloc (.cells #[.int .i64 z, .int .i64 D, .int .i64 s, .int .i64 l, .int .i64 a] 23)).heap.size = w.heap.size + 1 := by simp
  have s2 : ((w.alloc (.cells #[.int .i64 z, .int .i64 D, .int .i64 s, .int .i64 l, .int .i64 a] 23)).alloc (.cells #[.slice x.A N x.c] 26)).heap.size = w.heap.size + 2 := by simp
  have s3 : (((w.alloc (.cells #[.int .i64 z, .int .i64 D, .int .i64 s, .int .i64 l, .int .i64 a] 23)).alloc (.cells #[.slice x.A N x.c] 26)).alloc (.cells #[.slice none 0 0] 26)).heap.size = w.heap.size + 3 := by simp
  have x2 := bl (w.alloc (.cells #[.int .i64 z, .int .i64 D, .int .i64 s, .int .i64 l, .int .i64 a] 23)) (.cells #[.slice x.A N x.c] 26)
  have x3 := bl ((w.alloc (.cells #[.int .i64 z, .int .i64 D, .int .i64 s, .int .i64 l, .int .i64 a] 23)).alloc (.cells #[.slice x.A N x.c] 26)) (.cells #[.slice none 0 0] 26)
  have GG := ((g5_new w z D s l a).keep x2 (by omega)).keep x3 (by omega)
  have TT := (c1_new (w.alloc (.cells #[.int .i64 z, .int .i64 D, .int .i64 s, .int .i64 l, .int .i64 a] 23)) (.slice x.A N x.c) 26).keep x3 (by omega)
  have RR := c1_new ((w.alloc (.cells #[.int .i64 z, .int .i64 D, .int .i64 s, .int .i64 l, .int .i64 a] 23)).alloc (.cells #[.slice x.A N x.c] 26)) (.slice none 0 0) 26
  rw [s1] at TT
  rw [s2] at RR
  have hw := kal (kal (bl w (.cells #[.int .i64 z, .int .i64 D, .int .i64 s, .int .i64 l, .int .i64 a] 23)) (.cells #[.slice x.A N x.c] 26)) (.cells #[.slice none 0 0] 26)
  have HX := Lib.hid hx
  have HAI := Lib.hid ha
  have HBI := Lib.hid hbb
  have HN := Lib.hid hN
  have HD := Lib.hid hd
  have HM := Lib.hid hm
  have HAT := Lib.hid hat
  have HBL := Lib.hid hbl
  have HB8 := Lib.hid hb8
  have HND := Lib.hid hND
  have HALL := Lib.hid (wr_all z s l a D x N ⟨hA, hq, hr⟩ n (((w.alloc (.cells #[.int .i64 z, .int .i64 D, .int .i64 s, .int .i64 l, .int .i64 a] 23)).alloc (.cells #[.slice x.A N x.c] 26)).alloc (.cells #[.slice none 0 0] 26)) ho (hx.next hw) hN hg (hh.next hw) hn hd)
  obtain ⟨q1, q2⟩ := hst
  have q3 : ¬ st < 0 := by omega
  have q4 : ¬ 4294967295 < st := by omega
  clear hN hx hg hn hh hd hm ha hat hbl hbb hb8 ho s1 s2 x2 x3 hND
  go_enter Try.func11, Try.ntmps11
  go_upto_region 1 with fail
  generalize (((w.alloc (.cells #[.int .i64 z, .int .i64 D, .int .i64 s, .int .i64 l, .int .i64 a] 23)).alloc (.cells #[.slice x.A N x.c] 26)).alloc (.cells #[.slice none 0 0] 26)) = w0 at *
  obtain ⟨g0, g1, g2, g3, g4⟩ := id GG
  have t0 := TT.c0
  go_upto_region 4 with (go_at_call 27; (with_reducible refine HALL.out.mono ?_); rintro e w1 ⟨⟨g, yc, yr, K, kc, rfl, hor, hg1, hg2, hyc, hkv⟩, hb1⟩)
  have lw1 := hb1.size
  have GG1 := GG.keep hb1 (by omega)
  have TT1 := TT.keep hb1 (by omega)
  have RR1 := RR.keep hb1 (by omega)
  have hw1 := bt hw hb1
  have HOR := Lib.hid hor
  have HKV := Lib.hid hkv
  clear hor hkv hb1 g0 g1 g2 g3 g4 t0 HALL GG TT RR
  obtain ⟨g0, g1, g2, g3, g4⟩ := id GG1
  have IX := Lib.hid (show Calls Try.prog 31 #[.agg #[.int .i64 z, .int .i64 D, .int .i64 s, .int .i64 l, .int .i64 a], .slice aA m ac] w1 fun e w' => e = .returned (.bool true) ∧ Below w1.heap.size w1 w' from ix_c true z s l a D aA m ac ats w1 HM.out hm1 (HAI.out.next hw1) (by omega) (iff_of_true rfl HAT.out))
  go_upto_region 6 with (go_at_call 31; (with_reducible refine IX.out.mono ?_); rintro e w2 ⟨rfl, hb2⟩)
  have lw2 := hb2.size
  have GG2 := GG1.keep hb2 (by omega)
  have TT2 := TT1.keep hb2 (by omega)
  have RR2 := RR1.keep hb2 (by omega)
  have hw2 := bt hw1 hb2
  have HOR2 := Lib.hid (HOR.out.below hb2)
  have HKV2 := Lib.hid (HKV.out.below hb2)
  clear hb2 hw1 g0 g1 g2 g3 g4 IX GG1 TT1 RR1 HOR HKV
  have BK := Lib.hid (show Calls Try.prog 32 #[.slice bA m bc, .int .i64 m] w2 fun e w' => e = .returned (.bool true) ∧ Below w2.heap.size w2 w' from bk_c true bA m bc m br w2 HBL.out hm1 hm1 (HBI.out.next hw2).h (HBI.out.next hw2).r (iff_of_true rfl ⟨by rw [lists_length]; exact HBL.out, HB8.out⟩))
  go_upto_region 8 with (go_at_call 32; (with_reducible refine BK.out.mono ?_); rintro e w3 ⟨rfl, hb3⟩)
  have lw3 := hb3.size
  have GG3 := GG2.keep hb3 (by omega)
  have TT3 := TT2.keep hb3 (by omega)
  have RR3 := RR2.keep hb3 (by omega)
  have hw3 := bt hw2 hb3
  have HOR3 := Lib.hid (HOR2.out.below hb3)
  have HKV3 := Lib.hid (HKV2.out.below hb3)
  clear hb3 hw2 BK GG2 TT2 RR2 HOR2 HKV2
  have t0 := TT3.c0
  have r0 := RR3.c0
  have rf := RR3.f0
  have HCL := Lib.hid (clone_ent x N w3 (HX.out.next hw3) HN.out (by rw [HND.out]; omega) (by rw [HND.out]; omega))
  go_upto_region 9 with (go_at_call 33; (with_reducible refine HCL.out.mono ?_); rintro e w4 ⟨⟨q, qc, rfl, hoe, hq1, hq2⟩, hb4⟩; have r04 := kst hb4 (by omega) r0; have rf4 := (RR3.keep hb4 (by omega)).f0)
  have hpq : w.heap.size + 1 + 1 ≠ q := by omega
  have RR5 : C1 (w4.setCell ⟨w.heap.size + 1 + 1, 0, none⟩ (.slice (some ⟨q, 0, none⟩) N qc)) (w.heap.size + 1 + 1) (.slice (some ⟨q, 0, none⟩) N qc) := C1.set ⟨r04, rf4⟩ _
  have GG5 := (GG3.keep hb4 (by omega)).set (g' := w.heap.size + 1 + 1) (o := 0) (by omega) (.slice (some ⟨q, 0, none⟩) N qc)
  have hoe5 := ent_g hoe (show q ≠ w.heap.size + 1 + 1 by omega) (o := 0) (.slice (some ⟨q, 0, none⟩) N qc)
  have hor5 := OwnRows.cell_set (HOR3.out.below hb4) (show w.heap.size + 1 + 1 < w0.heap.size by omega) (o := 0) (.slice (some ⟨q, 0, none⟩) N qc)
  have hkv5 := ownV_low (HKV3.out.below hb4) (show w.heap.size + 1 + 1 < w0.heap.size by omega) (o := 0) (.slice (some ⟨q, 0, none⟩) N qc)
  have hls5 := lst_ent hor5 hoe5
  have HLY := Lib.hid (show lists yr = knowns (D + 1) x.es (lists hr) from hor5.2.1)
  have hw5 := (bt hw3 hb4).setCell (p := ⟨w.heap.size + 1 + 1, 0, none⟩) (show w.heap.size ≤ w.heap.size + 1 + 1 by omega) (.slice (some ⟨q, 0, none⟩) N qc)
  have hq5 : q < (w4.setCell ⟨w.heap.size + 1 + 1, 0, none⟩ (.slice (some ⟨q, 0, none⟩) N qc)).heap.size := by rw [World.size_setCell]; exact hq2
  have hgq : q ≠ g := by omega
  have HK5 := Lib.hid (show ∃ gk, K = some ⟨gk, 0, none⟩ from by
    obtain ⟨gk, c9, hv, -⟩ := hkv5.at (by rw [bools_length, kn_length, knowns_length]; omega)
    simp only [Value.slice.injEq] at hv
    exact ⟨gk, hv.1⟩)
  clear r04 rf4 hoe hor5 hb4 HCL t0 r0 rf RR3 GG3 TT3 HOR3 HKV3
  generalize (w4.setCell ⟨w.heap.size + 1 + 1, 0, none⟩ (.slice (some ⟨q, 0, none⟩) N qc)) = w5 at *
  obtain ⟨gk, rfl⟩ := HK5.out
  clear HK5
  obtain ⟨g0, g1, g2, g3, g4⟩ := id GG5
  have HOE5 := Lib.hid (show OwnE w5 w3.heap.size (.slice (some ⟨q, 0, none⟩) N qc) (mid D x.es (lists hr) 0) from by rw [mid_zero]; exact hoe5)
  have HLS5 := Lib.hid hls5
  have HKV5 := Lib.hid hkv5
  clear hoe5 hls5 hkv5
  go_upto_region 10 with fail
  clear g0 g1 g2 g3 g4
  go_loopw [17, 57] (fun _ i w' => ∃ k : Nat, k ≤ D ∧ i = .int .i64 k ∧ OwnE w' w3.heap.size (.slice (some ⟨q, 0, none⟩) N qc) (mid D x.es (lists hr) k) ∧ Lst w' w0.heap.size q g (D + 1) yc yr ∧ OwnV w' w0.heap.size 4 (.slice (some ⟨gk, 0, none⟩) (D + 1 : Nat) kc) (bools (kn (knowns (D + 1) x.es (lists hr)))) ∧ C1 w' (w.heap.size + 1 + 1) (.slice (some ⟨q, 0, none⟩) N qc) ∧ G5 w' w.heap.size z D s l a ∧ q < w'.heap.size ∧ Below w.heap.size w w') (fun _ i _ => D - (RowKit.intOf i).toNat)
  case atStart => exact ⟨0, by omega, rfl, HOE5.out, HLS5.out, HKV5.out, RR5, GG5, hq5, hw5⟩
  case round =>
    obtain ⟨w6, rfl⟩ : ∃ x, x = wr := ⟨wr, rfl⟩
    obtain ⟨k, hk, rfl, hoe, hls, hkv, hrr, hgg, hqs, hbr⟩ := hrel
    clear HOE5 HLS5 HKV5 RR5 GG5 hq5 hw5
    by_cases hlt : k < D
    · have j1 : (k : Int) < (D : Int) := by omega
      have hml : (mid D x.es (lists hr) k).length = N := by rw [mid_length (by rw [HN.out, HND.out]; omega), HN.out]
      obtain ⟨e0, he0, c0, c1, c2⟩ := ent_cell hml (show k < N by rw [HND.out]; omega) hoe
      have f2 := ent_frozen hoe (k * 3 + 2)
      have hek : entK x.es k = e0 := by
        have h9 := mid_get (D := D) (es := x.es) (hs := lists hr) (show k < x.es.length by rw [HN.out, HND.out]; omega)
        rw [he0] at h9
        exact (Option.some.inj h9).symm
      have hkc := hkv.cell k (by rw [bools_length, kn_length, knowns_length]; omega)
      rw [bools_get] at hkc
      have hkb : (kn (knowns (D + 1) x.es (lists hr)))[k]'(by rw [kn_length, knowns_length]; omega) = !(known (D + 1) x.es (lists hr) k).isEmpty := by
        have h9 := kn_get (knowns_get (n := D + 1) x.es (lists hr) (show k < D + 1 by omega))
        rw [List.getElem?_eq_getElem (by rw [kn_length, knowns_length]; omega)] at h9
        exact Option.some.inj h9
      rw [hkb] at hkc
      obtain ⟨bk, hbk⟩ : ∃ bk : Bool, bk = !(known (D + 1) x.es (lists hr) k).isEmpty := ⟨_, rfl⟩
      rw [← hbk] at hkc
      have HBD := Lib.hid (show decide (known (D + 1) x.es (lists hr) k = []) = !bk from by
        rw [hbk, Bool.not_not]
        cases known (D + 1) x.es (lists hr) k <;> rfl)
      have r0 := hrr.c0
      have i1 : (k : Int) < (N : Int) := by rw [HND.out]; omega
      have i2 : (k : Int) < ((D + 1 : Nat) : Int) := by omega
      have i3 : (k : Int) < (D : Int) + 1 := by omega
      have HOE := Lib.hid hoe
      have HLS := Lib.hid hls
      have HKV := Lib.hid hkv
      have HRR := Lib.hid hrr
      have HGG := Lib.hid hgg
      have HBR := Lib.hid hbr
      clear hoe hls hkv hrr hgg hbk hkb hbr
      go_upto_region 12 with fail
      go_still_tail 10, (by kernel_rfl)
      change wpList _ _ _ _ _ w6.drew
      have hD := below_dr (Below.refl w6.heap.size w6)
      have hoe7 := OwnE.below HOE.out hD
      have hls7 := HLS.out.next hD
      have hkv7 := HKV.out.below hD
      have hrr7 := HRR.out.keep hD (show w.heap.size + 1 + 1 < w6.heap.size by omega)
      have hgg7 := HGG.out.keep hD (show w.heap.size < w6.heap.size by omega)
      have hbr7 := HBR.out.trans (hD.mono (show w.heap.size ≤ w6.heap.size by omega))
      have hqs7 := Nat.lt_of_lt_of_le hqs hD.size
      clear hD HOE HLS HKV HRR HGG HBR c0 c1 c2 f2 r0 hkc
      generalize w6.drew = w7 at *
      obtain ⟨e1, he1, -, -, c2⟩ := ent_cell hml (show k < N by rw [HND.out]; omega) hoe7
      have f2 := ent_frozen hoe7 (k * 3 + 2)
      have HOE := Lib.hid (show OwnE (w7.setCell ⟨q, k * 3 + 2, none⟩ (.bool (!bk))) w3.heap.size (.slice (some ⟨q, 0, none⟩) N qc) (mid D x.es (lists hr) (k + 1)) from by
        have h9 := setL (!bk) hml he0 hoe7
        rw [← hek, ← HBD.out, mid_next (by rw [HN.out, HND.out]; omega), HBD.out] at h9
        exact h9)
      have HLS := Lib.hid (hls7.other hgq (o := k * 3 + 2) (.bool (!bk)))
      have HKV := Lib.hid (ownV_q hkv7 hoe7 (o := k * 3 + 2) (.bool (!bk)))
      have HRR := Lib.hid (hrr7.apart hpq (o := k * 3 + 2) (.bool (!bk)))
      have HGG := Lib.hid (hgg7.set (g' := q) (o := k * 3 + 2) (by omega) (.bool (!bk)))
      have HBR := Lib.hid (hbr7.setCell (p := ⟨q, k * 3 + 2, none⟩) (show w.heap.size ≤ q by omega) (.bool (!bk)))
      have hqs8 : q < (w7.setCell ⟨q, k * 3 + 2, none⟩ (.bool (!bk))).heap.size := by rw [World.size_setCell]; exact hqs7
      clear hoe7 hls7 hkv7 hrr7 hgg7 hbr7 hek HBD he0 he1
      go_wp2_with fail
      go_roundw
      case rel => exact ⟨k + 1, by omega, by go_num, HOE.out, HLS.out, HKV.out, HRR.out, HGG.out, hqs8, HBR.out⟩
      case measure => simp [RowKit.intOf]; omega
    · have j1 : ¬ (k : Int) < (D : Int) := by omega
      obtain rfl : D = k := by omega
      clear hkv
      have HOE := Lib.hid hoe
      have HLS := Lib.hid hls
      have HRR := Lib.hid hrr
      have HGG := Lib.hid hgg
      have HBR := Lib.hid hbr
      clear hoe hls hrr hgg hbr
      go_upto_region 15 with fail
      have HI0 := Lib.hid (show ∀ i, i < D → (mid D x.es (lists hr) D)[i]? = some (step D x.es (lists hr) ats (lists br) st i 0).2 ∧ (lists yr)[i]? = some (step D x.es (lists hr) ats (lists br) st i 0).1 from fun i hi => ⟨mid_at hi, by rw [HLY.out]; exact knowns_get _ _ (by omega)⟩)
      have HML := Lib.hid (show (mid D x.es (lists hr) D).length = N by rw [mid_length (by rw [HN.out, HND.out]; omega), HN.out])
      go_loopw [18, 19, 73] (fun _ _ i w' => ∃ (k : Nat) (E : List Ent) (rs : List Row), k ≤ m ∧ i = .int .i64 k ∧ E.length = N ∧ (∀ i, i < D → E[i]? = some (step D x.es (lists hr) ats (lists br) st i k).2 ∧ (lists rs)[i]? = some (step D x.es (lists hr) ats (lists br) st i k).1) ∧ OwnE w' w3.heap.size (.slice (some ⟨q, 0, none⟩) N qc) E ∧ Lst w' w0.heap.size q g (D + 1) yc rs ∧ C1 w' (w.heap.size + 1 + 1) (.slice (some ⟨q, 0, none⟩) N qc) ∧ G5 w' w.heap.size z D s l a ∧ q < w'.heap.size ∧ Below w.heap.size w w') (fun _ _ i _ => m - (RowKit.intOf i).toNat)
      case atStart => exact ⟨0, mid D x.es (lists hr) D, yr, by omega, rfl, HML.out, HI0.out, HOE.out, HLS.out, HRR.out, HGG.out, hqs, HBR.out⟩
      case round =>
        obtain ⟨w8, rfl⟩ : ∃ x, x = wr := ⟨wr, rfl⟩
        obtain ⟨k, E, rs, hkm, rfl, hEl, hst, hoe, hls, hrr, hgg, hqs8, hbr⟩ := hrel
        clear HOE HLS HRR HGG HBR HI0 HML hqs
        by_cases hlt : k < m
        · have j2 : (k : Int) < (m : Int) := by omega
          have hkl : k < ats.length := by rw [HM.out]; exact hlt
          obtain ⟨b1, off, rfl, hb1, hcs⟩ := HAI.out (by rw [ints_length]; omega)
          have ga := hcs k (by rw [ints_length]; exact hkl)
          rw [ints_get] at ga
          have e1 : ats[k]? = some ats[k] := List.getElem?_eq_getElem hkl
          have hin := HAT.out.2.1 _ (List.getElem_mem hkl)
          obtain ⟨y, hy⟩ : ∃ y, y = ats[k] := ⟨_, rfl⟩
          rw [← hy] at ga e1 hin
          clear hy hcs
          obtain ⟨Y, rfl⟩ : ∃ Y : Nat, y = Y := ⟨y.toNat, by omega⟩
          obtain ⟨b2, o2, r, hbA, hb2, gr, hrs, hrm, -, r1⟩ := row_at HBI.out.h HBI.out.r (show k < br.length by rw [HBL.out]; exact hlt)
          have hbA2 : bA = some ⟨b2, o2, none⟩ := hbA
          subst hbA2
          clear hbA
          have hr8 := HB8.out r.l (List.mem_of_getElem? r1)
          have hrc := HBI.out.k r hrm
          have hv : r.v = .slice r.A 8 r.c := by unfold Row.v; rw [hr8]
          rw [hr8] at gr
          have HHK := Lib.hid (show hadK (lists br) k = r.l from hadK_get r1)
          have HE1 := Lib.hid e1
          have hYN : Y < N := by rw [HND.out]; omega
          obtain ⟨x9, -, cg, -, fg⟩ := hls.cell (show Y < D + 1 by omega)
          have HLP := Lib.hid (hls.put Y (x := r) (off_arg (hrs.below hbr) hbr.size (show w.heap.size ≤ q by omega) (show w.heap.size ≤ g by omega)) hrc)
          rw [hv] at HLP
          have ga8 := ks hbr hb1 ga
          have gr8 := ks hbr hb2 gr
          have HOE7 := Lib.hid (ent_g hoe hgq (o := Y) (.slice r.A 8 r.c))
          have RR7 := hrr.apart (show w.heap.size + 1 + 1 ≠ g by omega) (o := Y) (.slice r.A 8 r.c)
          have GG7 := hgg.set (g' := g) (o := Y) (by omega) (.slice r.A 8 r.c)
          have hbr7 := hbr.setCell (p := ⟨g, Y, none⟩) (show w.heap.size ≤ g by omega) (.slice r.A 8 r.c)
          have hqs7 : q < (w8.setCell ⟨g, Y, none⟩ (.slice r.A 8 r.c)).heap.size := by rw [World.size_setCell]; exact hqs8
          have HST := Lib.hid hst
          have HEL := Lib.hid hEl
          have i1 : (Y : Int) < ((D + 1 : Nat) : Int) := by omega
          have i2 : (Y : Int) < (D : Int) + 1 := by omega
          have i3 : (Y : Int) < (N : Int) := by omega
          have HEN := Lib.hid (show ∀ W, Below w.heap.size w W → Calls Try.prog 34 #[.int .i64 st, .slice r.A 8 r.c] W fun e w' => e = .returned (.agg #[.int .i64 st, .int .i64 (entS st r.l).sm, .bool false]) ∧ Below W.heap.size W w' from fun W hW => mkent_c st r.A r.c r.l W ⟨q1, q2⟩ hr8 ((hrs.below hW).more hW.size))
          have HGR := Lib.hid gr
          have HHRR := Lib.hid hrr
          clear hst hEl hoe hls hrr hgg hbr hrs hrm r1 e1 hin hkl hr8 hrc hv gr ga hqs8
          go_upto_region 18 with fail
          clear cg fg ga8 gr8
          generalize (w8.setCell ⟨g, Y, none⟩ (.slice r.A 8 r.c)) = w9 at *
          have lw9 := hbr7.size
          have gr9 := ks hbr7 hb2 HGR.out
          obtain ⟨ev, hev⟩ : ∃ ev : Ent, ev = entS st r.l := ⟨_, rfl⟩
          have hes : ev.st = st ∧ ev.ls = false := by rw [hev]; exact ⟨rfl, rfl⟩
          rw [← hev] at HEN
          have HEV := Lib.hid hev
          clear hev
          have HSX := Lib.hid (show ∀ W, Below w9.heap.size w9 W → W.cell? ⟨w.heap.size + 1 + 1, 0, none⟩ = some (.slice (some ⟨q, 0, none⟩) N qc) ∧ W.cell? ⟨b2, o2 + k, none⟩ = some (.slice r.A 8 r.c) from fun W h => ⟨kst h (by omega) RR7.c0, kst h (by omega) gr9⟩)
          refine wp_region_held_drew (S := fun W => W.cell? ⟨w.heap.size + 1 + 1, 0, none⟩ = some (.slice (some ⟨q, 0, none⟩) N qc) ∧ W.cell? ⟨b2, o2 + k, none⟩ = some (.slice r.A 8 r.c)) (by kernel_rfl) (HSX.out _ (below_dr (Below.refl w9.heap.size w9))) (fun hS => ?_)
          (refine wpAnyH_take (i := 0) (v := ?_) rfl (by kernel_rfl) (by kernel_rfl) (by kernel_rfl) (fun _ _ _ h => h) (Or.inl ⟨by rfl, ?_⟩) (by assumption) ?_; rotate_left; (focus (intro w hSw; (try dsimp only at hSw); go_split_ands; go_simp <;> with_reducible rfl)); simp only [List.getElem_toArray, List.getElem_cons_zero, Act.put, List.setIfInBounds_toArray, List.set_cons_zero, List.set_cons_succ])
          (refine wpAnyH_take (i := 1) (v := ?_) rfl (by kernel_rfl) (by kernel_rfl) (by kernel_rfl) (fun _ _ _ h => h) (Or.inl ⟨by rfl, ?_⟩) (by assumption) ?_; rotate_left; (focus (intro w hSw; (try dsimp only at hSw); go_split_ands; go_simp <;> with_reducible rfl)); simp only [List.getElem_toArray, List.getElem_cons_zero, List.getElem_cons_succ, Act.put, List.setIfInBounds_toArray, List.set_cons_zero, List.set_cons_succ])
          (refine wpAnyH_take (i := 2) (v := ?_) rfl (by kernel_rfl) (by kernel_rfl) (by kernel_rfl) (fun _ _ _ h => h) (Or.inl ⟨by rfl, ?_⟩) (by assumption) ?_; rotate_left; (focus (intro w hSw; (try dsimp only at hSw); go_split_ands; go_simp <;> with_reducible rfl)); simp only [List.getElem_toArray, List.getElem_cons_zero, List.getElem_cons_succ, Act.put, List.setIfInBounds_toArray, List.set_cons_zero, List.set_cons_succ])
          (refine wpAnyH_take (i := 3) (v := ?_) rfl (by kernel_rfl) (by kernel_rfl) (by kernel_rfl) (fun _ _ _ h => h) (Or.inl ⟨by rfl, ?_⟩) (by assumption) ?_; rotate_left; (focus (intro w hSw; (try dsimp only at hSw); go_split_ands; go_simp <;> with_reducible rfl)); simp only [List.getElem_toArray, List.getElem_cons_zero, List.getElem_cons_succ, Act.put, List.setIfInBounds_toArray, List.set_cons_zero, List.set_cons_succ])
          (refine wpAnyH_take (i := 4) (v := ?_) rfl (by kernel_rfl) (by kernel_rfl) (by kernel_rfl) (fun _ _ _ h => h) (Or.inl ⟨by rfl, ?_⟩) (by assumption) ?_; rotate_left; (focus (intro w hSw; (try dsimp only at hSw); go_split_ands; go_simp <;> with_reducible rfl)); simp only [List.getElem_toArray, List.getElem_cons_zero, List.getElem_cons_succ, Act.put, List.setIfInBounds_toArray, List.set_cons_zero, List.set_cons_succ])
          (refine wpAnyH_take (i := 5) (v := ?_) rfl (by kernel_rfl) (by kernel_rfl) (by kernel_rfl) (fun _ _ _ h => h) (Or.inl ⟨by rfl, ?_⟩) (by assumption) ?_; rotate_left; (focus (intro w hSw; (try dsimp only at hSw); go_split_ands; go_simp <;> with_reducible rfl)); simp only [List.getElem_toArray, List.getElem_cons_zero, List.getElem_cons_succ, Act.put, List.setIfInBounds_toArray, List.set_cons_zero, List.set_cons_succ])
          (refine wpAnyH_take (i := 6) (v := ?_) rfl (by kernel_rfl) (by kernel_rfl) (by kernel_rfl) (fun _ _ _ h => h) (Or.inl ⟨by rfl, ?_⟩) (by assumption) ?_; rotate_left; (focus (intro w hSw; (try dsimp only at hSw); go_split_ands; go_simp <;> with_reducible rfl)); simp only [List.getElem_toArray, List.getElem_cons_zero, List.getElem_cons_succ, Act.put, List.setIfInBounds_toArray, List.set_cons_zero, List.set_cons_succ])
          (refine wpAnyH_take (i := 7) (v := ?_) rfl (by kernel_rfl) (by kernel_rfl) (by kernel_rfl) (fun _ _ _ h => h) (Or.inl ⟨by rfl, ?_⟩) (by assumption) ?_; rotate_left; (focus (intro w hSw; (try dsimp only at hSw); go_split_ands; go_simp <;> with_reducible rfl)); simp only [List.getElem_toArray, List.getElem_cons_zero, List.getElem_cons_succ, Act.put, List.setIfInBounds_toArray, List.set_cons_zero, List.set_cons_succ])
          refine wpAnyH_ready (rs := [8]) (by kernel_rfl) (by simp) ?_
          refine AllReadyH.cons rfl (fun K hK => ?_) AllReadyH.nil
          go_simp
          (with_reducible refine (HEN.out _ (hbr7.trans ((below_dr (Below.refl w9.heap.size w9)).mono lw9))).mono ?_)
          rintro e wa ⟨rfl, hbq⟩
          have hba : Below w9.heap.size w9 wa := bt (below_dr (Below.refl w9.heap.size w9)) hbq
          refine hK.out _ _ (HSX.out _ hba) (fun hS => ?_)
          clear hK K hbq
          try simp only [List.getElem_toArray, List.getElem_cons_zero, List.getElem_cons_succ, Act.put, List.setIfInBounds_toArray, List.set_cons_zero, List.set_cons_succ]
          (refine wpAnyH_take (i := 9) (v := ?_) rfl (by kernel_rfl) (by kernel_rfl) (by kernel_rfl) (fun _ _ _ h => h) (Or.inl ⟨by rfl, ?_⟩) (by assumption) ?_; rotate_left; (focus (intro w hSw; (try dsimp only at hSw); go_split_ands; go_simp <;> with_reducible rfl)); simp only [List.getElem_toArray, List.getElem_cons_zero, List.getElem_cons_succ, Act.put, List.setIfInBounds_toArray, List.set_cons_zero, List.set_cons_succ])
          have hoea := OwnE.below HOE7.out hba
          obtain ⟨e9, -, c0, c1, c2⟩ := ent_cell HEL.out hYN hoea
          have f0 := ent_frozen hoea (Y * 3)
          have f1 := ent_frozen hoea (Y * 3 + 1)
          have f2 := ent_frozen hoea (Y * 3 + 2)
          refine wpAnyH_ready (rs := [10]) (by kernel_rfl) (by simp) ?_
          refine AllReadyH.cons rfl (fun K hK => ?_) AllReadyH.nil
          have cp7 := RR7.keep hba (show w.heap.size + 1 + 1 < w9.heap.size by omega)
          have cp8 := ((cp7.apart hpq (o := Y * 3) (.int .i64 st)).apart hpq (o := Y * 3 + 1) (.int .i64 ev.sm)).apart hpq (o := Y * 3 + 2) (.bool false)
          have GGa := ((GG7.keep hba (show w.heap.size < w9.heap.size by omega)).set (g' := q) (o := Y * 3) (by omega) (.int .i64 st) |>.set (g' := q) (o := Y * 3 + 1) (by omega) (.int .i64 ev.sm)).set (g' := q) (o := Y * 3 + 2) (by omega) (.bool false)
          have hb0a := hbr7.trans (hba.mono lw9)
          have HB8' := Lib.hid (below_set3 (o1 := Y * 3) (o2 := Y * 3 + 1) (o3 := Y * 3 + 2) hb0a (show w.heap.size ≤ q by omega) (.int .i64 st) (.int .i64 ev.sm) (.bool false))
          have HE8 := Lib.hid (set3 (e' := ev) HEL.out hYN hoea)
          rw [hes.1, hes.2] at HE8
          have HLa := Lib.hid ((((HLP.out.next hba).other hgq (o := Y * 3) (.int .i64 st)).other hgq (o := Y * 3 + 1) (.int .i64 ev.sm)).other hgq (o := Y * 3 + 2) (.bool false))
          have hqsa : q < (((wa.setCell ⟨q, Y * 3, none⟩ (.int .i64 st)).setCell ⟨q, Y * 3 + 1, none⟩ (.int .i64 ev.sm)).setCell ⟨q, Y * 3 + 2, none⟩ (.bool false)).heap.size := by rw [size_set3]; exact Nat.lt_of_lt_of_le hqs7 hba.size
          have grb := ks HB8'.out hb2 HGR.out
          clear hoea hes GG7 RR7
          go_simp
          refine hK.out _ _ ⟨cp8.c0, grb⟩ (fun hS => ?_)
          clear hK K c0 c1 c2 f0 f1 f2 cp7 hba hb0a grb
          generalize (((wa.setCell ⟨q, Y * 3, none⟩ (.int .i64 st)).setCell ⟨q, Y * 3 + 1, none⟩ (.int .i64 ev.sm)).setCell ⟨q, Y * 3 + 2, none⟩ (.bool false)) = wb at *
          refine wpAnyH_done (by kernel_rfl) ?_ _
          have HREL := Lib.hid (show ∀ i, i < D → (E.set Y ev)[i]? = some (step D x.es (lists hr) ats (lists br) st i (k + 1)).2 ∧ (lists (rs.set Y r))[i]? = some (step D x.es (lists hr) ats (lists br) st i (k + 1)).1 from by
            intro i hi
            have h9 := HST.out i hi
            have hll : (lists (rs.set Y r)) = (lists rs).set Y r.l := by unfold lists; rw [List.map_set]
            have hlr : Y < (lists rs).length := by rw [lists_length]; have := HLa.out.len; rw [List.length_set] at this; omega
            rw [hll]
            by_cases hiY : i = Y
            · rw [step_hit (by rw [hiY]; exact HE1.out), hiY, List.getElem?_set_self (by rw [HEL.out]; exact hYN), List.getElem?_set_self hlr, HHK.out, HEV.out]
              exact ⟨rfl, rfl⟩
            · rw [step_miss (by rw [HE1.out]; intro h; have := Option.some.inj h; omega), List.getElem?_set_ne (fun h => hiY h.symm), List.getElem?_set_ne (fun h => hiY h.symm)]
              exact h9)
          have HEL2 := Lib.hid (show (E.set Y ev).length = N by rw [List.length_set]; exact HEL.out)
          clear hS
          go_wp2_with fail
          go_roundw
          case rel => exact ⟨k + 1, _, _, by omega, by go_num, HEL2.out, HREL.out, HE8.out, HLa.out, cp8, GGa, hqsa, HB8'.out⟩
          case measure => simp [RowKit.intOf]; omega
        · have j2 : ¬ (k : Int) < (m : Int) := by omega
          obtain rfl : m = k := by omega
          have hbsl : (lists br).length = ats.length := by rw [lists_length, HBL.out, HM.out]
          have HFI := Lib.hid (show ∀ i, i < D → E[i]? = some (newE D x.es (lists hr) ats (lists br) st i) ∧ (lists rs)[i]? = some (newB D x.es (lists hr) ats (lists br) st i) from fun i hi => by
            have h9 := hst i hi
            rw [← HM.out, step_all HAT.out.2.2 hbsl HB8.out i] at h9
            exact h9)
          have HE1 := Lib.hid (show ∀ i, i < D → E[i]? = some (newE D x.es (lists hr) ats (lists br) st i) from fun i hi => (HFI.out i hi).1)
          have hP8 := newP_length (D := D) (es := x.es) (st := st) HAT.out.2.2 HD.out hbsl HB8.out D
          have HLI := hls.inn
          have hei : tbl.TV.In w8 w8.heap.size ⟨some ⟨q, 0, none⟩, qc, E⟩ := tbl.TV.Own.inn (t := ⟨some ⟨q, 0, none⟩, qc, E⟩) (by unfold tbl.TV.Own; rw [hEl]; exact hoe)
          have hqc : N ≤ qc ∧ qc ≤ maxLen := by have := hei.l; rw [hEl] at this; exact this
          have HPA := Lib.hid (show Calls Try.prog 35 #[.slice (some ⟨q, 0, none⟩) D qc, .slice (some ⟨g, 0, none⟩) (D + 1 : Nat) yc] w8 fun e w' => (∃ (X : Option Addr) (c : Nat), e = .returned (.slice X 8 c) ∧ Own w' w8.heap.size 5 (.slice X 8 c) (newP D x.es (lists hr) ats (lists br) st D)) ∧ Below w8.heap.size w8 w' from by
            have h9 := mkpar_c q qc D (E.take D) (some ⟨g, 0, none⟩) (D + 1) yc rs w8 (by rw [List.length_take, hEl, HND.out]; omega) (by omega) (ent_take hei.h) hls.len (by omega) HLI.h HLI.r (fun i hi hl => by
              rw [news_lost HE1.out hi] at hl
              rw [hadK_get (HFI.out i hi).2]
              refine (newB_length HAT.out.2.2 HD.out hbsl HB8.out i).resolve_left fun h => ?_
              rw [(newE_lost HAT.out.2.2 hbsl HB8.out i).2 h] at hl
              cases hl)
            rw [selK_newP (D := D) (es := x.es) (hs := lists hr) (ats := ats) (bs := lists br) (st := st) fun i hi => ⟨by rw [news_lost HE1.out hi]; exact newE_lost HAT.out.2.2 hbsl HB8.out i, hadK_get (HFI.out i hi).2⟩] at h9
            exact h9)
          have HNS := Lib.hid (news_set (E := E) (by rw [hEl, HND.out]) HE1.out)
          obtain ⟨g0, g1, g2, g3, g4⟩ := id hgg
          have r0 := hrr.c0
          have i1 : (D : Int) ≤ (N : Int) := by rw [HND.out]; omega
          have i2 : (D : Int) ≤ (qc : Int) := by rw [HND.out] at hqc; omega
          have i3 : (0 : Int) ≤ (D : Int) := by omega
          have i4 : (D : Int) < (N : Int) := by rw [HND.out]; omega
          have HOE := Lib.hid hoe
          have HEL := Lib.hid hEl
          have HBR := Lib.hid hbr
          clear hst hoe hls hbr hbsl HFI HE1 HLI hei hEl hqc
          go_upto_region 21 with (go_at_call 35; (with_reducible refine HPA.out.mono ?_); rintro e w9 ⟨⟨PX, pc, rfl, hop⟩, hb9⟩)
          have lw9 := hb9.size
          have lw8 := HBR.out.size
          have RR9 := hrr.keep hb9 (show w.heap.size + 1 + 1 < w8.heap.size by omega)
          have GG9 := hgg.keep hb9 (show w.heap.size < w8.heap.size by omega)
          have HOE9 := Lib.hid (OwnE.below HOE.out hb9)
          have HBR9 := HBR.out.trans (hb9.mono lw8)
          have hqs9 := Nat.lt_of_lt_of_le hqs8 lw9
          obtain ⟨-, -, -, hps⟩ := own_at hop
          have HOP := Lib.hid hop
          obtain ⟨ev, hev⟩ : ∃ ev : Ent, ev = entS st (newP D x.es (lists hr) ats (lists br) st D) := ⟨_, rfl⟩
          have hes : ev.st = st ∧ ev.ls = false := by rw [hev]; exact ⟨rfl, rfl⟩
          have HEN := Lib.hid (show ∀ W, Below w9.heap.size w9 W → Calls Try.prog 34 #[.int .i64 st, .slice PX 8 pc] W fun e w' => e = .returned (.agg #[.int .i64 st, .int .i64 (entS st (newP D x.es (lists hr) ats (lists br) st D)).sm, .bool false]) ∧ Below W.heap.size W w' from fun W hW => mkent_c st PX pc (newP D x.es (lists hr) ats (lists br) st D) W ⟨q1, q2⟩ hP8 (hps.next hW))
          rw [← hev] at HEN HNS
          have hg19 := GG9.g1
          have HSX := Lib.hid (show ∀ W, Below w9.heap.size w9 W → W.cell? ⟨w.heap.size + 1 + 1, 0, none⟩ = some (.slice (some ⟨q, 0, none⟩) N qc) ∧ W.cell? ⟨w.heap.size, 1, none⟩ = some (.int .i64 D) from fun W h => ⟨kst h (by omega) RR9.c0, kst h (by omega) hg19⟩)
          clear hop hps hP8 hev hb9 HPA HOE HBR hrr hgg g0 g1 g2 g3 g4 r0 hg19
          refine wp_region_held_drew (S := fun W => W.cell? ⟨w.heap.size + 1 + 1, 0, none⟩ = some (.slice (some ⟨q, 0, none⟩) N qc) ∧ W.cell? ⟨w.heap.size, 1, none⟩ = some (.int .i64 D)) (by kernel_rfl) (HSX.out _ (below_dr (Below.refl w9.heap.size w9))) (fun hS => ?_)
          (refine wpAnyH_take (i := 0) (v := ?_) rfl (by kernel_rfl) (by kernel_rfl) (by kernel_rfl) (fun _ _ _ h => h) (Or.inl ⟨by rfl, ?_⟩) (by assumption) ?_; rotate_left; (focus (intro w hSw; (try dsimp only at hSw); go_split_ands; go_simp <;> with_reducible rfl)); simp only [List.getElem_toArray, List.getElem_cons_zero, Act.put, List.setIfInBounds_toArray, List.set_cons_zero, List.set_cons_succ])
          (refine wpAnyH_take (i := 1) (v := ?_) rfl (by kernel_rfl) (by kernel_rfl) (by kernel_rfl) (fun _ _ _ h => h) (Or.inl ⟨by rfl, ?_⟩) (by assumption) ?_; rotate_left; (focus (intro w hSw; (try dsimp only at hSw); go_split_ands; go_simp <;> with_reducible rfl)); simp only [List.getElem_toArray, List.getElem_cons_zero, List.getElem_cons_succ, Act.put, List.setIfInBounds_toArray, List.set_cons_zero, List.set_cons_succ])
          (refine wpAnyH_take (i := 2) (v := ?_) rfl (by kernel_rfl) (by kernel_rfl) (by kernel_rfl) (fun _ _ _ h => h) (Or.inl ⟨by rfl, ?_⟩) (by assumption) ?_; rotate_left; (focus (intro w hSw; (try dsimp only at hSw); go_split_ands; go_simp <;> with_reducible rfl)); simp only [List.getElem_toArray, List.getElem_cons_zero, List.getElem_cons_succ, Act.put, List.setIfInBounds_toArray, List.set_cons_zero, List.set_cons_succ])
          (refine wpAnyH_take (i := 3) (v := ?_) rfl (by kernel_rfl) (by kernel_rfl) (by kernel_rfl) (fun _ _ _ h => h) (Or.inl ⟨by rfl, ?_⟩) (by assumption) ?_; rotate_left; (focus (intro w hSw; (try dsimp only at hSw); go_split_ands; go_simp <;> with_reducible rfl)); simp only [List.getElem_toArray, List.getElem_cons_zero, List.getElem_cons_succ, Act.put, List.setIfInBounds_toArray, List.set_cons_zero, List.set_cons_succ])
          (refine wpAnyH_take (i := 4) (v := ?_) rfl (by kernel_rfl) (by kernel_rfl) (by kernel_rfl) (fun _ _ _ h => h) (Or.inl ⟨by rfl, ?_⟩) (by assumption) ?_; rotate_left; (focus (intro w hSw; (try dsimp only at hSw); go_split_ands; go_simp <;> with_reducible rfl)); simp only [List.getElem_toArray, List.getElem_cons_zero, List.getElem_cons_succ, Act.put, List.setIfInBounds_toArray, List.set_cons_zero, List.set_cons_succ])
          (refine wpAnyH_take (i := 5) (v := ?_) rfl (by kernel_rfl) (by kernel_rfl) (by kernel_rfl) (fun _ _ _ h => h) (Or.inl ⟨by rfl, ?_⟩) (by assumption) ?_; rotate_left; (focus (intro w hSw; (try dsimp only at hSw); go_split_ands; go_simp <;> with_reducible rfl)); simp only [List.getElem_toArray, List.getElem_cons_zero, List.getElem_cons_succ, Act.put, List.setIfInBounds_toArray, List.set_cons_zero, List.set_cons_succ])
          refine wpAnyH_ready (rs := [6]) (by kernel_rfl) (by simp) ?_
          refine AllReadyH.cons rfl (fun K hK => ?_) AllReadyH.nil
          go_simp
          (with_reducible refine (HEN.out _ (below_dr (Below.refl _ _))).mono ?_)
          rintro e wa ⟨rfl, hbq⟩
          have hba : Below w9.heap.size w9 wa := bt (below_dr (Below.refl w9.heap.size w9)) hbq
          refine hK.out _ _ (HSX.out _ hba) (fun hS => ?_)
          clear hK K hbq
          try simp only [List.getElem_toArray, List.getElem_cons_zero, List.getElem_cons_succ, Act.put, List.setIfInBounds_toArray, List.set_cons_zero, List.set_cons_succ]
          (refine wpAnyH_take (i := 7) (v := ?_) rfl (by kernel_rfl) (by kernel_rfl) (by kernel_rfl) (fun _ _ _ h => h) (Or.inl ⟨by rfl, ?_⟩) (by assumption) ?_; rotate_left; (focus (intro w hSw; (try dsimp only at hSw); go_split_ands; go_simp <;> with_reducible rfl)); simp only [List.getElem_toArray, List.getElem_cons_zero, List.getElem_cons_succ, Act.put, List.setIfInBounds_toArray, List.set_cons_zero, List.set_cons_succ])
          have hoea := OwnE.below HOE9.out hba
          have hDN : D < N := by omega
          obtain ⟨e9, -, c0, c1, c2⟩ := ent_cell HEL.out hDN hoea
          have f0 := ent_frozen hoea (D * 3)
          have f1 := ent_frozen hoea (D * 3 + 1)
          have f2 := ent_frozen hoea (D * 3 + 2)
          refine wpAnyH_ready (rs := [8]) (by kernel_rfl) (by simp) ?_
          refine AllReadyH.cons rfl (fun K hK => ?_) AllReadyH.nil
          have cp7 := RR9.keep hba (show w.heap.size + 1 + 1 < w9.heap.size by omega)
          have cp8 := ((cp7.apart hpq (o := D * 3) (.int .i64 st)).apart hpq (o := D * 3 + 1) (.int .i64 ev.sm)).apart hpq (o := D * 3 + 2) (.bool false)
          have GGa := ((GG9.keep hba (show w.heap.size < w9.heap.size by omega)).set (g' := q) (o := D * 3) (by omega) (.int .i64 st) |>.set (g' := q) (o := D * 3 + 1) (by omega) (.int .i64 ev.sm)).set (g' := q) (o := D * 3 + 2) (by omega) (.bool false)
          have hb0a := HBR9.trans (hba.mono (Nat.le_trans lw8 lw9))
          have HB8' := Lib.hid (below_set3 (o1 := D * 3) (o2 := D * 3 + 1) (o3 := D * 3 + 2) hb0a (show w.heap.size ≤ q by omega) (.int .i64 st) (.int .i64 ev.sm) (.bool false))
          have HE8 := Lib.hid (set3 (e' := ev) HEL.out hDN hoea)
          rw [hes.1, hes.2] at HE8
          have hop7 := HOP.out.below hba
          have HP8 := Lib.hid (own_ent3 (o1 := D * 3) (o2 := D * 3 + 1) (o3 := D * 3 + 2) hop7 (own_ne hop7 hoea) (.int .i64 st) (.int .i64 ev.sm) (.bool false))
          have hga := GGa.g1
          clear hoea hes GG9 RR9 hop7
          go_simp
          refine hK.out _ _ ⟨cp8.c0, hga⟩ (fun hS => ?_)
          clear hK K c0 c1 c2 f0 f1 f2 cp7 hba hb0a hga
          generalize (((wa.setCell ⟨q, D * 3, none⟩ (.int .i64 st)).setCell ⟨q, D * 3 + 1, none⟩ (.int .i64 ev.sm)).setCell ⟨q, D * 3 + 2, none⟩ (.bool false)) = wb at *
          refine wpAnyH_done (by kernel_rfl) ?_ _
          have r0 := cp8.c0
          have rf := cp8.f0
          rw [HNS.out] at HE8
          have k9 : C1 (wb.setCell ⟨w.heap.size + 1 + 1, 0, none⟩ (.slice (some ⟨q, 0, none⟩) N qc)) (w.heap.size + 1 + 1) (.slice (some ⟨q, 0, none⟩) N qc) := C1.set cp8 _
          have HE9 := Lib.hid ((ent_g HE8.out (show q ≠ w.heap.size + 1 + 1 by omega) (o := 0) (.slice (some ⟨q, 0, none⟩) N qc)).less (show w.heap.size ≤ w3.heap.size by omega))
          have HP9 := Lib.hid (own_set (g := w.heap.size + 1 + 1) (o := 0) HP8.out (show w.heap.size + 1 + 1 < w8.heap.size by omega) (.slice (some ⟨q, 0, none⟩) N qc))
          have hw9 := HB8'.out.setCell (p := ⟨w.heap.size + 1 + 1, 0, none⟩) (show w.heap.size ≤ w.heap.size + 1 + 1 by omega) (.slice (some ⟨q, 0, none⟩) N qc)
          clear hS HE8 HP8
          go_wp2_with fail
          have hl9 : (newT D x.es (lists hr) ats (lists br) st).length = N := by rw [newT_length, HND.out]
          exact bodyPost_ret (v := .tuple #[.agg #[(.slice (some ⟨q, 0, none⟩) N qc)], .slice PX 8 pc, .int .i64 0]) (by simp [results, Try.results11, go_sem, k9.c0]) rfl ⟨⟨⟨some ⟨q, 0, none⟩, qc, (newT D x.es (lists hr) ats (lists br) st)⟩, PX, pc, by rw [HND.out], rfl, by unfold tbl.TV.Own; rw [hl9]; exact HE9.out, HP9.out.less lw8⟩, hw9⟩
end Go.Proofs.Ythdahdopejapmaa.stp
