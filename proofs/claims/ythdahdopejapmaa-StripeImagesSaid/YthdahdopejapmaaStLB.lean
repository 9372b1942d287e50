/-
  The law StripeImages, where all is right, walked. Conditions: 'Cst'.
-/
import Derived.Test.YthdahdopejapmaaStQ
import Derived.Test.YthdahdopejapmaaDkQ
import Derived.Deep.RegionHeld3
import Derived.Test.YthdahdopejapmaaTbW
import Derived.Test.YthdahdopejapmaaStLA
import Derived.Deep.CutRange
import Derived.Deep.CutBlock
namespace Go.Proofs.Ythdahdopejapmaa.stp
open Go.RowKit Go.Lib
open Go.Proofs.Ythdahdopejapmaa.gmt (Ok)
open Go.Proofs.Ythdahdopejapmaa.anc (bl kal kst ks bm ka)
open Go.Proofs.Ythdahdopejapmaa.tbl (Ent EntOk C1 c1_new G5 g5_new OwnE)
open Go.Proofs.Ythdahdopejapmaa.par (zx zeros zeros_length zx_length)
open Go.Proofs.Ythdahdopejapmaa.zon
open Go.Proofs.Ythdahdopejapmaa.img
set_option maxRecDepth 100000 in
set_option maxHeartbeats 16000000 in
theorem im_main (z s l a zn : Int) (D : Nat) (x : tbl.TV) (N : Nat) (pA : Option Addr) (pn pc : Nat) (p : List UInt8) (aA : Option Addr) (ac : Nat) (ats : List Int) (m : Nat) (bA : Option Addr) (bc : Nat) (br : List Row) (k : Nat) (w : World) (hc : Cst w) (hN : x.es.length = N) (hx : x.In w w.heap.size) (hpn : p.length = pn) (hp : Sl w w.heap.size pA p) (hpc : pn ≤ pc ∧ pc ≤ maxLen) (hm : ats.length = m) (ha : NV.In w w.heap.size ⟨aA, ac, ats⟩) (hk : br.length = k) (hb : LV.In w w.heap.size ⟨bA, bc, br⟩) (hv : ¬ ((20 < N ∨ 20 < k ∨ ∃ y ∈ lists br, 100 < y.length) ∨ 20 < m ∨ 100 < pn)) (ho : Ok z D s l a) (hg : tbl.Good (D : Int) x.es) (hz : 0 ≤ zn ∧ zn ≤ z - 1) (hat : AtsOk D ats) (hbo : BlkOk m (lists br)) (hp8 : pn = 8) :
    Calls Try.prog 7 #[.agg #[.int .i64 z, .int .i64 D, .int .i64 s, .int .i64 l, .int .i64 a], .int .i64 zn, .agg #[.slice x.A N x.c], .slice pA pn pc, .slice aA m ac, .slice bA k bc] w fun e w' => e = .returned (.bool true) ∧ Below w.heap.size w w' := by
  obtain rfl : k = m := by have := hbo.1; rw [lists_length, hk] at this; exact this
  subst hp8
  have hm0 : 0 < k := by
    rcases Nat.eq_zero_or_pos k with h | h
    · exact absurd (List.eq_nil_of_length_eq_zero (hm.trans h)) hat.1
    · exact h
  have s1 : (w.alloc (.cells #[.int .i64 z, .int .i64 D, .int .i64 s, .int .i64 l, .int .i64 a] 23)).heap.size = w.heap.size + 1 := by simp
  have hx2 := anc.bl (w.alloc (.cells #[.int .i64 z, .int .i64 D, .int .i64 s, .int .i64 l, .int .i64 a] 23)) (.cells #[.slice x.A N x.c] 26)
  have GG := (g5_new w z D s l a).keep hx2 (by omega)
  have TT := c1_new (w.alloc (.cells #[.int .i64 z, .int .i64 D, .int .i64 s, .int .i64 l, .int .i64 a] 23)) (.slice x.A N x.c) 26
  rw [s1] at TT
  have hw := kal (anc.bl w (.cells #[.int .i64 z, .int .i64 D, .int .i64 s, .int .i64 l, .int .i64 a] 23)) (.cells #[.slice x.A N x.c] 26)
  have lT : w.heap.size + 1 < ((w.alloc (.cells #[.int .i64 z, .int .i64 D, .int .i64 s, .int .i64 l, .int .i64 a] 23)).alloc (.cells #[.slice x.A N x.c] 26)).heap.size := by simp
  have HC := Lib.hid hc
  have HAI := Lib.hid (ha.next hw)
  have HAM := Lib.hid hm
  have HBI := Lib.hid (hb.next hw)
  have HBK := Lib.hid hk
  have HXI := Lib.hid (hx.next hw)
  have HNE := Lib.hid hN
  have HPI := Lib.hid (hp.next hw)
  have HPN := Lib.hid hpn
  have HPC := Lib.hid hpc
  clear hc hm ha hk hb hN hx hpn hp hpc s1 hx2
  go_enter Try.func7, Try.ntmps7
  go_upto_region 1 with fail
  generalize ((w.alloc (.cells #[.int .i64 z, .int .i64 D, .int .i64 s, .int .i64 l, .int .i64 a] 23)).alloc (.cells #[.slice x.A N x.c] 26)) = w2 at *
  obtain ⟨g0, g1', g2, g3, g4⟩ := id GG
  have t0 := TT.c0
  have HHV := Lib.hid (heavy_c false x.A bA N x.c k bc br w2 HBK.out HBI.out.h HBI.out.r (iff_of_false Bool.false_ne_true fun h => hv (.inl h)))
  have h2 : ¬ (20 : Int) < (k : Int) := by omega
  have h3 : ¬ (100 : Int) < ((8 : Nat) : Int) := by omega
  have HO := Lib.hid ho
  have HG := Lib.hid hg
  have HAT := Lib.hid hat
  have HBO := Lib.hid hbo.2
  have hN20 : N ≤ 20 := by omega
  have hk20 : k ≤ 20 := by omega
  have HIM := Lib.hid (show ∀ W, Below w2.heap.size w2 W → Calls Try.prog 12 #[.agg #[.int .i64 z, .int .i64 D, .int .i64 s, .int .i64 l, .int .i64 a], .int .i64 zn, .agg #[.slice x.A N x.c], .slice pA 8 pc, .slice aA k ac, .slice bA k bc] W fun e w' => (∃ (A : Option Addr) (c : Nat) (rs : List ImR), e = .returned (.tuple #[.slice A (k + 2 : Nat) c, .int .i64 0]) ∧ ids rs = imgL zn x.es p ats (lists br) ∧ IV.In w' w'.heap.size ⟨A, c, rs⟩) ∧ Below W.heap.size W w' from fun W hW => by
    have h9 := HC.out.images z s l a zn D x N pA pc p ⟨aA, ac, ats⟩ k ⟨bA, bc, br⟩ W (bt hw hW) HO.out (HXI.out.next hW) HNE.out HG.out hz (HPI.out.next hW) HPC.out HPN.out (HAI.out.next hW) HAM.out (by omega) HAT.out (HBI.out.next hW) HBK.out HBO.out
    unfold ImZ at h9
    rw [imgL_length, HAM.out] at h9
    exact h9)
  have hD4 : D ≤ 4 ∧ 1 ≤ D := by have := ho.2.1; omega
  clear hv hz ho hg hat hbo
  have HMG := Lib.hid (show ∀ W, Below w2.heap.size w2 W → (W.cell? ⟨w.heap.size, 0, none⟩ = some (.int .i64 z) ∧ W.cell? ⟨w.heap.size, 1, none⟩ = some (.int .i64 D) ∧ W.cell? ⟨w.heap.size, 2, none⟩ = some (.int .i64 s) ∧ W.cell? ⟨w.heap.size, 3, none⟩ = some (.int .i64 l) ∧ W.cell? ⟨w.heap.size, 4, none⟩ = some (.int .i64 a)) ∧ W.cell? ⟨w.heap.size + 1, 0, none⟩ = some (.slice x.A N x.c) from fun W h => ⟨⟨kst h (by omega) g0, kst h (by omega) g1', kst h (by omega) g2, kst h (by omega) g3, kst h (by omega) g4⟩, kst h lT t0⟩)
  go_upto_region 7 with (first
    | (go_at_call 8; (with_reducible refine HHV.out.mono ?_); rintro e w3 ⟨rfl, hb3⟩; clear g0 g1' g2 g3 g4 t0; obtain ⟨⟨g0, g1', g2, g3, g4⟩, t0⟩ := HMG.out _ hb3)
    | (go_at_call 12; (with_reducible refine (HIM.out _ hb3).mono ?_); rintro e w4 ⟨⟨A, c, rs, rfl, hids, hin⟩, hb4⟩; have hb34 := bt hb3 hb4))
  replace GG := GG.keep hb34 (by omega)
  replace TT := TT.keep hb34 lT
  replace lT := Nat.lt_of_lt_of_le lT hb34.size
  replace hw := bt hw hb34
  replace HAI := Lib.hid (HAI.out.next hb34)
  replace HBI := Lib.hid (HBI.out.next hb34)
  replace HXI := Lib.hid (HXI.out.next hb34)
  replace HPI := Lib.hid (HPI.out.next hb34)
  have HID := Lib.hid hids
  have HIN := Lib.hid hin
  clear hids hin hb34 hb3 hb4 HIM HHV g0 g1' g2 g3 g4 t0 HMG
  have q1 : (((k + 2 : Nat) : Int) != (k : Int) + 2) = false := by rw [show ((k + 2 : Nat) : Int) = (k : Int) + 2 by omega]; exact bne_self_eq_false _
  have q2 : ((k : Int) != (k : Int)) = false := bne_self_eq_false _
  go_upto_region 10 with fail
  clear q1 q2
  go_loopw [16] (fun i w' => ∃ j : Nat, j ≤ k ∧ i = .int .i64 j ∧ Below w4.heap.size w4 w') (fun i _ => k - (RowKit.intOf i).toNat)
  case atStart => exact ⟨0, by omega, rfl, Below.refl _ _⟩
  case round =>
    obtain ⟨w5, rfl⟩ : ∃ y, y = wr := ⟨wr, rfl⟩
    obtain ⟨j, hj, rfl, hbr⟩ := hrel
    have lw := hbr.size
    have hrl : rs.length = k + 2 := by
      have := congrArg List.length HID.out
      rw [ids_length, imgL_length, HAM.out] at this
      exact this
    by_cases hlt : j < k
    · have j1 : (j : Int) < (k : Int) := by omega
      have j2 : (j : Int) < (k : Int) + 2 := by omega
      obtain ⟨bi, oi, r, hA, hbi, r0, r1, r2, hri, -, -, e1⟩ := img_at (HIN.out.next hbr).h (HIN.out.next hbr).i (show j < rs.length by omega)
      change A = _ at hA
      subst hA
      obtain ⟨bn, on, hN', hbn, hcs⟩ := (HAI.out.next hbr).h (by rw [ints_length]; show 0 < ats.length; rw [HAM.out]; exact hm0)
      change aA = _ at hN'
      subst hN'
      have ga := hcs j (by rw [ints_length]; show j < ats.length; rw [HAM.out]; exact hlt)
      rw [ints_get] at ga
      have hei : ats[j]? = some (ats[j]'(by rw [HAM.out]; exact hlt)) := List.getElem?_eq_getElem (by rw [HAM.out]; exact hlt)
      change w5.cell? _ = some (.int .i64 (ats[j]'(by rw [HAM.out]; exact hlt))) at ga
      generalize (ats[j]'(by rw [HAM.out]; exact hlt)) = y at *
      obtain ⟨b2, o2, q, hB, hb2, gr, hqs, -, -, q1⟩ := row_at (HBI.out.next hbr).h (HBI.out.next hbr).r (show j < br.length by rw [HBK.out]; exact hlt)
      change bA = _ at hB
      subst hB
      have hd : r.d = (zn, y, q.l) := by
        rw [HID.out, imgL_get hei, hadK_get q1] at e1
        exact (Option.some.inj e1).symm
      have hrz : r.z = zn := congrArg (fun u => u.1) hd
      have hrw : r.wh = y := congrArg (fun u => u.2.1) hd
      have hrl' : r.l = q.l := congrArg (fun u => u.2.2) hd
      have h8 := HBO.out q.l (List.mem_of_getElem? q1)
      rw [hrz] at r0
      rw [hrw] at r1
      have HKB := Lib.hid (show ∀ W, Below w5.heap.size w5 W → Calls Try.prog 24 #[.slice r.A r.l.length r.c, .slice q.A q.l.length q.c] W fun e w' => e = .returned (.bool true) ∧ Below W.heap.size W w' from fun W hW => keep_c true r.A q.A r.l.length q.l.length r.c q.c r.l q.l W rfl rfl (by rw [hrl', h8]; decide) (hri.1.next hW) (hqs.next hW) (iff_of_true rfl hrl'))
      have q1 : (zn != zn) = false := bne_self_eq_false _
      have q2 : (y != y) = false := bne_self_eq_false _
      have HF := Lib.hid (show ∀ W, Below w5.heap.size w5 W → W.cell? ⟨bi, oi + j * 3, none⟩ = some (.int .i64 zn) ∧ W.cell? ⟨bi, oi + j * 3 + 1, none⟩ = some (.int .i64 y) ∧ W.cell? ⟨bi, oi + j * 3 + 2, none⟩ = some (.slice r.A r.l.length r.c) ∧ W.cell? ⟨bn, on + j, none⟩ = some (.int .i64 y) ∧ W.cell? ⟨b2, o2 + j, none⟩ = some (.slice q.A q.l.length q.c) ∧ Below w5.heap.size w5 W from fun W h => ⟨kst h hbi r0, kst h hbi r1, kst h hbi r2, kst h hbn ga, kst h hb2 gr, h⟩)
      clear hei e1 q1 hcs hd hrz hrw hrl' h8 hri hqs
      have q1 : (zn != zn) = false := bne_self_eq_false _
      go_upto_region 12 with fail
      go_region_held3 (fun W => W.cell? ⟨bi, oi + j * 3, none⟩ = some (.int .i64 zn) ∧ W.cell? ⟨bi, oi + j * 3 + 1, none⟩ = some (.int .i64 y) ∧ W.cell? ⟨bi, oi + j * 3 + 2, none⟩ = some (.slice r.A r.l.length r.c) ∧ W.cell? ⟨bn, on + j, none⟩ = some (.int .i64 y) ∧ W.cell? ⟨b2, o2 + j, none⟩ = some (.slice q.A q.l.length q.c) ∧ Below w5.heap.size w5 W)
        (first
          | with_reducible exact HF.out _ (below_dr (Below.refl _ _))
          | with_reducible exact HF.out _ hbS
          | fail)
        (first
          | (go_at_call 24; (with_reducible refine (HKB.out _ (by first | exact hbS | exact below_dr (Below.refl _ _))).mono ?_); rintro e wx ⟨rfl, hbx⟩; have hbS := bt (below_dr (Below.refl w5.heap.size w5)) hbx)
          | fail)
      have hbw := bt hbr hbS
      clear HF HKB hbx hbS
      go_wp2_with fail
      go_roundw
      case rel => exact ⟨j + 1, by omega, by go_num, hbw⟩
      case measure => simp [RowKit.intOf]; omega
    · have j1 : ¬ (j : Int) < (k : Int) := by omega
      obtain rfl : j = k := by omega
      obtain ⟨bi, oi, rp, hA, hbi, p0, p1, p2, hrp, -, -, ep⟩ := img_at (HIN.out.next hbr).h (HIN.out.next hbr).i (show j < rs.length by omega)
      obtain ⟨bi', oi', rt, hA', -, t0', t1, t2, hrt, -, -, et⟩ := img_at (HIN.out.next hbr).h (HIN.out.next hbr).i (show j + 1 < rs.length by omega)
      change A = _ at hA
      subst hA
      simp only [Option.some.injEq, Addr.mk.injEq, and_true] at hA'
      obtain ⟨rfl, rfl⟩ := hA'
      have hdp : rp.d = (zn, -1, p) := by
        rw [HID.out, imgL_par HAM.out] at ep
        exact (Option.some.inj ep).symm
      have hdt : rt.d = (zn, 255, tbl.encT x.es) := by
        rw [HID.out, imgL_tab HAM.out] at et
        exact (Option.some.inj et).symm
      rw [show rp.z = zn from congrArg (fun u => u.1) hdp] at p0
      rw [show rp.wh = -1 from congrArg (fun u => u.2.1) hdp] at p1
      rw [show rt.z = zn from congrArg (fun u => u.1) hdt] at t0'
      rw [show rt.wh = 255 from congrArg (fun u => u.2.1) hdt] at t1
      have hlp : rp.l = p := congrArg (fun u => u.2.2) hdp
      have hlt' : rt.l = tbl.encT x.es := congrArg (fun u => u.2.2) hdt
      have GG5 := GG.keep hbr (by omega)
      have TT5 := TT.keep hbr lT
      obtain ⟨g0, g1', g2, g3, g4⟩ := id GG5
      have t0 := TT5.c0
      replace lT := Nat.lt_of_lt_of_le lT lw
      have lG : w.heap.size < w5.heap.size := by omega
      have HRD := Lib.hid (show ∀ W, Below w5.heap.size w5 W → Calls Try.prog 29 #[.agg #[.int .i64 z, .int .i64 D, .int .i64 s, .int .i64 l, .int .i64 a], .slice rt.A rt.l.length rt.c] W fun e w' => (∃ t : tbl.TV, e = .returned (.tuple #[.agg #[.slice t.A N t.c], .int .i64 0]) ∧ t.es = x.es ∧ t.Own w' W.heap.size) ∧ Below W.heap.size W w' from fun W hW => by
        obtain ⟨ht1, ht2⟩ := tbl.told_of (Int.natCast_nonneg D) HG.out
        have hl9 : rt.l.length ≤ 1048576 := by rw [hlt', tbl.encT_length, HNE.out]; omega
        rw [Int.toNat_natCast] at ht2
        refine (tbl.tread_any true z s l a D rt.A rt.l.length rt.c rt.l W HO.out rfl hrt.2.1 hrt.2.2 hl9 (hrt.1.next hW) (iff_of_true rfl (by rw [hlt']; exact ht1))).mono ?_
        rintro e w' ⟨h9, hb9⟩
        unfold tbl.RdR at h9
        rw [if_pos rfl, hlt', ht2] at h9
        obtain ⟨t, rfl, hte, hto⟩ := h9
        exact ⟨⟨t, by rw [tbl.TV.v, hte, HNE.out], hte, hto⟩, hb9⟩)
      have HPW := Lib.hid (show ∀ W, Below w5.heap.size w5 W → (W.cell? ⟨bi, oi + j * 3, none⟩ = some (.int .i64 zn) ∧ W.cell? ⟨bi, oi + j * 3 + 1, none⟩ = some (.int .i64 (-1)) ∧ W.cell? ⟨bi, oi + j * 3 + 2, none⟩ = some (.slice rp.A rp.l.length rp.c)) ∧ W.cell? ⟨bi, oi + (j + 1) * 3, none⟩ = some (.int .i64 zn) ∧ W.cell? ⟨bi, oi + (j + 1) * 3 + 1, none⟩ = some (.int .i64 255) from fun W h => ⟨⟨kst h hbi p0, kst h hbi p1, kst h hbi p2⟩, kst h hbi t0', kst h hbi t1⟩)
      have HKB := Lib.hid (show ∀ W, Below w5.heap.size w5 W → Calls Try.prog 24 #[.slice rp.A rp.l.length rp.c, .slice pA 8 pc] W fun e w' => e = .returned (.bool true) ∧ Below W.heap.size W w' from fun W hW => keep_c true rp.A pA rp.l.length 8 rp.c pc rp.l p W rfl HPN.out (by rw [hlp, HPN.out]; decide) (hrp.1.next hW) ((HPI.out.next hbr).next hW) (iff_of_true rfl hlp))
      have HF := Lib.hid (show ∀ W, Below w5.heap.size w5 W → (W.cell? ⟨w.heap.size, 0, none⟩ = some (.int .i64 z) ∧ W.cell? ⟨w.heap.size, 1, none⟩ = some (.int .i64 D) ∧ W.cell? ⟨w.heap.size, 2, none⟩ = some (.int .i64 s) ∧ W.cell? ⟨w.heap.size, 3, none⟩ = some (.int .i64 l) ∧ W.cell? ⟨w.heap.size, 4, none⟩ = some (.int .i64 a)) ∧ W.cell? ⟨w.heap.size + 1, 0, none⟩ = some (.slice x.A N x.c) ∧ W.cell? ⟨bi, oi + (j + 1) * 3 + 2, none⟩ = some (.slice rt.A rt.l.length rt.c) ∧ Below w5.heap.size w5 W from fun W h => ⟨⟨kst h lG g0, kst h lG g1', kst h lG g2, kst h lG g3, kst h lG g4⟩, kst h lT t0, kst h hbi t2, h⟩)
      have j3 : (j : Int) + 1 < (j : Int) + 2 := by omega
      have j4 : (j : Int) < (j : Int) + 2 := by omega
      have j5 : (0 : Int) ≤ (j : Int) + 1 := by omega
      have w8 : IntKind.i64.wrap ((j : Int) + 1) = (j : Int) + 1 := gmt.w6 _ (by omega) (by omega)
      have n8 : ((j : Int) + 1).toNat = j + 1 := by omega
      clear p0 p1 p2 t0' t1 ep et hdp hdt hlp hlt' hrp hrt g0 g1' g2 g3 g4 t0
      obtain ⟨⟨g0, g1', g2, g3, g4⟩, t0, -⟩ := HF.out _ (Below.refl _ _)
      go_upto_region 14 with fail
      go_cut [17, 18] from 166 (fun v u wx => u = .int .i64 0 ∧ ∃ (gU : Nat) (t : tbl.TV), v = .pointer (some ⟨gU, 0, none⟩) ∧ C1 wx gU (.slice t.A N t.c) ∧ t.es = x.es ∧ t.In wx wx.heap.size ∧ gU < wx.heap.size ∧ Below w5.heap.size w5 wx)
      case first =>
        have HCU := Lib.hid (show ∀ W, Below (w5.alloc (.cells #[.slice none 0 0] 26)).heap.size (w5.alloc (.cells #[.slice none 0 0] 26)) W → C1 W w5.heap.size (.slice none 0 0) ∧ Below w5.heap.size w5 W ∧ w5.heap.size < W.heap.size from fun W hW => ⟨(c1_new w5 (.slice none 0 0) 26).keep hW (by simp), bt (bl w5 _) hW, Nat.lt_of_lt_of_le (by simp) hW.size⟩)
        clear HKB HPW
        go_region_held3 (fun W => (W.cell? ⟨w.heap.size, 0, none⟩ = some (.int .i64 z) ∧ W.cell? ⟨w.heap.size, 1, none⟩ = some (.int .i64 D) ∧ W.cell? ⟨w.heap.size, 2, none⟩ = some (.int .i64 s) ∧ W.cell? ⟨w.heap.size, 3, none⟩ = some (.int .i64 l) ∧ W.cell? ⟨w.heap.size, 4, none⟩ = some (.int .i64 a)) ∧ W.cell? ⟨w.heap.size + 1, 0, none⟩ = some (.slice x.A N x.c) ∧ W.cell? ⟨bi, oi + (j + 1) * 3 + 2, none⟩ = some (.slice rt.A rt.l.length rt.c) ∧ Below w5.heap.size w5 W)
          (first
            | with_reducible exact HF.out _ (below_dr (Below.refl _ _))
            | with_reducible exact HF.out _ (below_dr (bl w5 _))
            | with_reducible exact HF.out _ hbS
            | with_reducible exact HF.out _ (kal hbS _)
            | with_reducible exact HF.out _ (hbS.setCell (p := ⟨w5.heap.size, 0, none⟩) (Nat.le_refl _) _)
            | fail)
          (first
            | (go_at_call 29; (with_reducible refine (HRD.out _ (by first | with_reducible exact below_dr (Below.refl w5.heap.size w5) | with_reducible exact below_dr (bl w5 _))).mono ?_); rintro e w6 ⟨⟨t, rfl, hte, hto⟩, hb6⟩; have HTE := Lib.hid hte; clear hte; have hbS : Below w5.heap.size w5 w6 := (by first | with_reducible exact bt (below_dr (Below.refl w5.heap.size w5)) hb6 | with_reducible exact bt (below_dr (bl w5 _)) hb6); try (have hq : Below (w5.alloc (.cells #[.slice none 0 0] 26)).heap.size (w5.alloc (.cells #[.slice none 0 0] 26)) w6 := (by with_reducible exact bt (below_dr (Below.refl (w5.alloc (.cells #[.slice none 0 0] 26)).heap.size (w5.alloc (.cells #[.slice none 0 0] 26)))) hb6); obtain ⟨cu, -, lu⟩ := HCU.out _ hq; clear hq; obtain ⟨u0, uf⟩ := id cu))
            | fail)
        all_goals (go_wp2_with fail; go_meet)
        all_goals (first
          | exact ⟨rfl, w6.heap.size, t, rfl, c1_new w6 _ _, HTE.out, (tbl.TV.Own.inn hto).next (bl w6 _), by simp, kal hbS _⟩
          | exact ⟨rfl, w5.heap.size, t, rfl, C1.set cu _, HTE.out, tbl.TV.Own.inn (t := t) (OwnE.cell_set (g := w5.heap.size) (o := 0) hto (by simp) _), by rw [World.size_setCell]; exact lu, hbS.setCell (p := ⟨w5.heap.size, 0, none⟩) (Nat.le_refl _) _⟩)
      case rest =>
        obtain ⟨w6, rfl⟩ : ∃ y, y = wc := ⟨wc, rfl⟩
        obtain ⟨rfl, gU, t, rfl, cU, hte, hti, lU, hb6⟩ := hcut
        have HKT := Lib.hid (show ∀ W, Below w6.heap.size w6 W → Calls Try.prog 13 #[.agg #[.slice t.A N t.c], .agg #[.slice x.A N x.c]] W fun e w' => e = .returned (.bool true) ∧ Below W.heap.size W w' from fun W hW => by
          have h9 := tbl.tab_same t x W (hti.next hW) ((HXI.out.next (bt hbr hb6)).next hW) (by rw [hte, HNE.out]; omega)
          rw [decide_eq_true hte, tbl.TV.v, tbl.TV.v, hte, HNE.out] at h9
          exact h9)
        have hw6 := bt hw (bt hbr hb6)
        have HWK := Lib.hid (show ∀ W, Below w6.heap.size w6 W → Calls Try.prog 17 #[] W fun e w' => e = .returned (.bool true) ∧ Below W.heap.size W w' from fun W hW => wk_stp W (HC.out.next (bt hw6 hW)))
        have HM6 := Lib.hid (show ∀ W, Below w6.heap.size w6 W → ((W.cell? ⟨bi, oi + j * 3, none⟩ = some (.int .i64 zn) ∧ W.cell? ⟨bi, oi + j * 3 + 1, none⟩ = some (.int .i64 (-1)) ∧ W.cell? ⟨bi, oi + j * 3 + 2, none⟩ = some (.slice rp.A rp.l.length rp.c)) ∧ W.cell? ⟨bi, oi + (j + 1) * 3, none⟩ = some (.int .i64 zn) ∧ W.cell? ⟨bi, oi + (j + 1) * 3 + 1, none⟩ = some (.int .i64 255)) ∧ W.cell? ⟨w.heap.size + 1, 0, none⟩ = some (.slice x.A N x.c) ∧ W.cell? ⟨gU, 0, none⟩ = some (.slice t.A N t.c) from fun W h => ⟨HPW.out _ (bt hb6 h), (HF.out _ (bt hb6 h)).2.1, kst h lU cU.c0⟩)
        have q1 : (zn == zn) = true := beq_self_eq_true _
        have hbZ := Below.refl w6.heap.size w6
        obtain ⟨⟨⟨p0, p1, p2⟩, t0', t1⟩, x0, u0⟩ := HM6.out _ hbZ
        clear HF HPW HRD cU hte hti
        go_wp2_with (first
          | (go_at_call 24; (with_reducible refine (HKB.out _ (bt hb6 hbZ)).mono ?_); rintro e w7 ⟨rfl, hb7⟩; replace hbZ := bt hbZ hb7; clear p0 p1 p2 t0' t1 x0 u0; obtain ⟨⟨⟨p0, p1, p2⟩, t0', t1⟩, x0, u0⟩ := HM6.out _ hbZ)
          | (go_at_call 13; (with_reducible refine (HKT.out _ hbZ).mono ?_); rintro e w8 ⟨rfl, hb8⟩; replace hbZ := bt hbZ hb8; clear p0 p1 p2 t0' t1 x0 u0; obtain ⟨⟨⟨p0, p1, p2⟩, t0', t1⟩, x0, u0⟩ := HM6.out _ hbZ)
          | (go_at_call 17; (with_reducible refine (HWK.out _ hbZ).mono ?_); rintro e w9 ⟨rfl, hb9⟩; replace hbZ := bt hbZ hb9))
        go_ret
        exact ⟨rfl, bt hw6 hbZ⟩
/-- The law. -/
theorem images_law (z s l a zn : Int) (d : Int) (x : tbl.TV) (N : Nat) (pA : Option Addr) (pn pc : Nat) (p : List UInt8) (aA : Option Addr) (ac : Nat) (ats : List Int) (m : Nat) (bA : Option Addr) (bc : Nat) (br : List Row) (k : Nat) (w : World) (hc : Cst w) (hN : x.es.length = N) (hx : x.In w w.heap.size) (hpn : p.length = pn) (hp : Sl w w.heap.size pA p) (hpc : pn ≤ pc ∧ pc ≤ maxLen) (hm : ats.length = m) (ha : NV.In w w.heap.size ⟨aA, ac, ats⟩) (hk : br.length = k) (hb : LV.In w w.heap.size ⟨bA, bc, br⟩) :
    Calls Try.prog 7 #[.agg #[.int .i64 z, .int .i64 d, .int .i64 s, .int .i64 l, .int .i64 a], .int .i64 zn, .agg #[.slice x.A N x.c], .slice pA pn pc, .slice aA m ac, .slice bA k bc] w fun e w' => e = .returned (.bool true) ∧ Below w.heap.size w w' := by
  by_cases hv : (20 < N ∨ 20 < k ∨ ∃ y ∈ lists br, 100 < y.length) ∨ 20 < m ∨ 100 < pn
  · exact im_heavy z s l a zn d x N pA pn pc p aA ac ats m bA bc br k w hc hN hx hpn hp hpc hm ha hk hb hv
  by_cases hog : Ok z d s l a ∧ tbl.Good d x.es
  case neg => exact im_no 1 z s l a zn d x N pA pn pc p aA ac ats m bA bc br k w hc hN hx hpn hp hpc hm ha hk hb hv (.inl ⟨hog, rfl⟩) (by decide)
  by_cases hza : (0 ≤ zn ∧ zn ≤ z - 1) ∧ AtsOk d ats
  case neg => exact im_no 1 z s l a zn d x N pA pn pc p aA ac ats m bA bc br k w hc hN hx hpn hp hpc hm ha hk hb hv (.inr (.inl ⟨hog, hza, rfl⟩)) (by decide)
  by_cases hbp : BlkOk ats.length (lists br) ∧ p.length = 8
  case neg => exact im_no 2 z s l a zn d x N pA pn pc p aA ac ats m bA bc br k w hc hN hx hpn hp hpc hm ha hk hb hv (.inr (.inr ⟨hog, hza, hbp, rfl⟩)) (by decide)
  obtain ⟨D, rfl⟩ : ∃ D : Nat, d = D := ⟨d.toNat, by have := hog.1.2.1; omega⟩
  exact im_main z s l a zn D x N pA pn pc p aA ac ats m bA bc br k w hc hN hx hpn hp hpc hm ha hk hb hv hog.1 hog.2 hza.1 hza.2 (by rw [← hm]; exact hbp.1) (by rw [← hpn]; exact hbp.2)
theorem images_said (z s l a d zn : Int) (x : tbl.TV) (pA : Option Addr) (pc : Nat) (p : List UInt8) (aA : Option Addr) (ac : Nat) (ats : List Int) (bA : Option Addr) (bc : Nat) (br : List Row) (w : World) (hc : Cst w) (hx : x.In w w.heap.size) (hp : Sl w w.heap.size pA p) (hpc : p.length ≤ pc ∧ pc ≤ maxLen) (ha : NV.In w w.heap.size ⟨aA, ac, ats⟩) (hb : LV.In w w.heap.size ⟨bA, bc, br⟩) :
    Calls Try.prog 7 #[.agg #[.int .i64 z, .int .i64 d, .int .i64 s, .int .i64 l, .int .i64 a], .int .i64 zn, x.v, .slice pA p.length pc, .slice aA ats.length ac, .slice bA br.length bc] w fun e w' => e = .returned (.bool true) ∧ Below w.heap.size w w' :=
  images_law z s l a zn d x _ pA _ pc p aA ac ats _ bA bc br _ w hc rfl hx rfl hp hpc rfl ha rfl hb
end Go.Proofs.Ythdahdopejapmaa.stp
