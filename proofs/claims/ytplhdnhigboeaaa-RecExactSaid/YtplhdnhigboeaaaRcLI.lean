/-
  The law RecExact. Conditions: 'Crd'.
-/
import Derived.Test.YtplhdnhigboeaaaRcLG
namespace Go.Proofs.Ytplhdnhigboeaaa.lrc
open Go.RowKit Go.Lib
open Go.Proofs.Ytplhdnhigboeaaa.gmt (Ok)
open Go.Proofs.Ytplhdnhigboeaaa.anc (bl kal kst ks bm ka)
open Go.Proofs.Ytplhdnhigboeaaa.tbl (C1 c1_new G5 g5_new)
open Go.Proofs.Ytplhdnhigboeaaa.img

set_option maxRecDepth 100000 in
set_option maxHeartbeats 8000000 in
theorem exact_main (z d s l a sq ep cp sl : Int) (r : RcR) (n : Nat) (gA : Option Addr) (gc : Nat) (grs : List ImR) (m : Nat) (bA : Option Addr) (q bc : Nat) (b : List UInt8) (w : World) (hc : Crd w) (hx : BIn w w.heap.size r.i) (hn : r.i.l.length = n) (hg : IV.In w w.heap.size ⟨gA, gc, grs⟩) (hm : grs.length = m) (hb : Sl w w.heap.size bA b) (hq : b.length = q) (hqc : q ≤ bc ∧ bc ≤ maxLen) (h1 : ¬ Hvy (ids grs)) (h2 : n ≤ 200) (h3 : q ≤ 300) :
    Calls Try.prog 3 #[.agg #[.int .i64 z, .int .i64 d, .int .i64 s, .int .i64 l, .int .i64 a], .agg #[.int .i64 r.kd, .int .i64 r.sq, .int .i64 r.ep, .int .i64 r.ps, .int .i64 r.nm, .int .i64 r.i.z, .int .i64 r.i.wh, .slice r.i.A n r.i.c], .slice gA m gc, .slice bA q bc, .int .i64 sq, .int .i64 ep, .int .i64 cp, .int .i64 sl] w fun e w' => e = .returned (.bool true) ∧ Below w.heap.size w w' := by
  have hs0 : ∀ x ∈ grs, x.l.length ≤ 200 := fun x hx9 => Nat.le_of_not_lt fun k => h1 (.inr ⟨x.d, List.mem_map_of_mem hx9, k⟩)
  have hs : ∀ x ∈ grs, x.l.length ≤ 1048576 := fun x hx9 => Nat.le_trans (hs0 x hx9) (by decide)
  have hs2 : ∀ x ∈ ids grs, x.2.2.length ≤ 1048576 := fun x hx9 => by
    obtain ⟨r9, hr9, rfl⟩ := List.mem_map.1 hx9
    exact hs r9 hr9
  have hm40 : m ≤ 40 := by
    have : (ids grs).length ≤ 40 := Nat.le_of_not_lt fun k => h1 (.inl k)
    rw [ids_length] at this
    omega
  obtain ⟨E, xl, hE, cB⟩ := bytes_ex (w := w) z d s l a r n hc hn (by omega)
  obtain ⟨F, D, hF, cR⟩ := read_ex (w := w) z d s l a bA q bc b hc hq hqc.1 hqc.2 (by omega)
  obtain ⟨H, rs, hH, cT⟩ := txn_ex (w := w) z d s l a sq ep (ids grs) m hc (by rw [ids_length, hm]) (by omega) hs2
  obtain ⟨I, cl, hI, cC⟩ := cell_ex (w := w) z d s l a cp sl r n hc hn (by omega)
  have s1 : (w.alloc (.cells #[.int .i64 z, .int .i64 d, .int .i64 s, .int .i64 l, .int .i64 a] 23)).heap.size = w.heap.size + 1 := by simp
  have hx2 := bl (w.alloc (.cells #[.int .i64 z, .int .i64 d, .int .i64 s, .int .i64 l, .int .i64 a] 23)) (.cells #[.int .i64 r.kd, .int .i64 r.sq, .int .i64 r.ep, .int .i64 r.ps, .int .i64 r.nm, .int .i64 r.i.z, .int .i64 r.i.wh, .slice r.i.A n r.i.c] 28)
  have GG := (g5_new w z d s l a).keep hx2 (by omega)
  have RR := c8_new (w.alloc (.cells #[.int .i64 z, .int .i64 d, .int .i64 s, .int .i64 l, .int .i64 a] 23)) (.int .i64 r.kd) (.int .i64 r.sq) (.int .i64 r.ep) (.int .i64 r.ps) (.int .i64 r.nm) (.int .i64 r.i.z) (.int .i64 r.i.wh) (.slice r.i.A n r.i.c) 28
  rw [s1] at RR
  have hw := kal (bl w (.cells #[.int .i64 z, .int .i64 d, .int .i64 s, .int .i64 l, .int .i64 a] 23)) (.cells #[.int .i64 r.kd, .int .i64 r.sq, .int .i64 r.ep, .int .i64 r.ps, .int .i64 r.nm, .int .i64 r.i.z, .int .i64 r.i.wh, .slice r.i.A n r.i.c] 28)
  have l2 : w.heap.size + 1 < ((w.alloc (.cells #[.int .i64 z, .int .i64 d, .int .i64 s, .int .i64 l, .int .i64 a] 23)).alloc (.cells #[.int .i64 r.kd, .int .i64 r.sq, .int .i64 r.ep, .int .i64 r.ps, .int .i64 r.nm, .int .i64 r.i.z, .int .i64 r.i.wh, .slice r.i.A n r.i.c] 28)).heap.size := by simp
  have KS : ExS z d s l a r n ⟨gA, gc, grs⟩ bA b w.heap.size ((w.alloc (.cells #[.int .i64 z, .int .i64 d, .int .i64 s, .int .i64 l, .int .i64 a] 23)).alloc (.cells #[.int .i64 r.kd, .int .i64 r.sq, .int .i64 r.ep, .int .i64 r.ps, .int .i64 r.nm, .int .i64 r.i.z, .int .i64 r.i.wh, .slice r.i.A n r.i.c] 28)) := ⟨GG, RR, l2, hx.next hw, hg.next hw, hb.next hw⟩
  clear s1 hx2 GG RR l2
  have HE := Lib.hid hE
  have HF := Lib.hid hF
  have HH := Lib.hid hH
  have HI := Lib.hid hI
  have HB := Lib.hid cB
  have HR := Lib.hid cR
  have HT := Lib.hid cT
  have HC := Lib.hid cC
  have HCR := Lib.hid hc
  have HN := Lib.hid hn
  have HM := Lib.hid hm
  have HQ := Lib.hid hq
  have HQC := Lib.hid hqc
  have HSH := Lib.hid hs
  have HLE := Lib.hid (show n ≤ 200 ∧ q ≤ 300 ∧ m ≤ 40 by omega)
  have HHV := Lib.hid (show ∀ W, IV.In W W.heap.size ⟨gA, gc, grs⟩ → Calls Try.prog 9 #[.slice gA m gc] W fun e w' => e = .returned (.bool false) ∧ Below W.heap.size W w' from fun W hW => heavy15 false gA gc grs m W hW hm (iff_of_false Bool.false_ne_true h1))
  have HTW := Lib.hid (show ∀ W, IV.In W W.heap.size ⟨gA, gc, grs⟩ → Calls Try.prog 10 #[.slice gA m gc] W fun e w' => (∃ (A : Option Addr) (c : Nat) (qs : List ImR), e = .returned (.slice A m c) ∧ ids qs = ids grs ∧ qs.length = m ∧ IV.In w' w'.heap.size ⟨A, c, qs⟩) ∧ Below W.heap.size W w' from fun W hW => timgs_k ⟨gA, gc, grs⟩ m W hW hm (by omega) hs)
  have i1 : ¬ (200 : Int) < (n : Int) := by omega
  have i2 : ¬ (300 : Int) < (q : Int) := by omega
  clear hs0 hs hs2 hm40 hE cB hF cR hH cT hI cC hc hx hn hg hm hb hq hqc h1 h2 h3
  go_enter Try.func3, Try.ntmps3
  go_upto_region 1 with fail
  generalize ((w.alloc (.cells #[.int .i64 z, .int .i64 d, .int .i64 s, .int .i64 l, .int .i64 a] 23)).alloc (.cells #[.int .i64 r.kd, .int .i64 r.sq, .int .i64 r.ep, .int .i64 r.ps, .int .i64 r.nm, .int .i64 r.i.z, .int .i64 r.i.wh, .slice r.i.A n r.i.c] 28)) = w2 at *
  obtain ⟨g0, g1, g2, g3, g4⟩ := id KS.gg
  obtain ⟨r0, r1, r2, r3, r4, r5, r6, r7⟩ := id KS.rr
  go_upto_region 3 with (go_at_call 9; (with_reducible refine (HHV.out _ KS.im).mono ?_); rintro e w3 ⟨rfl, hb3⟩; (replace KS := KS.next hb3); (replace hw := bt hw hb3); (clear g0 g1 g2 g3 g4 r0 r1 r2 r3 r4 r5 r6 r7); (obtain ⟨g0, g1, g2, g3, g4⟩ := id KS.gg); (obtain ⟨r0, r1, r2, r3, r4, r5, r6, r7⟩ := id KS.rr))
  go_upto_region 4 with (go_at_call 10; (with_reducible refine (HTW.out _ KS.im).mono ?_); rintro e w4 ⟨⟨iA, ic, irs, rfl, hid, hil, hii⟩, hb4⟩; (replace KS := KS.next hb4); (replace hw := bt hw hb4); (clear g0 g1 g2 g3 g4 r0 r1 r2 r3 r4 r5 r6 r7); (obtain ⟨g0, g1, g2, g3, g4⟩ := id KS.gg); (obtain ⟨r0, r1, r2, r3, r4, r5, r6, r7⟩ := id KS.rr))
  go_upto_region 5 with (go_at_call 11; (with_reducible refine (HB.out _ hw KS.ri).mono ?_); rintro e w5 ⟨⟨X, xc, rfl, hxs⟩, hb5⟩; (replace hii := hii.next hb5); (replace KS := KS.next hb5); (replace hw := bt hw hb5); (clear g0 g1 g2 g3 g4 r0 r1 r2 r3 r4 r5 r6 r7); (obtain ⟨g0, g1, g2, g3, g4⟩ := id KS.gg); (obtain ⟨r0, r1, r2, r3, r4, r5, r6, r7⟩ := id KS.rr))
  go_upto_region 6 with (go_at_call 12; (with_reducible refine (HR.out _ hw KS.bb).mono ?_); rintro e w6 ⟨⟨y, k, rfl, hyl, hk1, hyd, hyi⟩, hb6⟩; (replace hii := hii.next hb6); (replace hxs := hxs.next hb6); (replace KS := KS.next hb6); (replace hw := bt hw hb6); (clear g0 g1 g2 g3 g4 r0 r1 r2 r3 r4 r5 r6 r7); (obtain ⟨g0, g1, g2, g3, g4⟩ := id KS.gg); (obtain ⟨r0, r1, r2, r3, r4, r5, r6, r7⟩ := id KS.rr))
  have YY := c8_new w6 (.int .i64 y.kd) (.int .i64 y.sq) (.int .i64 y.ep) (.int .i64 y.ps) (.int .i64 y.nm) (.int .i64 y.i.z) (.int .i64 y.i.wh) (.slice y.i.A k y.i.c) 28
  have ly : w6.heap.size < (w6.alloc (.cells #[.int .i64 y.kd, .int .i64 y.sq, .int .i64 y.ep, .int .i64 y.ps, .int .i64 y.nm, .int .i64 y.i.z, .int .i64 y.i.wh, .slice y.i.A k y.i.c] 28)).heap.size := by simp
  have b7 := bl w6 (.cells #[.int .i64 y.kd, .int .i64 y.sq, .int .i64 y.ep, .int .i64 y.ps, .int .i64 y.nm, .int .i64 y.i.z, .int .i64 y.i.wh, .slice y.i.A k y.i.c] 28)
  replace KS := KS.next b7
  replace hw := bt hw b7
  replace hii := hii.next b7
  replace hxs := hxs.next b7
  replace hyi := hyi.next b7
  clear b7 g0 g1 g2 g3 g4 r0 r1 r2 r3 r4 r5 r6 r7
  generalize hgy : w6.heap.size = gy at *
  clear hgy
  generalize w6.alloc (.cells #[.int .i64 y.kd, .int .i64 y.sq, .int .i64 y.ep, .int .i64 y.ps, .int .i64 y.nm, .int .i64 y.i.z, .int .i64 y.i.wh, .slice y.i.A k y.i.c] 28) = w7 at *
  obtain ⟨g0, g1, g2, g3, g4⟩ := id KS.gg
  obtain ⟨r0, r1, r2, r3, r4, r5, r6, r7⟩ := id KS.rr
  go_upto_region 7 with (go_at_call 13; (with_reducible refine (HT.out _ ⟨iA, ic, irs⟩ hw hii hid).mono ?_); rintro e w8 ⟨⟨tA, tc, ts, rfl, htr, hts, hti⟩, hb8⟩; (replace hii := hii.next hb8); (replace hxs := hxs.next hb8); (replace YY := YY.keep hb8 ly); (replace ly := Nat.lt_of_lt_of_le ly hb8.size); (replace hyi := hyi.next hb8); (replace KS := KS.next hb8); (replace hw := bt hw hb8); (clear g0 g1 g2 g3 g4 r0 r1 r2 r3 r4 r5 r6 r7); (obtain ⟨g0, g1, g2, g3, g4⟩ := id KS.gg); (obtain ⟨r0, r1, r2, r3, r4, r5, r6, r7⟩ := id KS.rr))
  go_upto_region 8 with (go_at_call 14; (with_reducible refine (HC.out _ hw KS.ri).mono ?_); rintro e w9 ⟨⟨cA, cc, rfl, hcs⟩, hb9⟩; (replace hii := hii.next hb9); (replace hxs := hxs.next hb9); (replace YY := YY.keep hb9 ly); (replace ly := Nat.lt_of_lt_of_le ly hb9.size); (replace hyi := hyi.next hb9); (replace hts := hts.next hb9); (replace hti := hti.next hb9); (replace KS := KS.next hb9); (replace hw := bt hw hb9); (clear g0 g1 g2 g3 g4 r0 r1 r2 r3 r4 r5 r6 r7); (obtain ⟨g0, g1, g2, g3, g4⟩ := id KS.gg); (obtain ⟨r0, r1, r2, r3, r4, r5, r6, r7⟩ := id KS.rr))
  go_upto_region 9 with fail
  have NN := c8_new w9 (.int .i64 0) (.int .i64 0) (.int .i64 0) (.int .i64 0) (.int .i64 0) (.int .i64 0) (.int .i64 0) (.slice none 0 0) 28
  have b10 := bl w9 (.cells #[.int .i64 0, .int .i64 0, .int .i64 0, .int .i64 0, .int .i64 0, .int .i64 0, .int .i64 0, .slice none 0 0] 28)
  have KT : ExT ⟨iA, ic, irs⟩ X xl gy y k tA ts cA cl w9.heap.size (w9.alloc (.cells #[.int .i64 0, .int .i64 0, .int .i64 0, .int .i64 0, .int .i64 0, .int .i64 0, .int .i64 0, .slice none 0 0] 28)) := ⟨hii.next b10, hxs.next b10, YY.keep b10 ly, Nat.lt_of_lt_of_le ly b10.size, hyi.next b10, hts.next b10, hti.next b10, hcs.next b10, NN, by simp⟩
  replace KS := KS.next b10
  replace hw := bt hw b10
  clear b10 hii hxs YY ly hyi hts hti hcs NN g0 g1 g2 g3 g4 r0 r1 r2 r3 r4 r5 r6 r7
  generalize w9.heap.size = gn at *
  generalize w9.alloc (.cells #[.int .i64 0, .int .i64 0, .int .i64 0, .int .i64 0, .int .i64 0, .int .i64 0, .int .i64 0, .slice none 0 0] 28) = w10 at *
  obtain ⟨g0, g1, g2, g3, g4⟩ := id KS.gg
  obtain ⟨r0, r1, r2, r3, r4, r5, r6, r7⟩ := id KS.rr
  obtain ⟨y0, y1, y2, y3, y4, y5, y6, y7⟩ := id KT.yy
  obtain ⟨n0, n1, n2, n3, n4, n5, n6, n7⟩ := id KT.nn
  have HID := Lib.hid hid
  have HIL := Lib.hid hil
  have HYL := Lib.hid (And.intro hyl hk1)
  have HYD := Lib.hid hyd
  have HTS := Lib.hid htr
  have HKI := Lib.hid (show Calls Try.prog 15 #[.slice iA m ic, .slice gA m gc] w10 fun e w' => e = .returned (.bool true) ∧ Below w10.heap.size w10 w' from by
    have h9 := img.imgs_any iA gA ic gc m m irs grs w10 hil HM.out KT.ii.h KS.im.h KT.ii.i KS.im.i (by have := HLE.out; omega) (fun r9 hr9 => by
      have h8 : r9.d ∈ ids irs := List.mem_map_of_mem hr9
      rw [hid] at h8
      obtain ⟨q9, hq9, he9⟩ := List.mem_map.1 h8
      have := HSH.out q9 hq9
      rw [show r9.l = q9.l from (congrArg (fun x => x.2.2) he9).symm]
      exact this)
    rw [decide_eq_true hid] at h9
    exact h9)
  clear hid hil hyl hk1 hyd htr HB HR HT HC HHV HTW i1 i2
  go_upto_region 11 with (go_at_call 15; (with_reducible refine HKI.out.mono ?_); rintro e w11 ⟨rfl, hb11⟩; (replace KS := KS.next hb11); (replace KT := KT.next hb11); (replace hw := bt hw hb11); (clear g0 g1 g2 g3 g4 r0 r1 r2 r3 r4 r5 r6 r7); (clear y0 y1 y2 y3 y4 y5 y6 y7 n0 n1 n2 n3 n4 n5 n6 n7); (obtain ⟨g0, g1, g2, g3, g4⟩ := id KS.gg); (obtain ⟨r0, r1, r2, r3, r4, r5, r6, r7⟩ := id KS.rr); (obtain ⟨y0, y1, y2, y3, y4, y5, y6, y7⟩ := id KT.yy); (obtain ⟨n0, n1, n2, n3, n4, n5, n6, n7⟩ := id KT.nn))
  by_cases ho : Ok z d s l a
  case neg =>
    have hE1 : E = 1 ∧ xl = [] := by
      rcases HE.out with ⟨-, h, -⟩ | ⟨h, -, h2⟩
      · exact absurd h.1 ho
      · exact ⟨h, h2⟩
    have hF1 : F = 1 ∧ D = noRec := by
      rcases HF.out with ⟨-, h, -⟩ | ⟨h, h2⟩
      · exact absurd h.1 ho
      · rcases h with ⟨-, h⟩ | ⟨h, -⟩
        · exact ⟨h, h2⟩
        · exact absurd h ho
    have hH1 : H = 1 ∧ rs = [] := by
      rcases HH.out with ⟨-, h, -⟩ | ⟨h, h2⟩
      · exact absurd h ho
      · rcases h with ⟨-, h⟩ | ⟨h, -⟩ | ⟨h, -⟩
        · exact ⟨h, h2⟩
        · exact absurd h ho
        · exact absurd h ho
    have hI1 : I = 1 ∧ cl = [] := by
      rcases HI.out with ⟨-, h, -⟩ | ⟨h, -, h2⟩
      · exact absurd h.1.1 ho
      · exact ⟨h, h2⟩
    obtain ⟨rfl, rfl⟩ := hE1
    obtain ⟨rfl, rfl⟩ := hF1
    obtain ⟨rfl, rfl⟩ := hH1
    obtain ⟨rfl, rfl⟩ := hI1
    have hts0 : ts = [] := List.eq_nil_of_length_eq_zero (by rw [← rds_length, HTS.out]; rfl)
    subst hts0
    have HG := Lib.hid fun W => gmt.rgeo_at false z d s l a W (iff_of_false Bool.false_ne_true ho)
    have HCK := Lib.hid (show ∀ W, Below w.heap.size w W → BIn W W.heap.size r.i → Calls Try.prog 17 #[.agg #[.int .i64 z, .int .i64 d, .int .i64 s, .int .i64 l, .int .i64 a], .agg #[.int .i64 r.kd, .int .i64 r.sq, .int .i64 r.ep, .int .i64 r.ps, .int .i64 r.nm, .int .i64 r.i.z, .int .i64 r.i.wh, .slice r.i.A n r.i.c]] W fun e w' => e = .returned (.int .i64 1) ∧ Below W.heap.size W w' from fun W hW hx => HCR.out.check false z d s l a r n W hW hx HN.out (by have := HLE.out; omega) (iff_of_false Bool.false_ne_true fun h => ho h.1))
    have HIG := Lib.hid (show ∀ W, Below w.heap.size w W → BIn W W.heap.size r.i → Calls Try.prog 18 #[.agg #[.int .i64 z, .int .i64 d, .int .i64 s, .int .i64 l, .int .i64 a], .agg #[.int .i64 r.i.z, .int .i64 r.i.wh, .slice r.i.A n r.i.c]] W fun e w' => e = .returned (.int .i64 1) ∧ Below W.heap.size W w' from fun W hW hx => HCR.out.image false z d s l a r.i n W hW hx HN.out (by have := HLE.out; omega) (iff_of_false Bool.false_ne_true fun h => ho h.1))
    have HKR := Lib.hid (show ∀ W, BIn W W.heap.size y.i → Calls Try.prog 19 #[.agg #[.int .i64 y.kd, .int .i64 y.sq, .int .i64 y.ep, .int .i64 y.ps, .int .i64 y.nm, .int .i64 y.i.z, .int .i64 y.i.wh, .slice y.i.A k y.i.c], .agg #[.int .i64 0, .int .i64 0, .int .i64 0, .int .i64 0, .int .i64 0, .int .i64 0, .int .i64 0, .slice none 0 0]] W fun e w' => e = .returned (.bool true) ∧ Below W.heap.size W w' from fun W hx => krec_d true y ⟨0, 0, 0, 0, 0, ⟨0, 0, none, 0, []⟩⟩ k 0 W hx ⟨Sl.nil _ _ _, Nat.le_refl _, Nat.zero_le _⟩ HYL.out.1 rfl HYL.out.2 (iff_of_true rfl (HYD.out.trans rfl)))
    have HWK := Lib.hid (show ∀ W, Below w.heap.size w W → Calls Try.prog 20 #[] W fun e w' => e = .returned (.bool true) ∧ Below W.heap.size W w' from fun W hW => wk_rec W (HCR.out.next hW))
    clear ho
    go_wp2_with (first
      | (go_at_call 16; (with_reducible refine (HG.out _).mono ?_); rintro e w12 ⟨rfl, hb12⟩; (replace KS := KS.next hb12); (replace KT := KT.next hb12); (replace hw := bt hw hb12); (clear g0 g1 g2 g3 g4 r0 r1 r2 r3 r4 r5 r6 r7); (clear y0 y1 y2 y3 y4 y5 y6 y7 n0 n1 n2 n3 n4 n5 n6 n7); (obtain ⟨g0, g1, g2, g3, g4⟩ := id KS.gg); (obtain ⟨r0, r1, r2, r3, r4, r5, r6, r7⟩ := id KS.rr); (obtain ⟨y0, y1, y2, y3, y4, y5, y6, y7⟩ := id KT.yy); (obtain ⟨n0, n1, n2, n3, n4, n5, n6, n7⟩ := id KT.nn))
      | (go_at_call 17; (with_reducible refine (HCK.out _ hw KS.ri).mono ?_); rintro e w13 ⟨rfl, hb13⟩; (replace KS := KS.next hb13); (replace KT := KT.next hb13); (replace hw := bt hw hb13); (clear g0 g1 g2 g3 g4 r0 r1 r2 r3 r4 r5 r6 r7); (clear y0 y1 y2 y3 y4 y5 y6 y7 n0 n1 n2 n3 n4 n5 n6 n7); (obtain ⟨g0, g1, g2, g3, g4⟩ := id KS.gg); (obtain ⟨r0, r1, r2, r3, r4, r5, r6, r7⟩ := id KS.rr); (obtain ⟨y0, y1, y2, y3, y4, y5, y6, y7⟩ := id KT.yy); (obtain ⟨n0, n1, n2, n3, n4, n5, n6, n7⟩ := id KT.nn))
      | (go_at_call 18; (with_reducible refine (HIG.out _ hw KS.ri).mono ?_); rintro e w14 ⟨rfl, hb14⟩; (replace KS := KS.next hb14); (replace KT := KT.next hb14); (replace hw := bt hw hb14); (clear g0 g1 g2 g3 g4 r0 r1 r2 r3 r4 r5 r6 r7); (clear y0 y1 y2 y3 y4 y5 y6 y7 n0 n1 n2 n3 n4 n5 n6 n7); (obtain ⟨g0, g1, g2, g3, g4⟩ := id KS.gg); (obtain ⟨r0, r1, r2, r3, r4, r5, r6, r7⟩ := id KS.rr); (obtain ⟨y0, y1, y2, y3, y4, y5, y6, y7⟩ := id KT.yy); (obtain ⟨n0, n1, n2, n3, n4, n5, n6, n7⟩ := id KT.nn))
      | (go_at_call 19; (with_reducible refine (HKR.out _ KT.yi).mono ?_); rintro e w15 ⟨rfl, hb15⟩; (replace KS := KS.next hb15); (replace KT := KT.next hb15); (replace hw := bt hw hb15); (clear g0 g1 g2 g3 g4 r0 r1 r2 r3 r4 r5 r6 r7); (clear y0 y1 y2 y3 y4 y5 y6 y7 n0 n1 n2 n3 n4 n5 n6 n7); (obtain ⟨g0, g1, g2, g3, g4⟩ := id KS.gg); (obtain ⟨r0, r1, r2, r3, r4, r5, r6, r7⟩ := id KS.rr); (obtain ⟨y0, y1, y2, y3, y4, y5, y6, y7⟩ := id KT.yy); (obtain ⟨n0, n1, n2, n3, n4, n5, n6, n7⟩ := id KT.nn))
      | (go_at_call 20; (with_reducible refine (HWK.out _ hw).mono ?_); rintro e w16 ⟨rfl, hb16⟩; (replace hw := bt hw hb16)))
    go_ret
    exact ⟨rfl, hw⟩
  case pos =>
    have hd4 := ho.2.1
    obtain ⟨cR, hcR⟩ := bool_of (RdOk z d b)
    have hFD : F = (if cR = true then 0 else 4) ∧ D = (if cR = true then recN b else noRec) := by
      rcases HF.out with ⟨h, h2, h3⟩ | ⟨h, h3⟩
      · rw [if_pos (hcR.2 h2.2), if_pos (hcR.2 h2.2)]
        exact ⟨h, h3⟩
      · rcases h with ⟨h, -⟩ | ⟨-, h, h2⟩
        · exact absurd ho h
        · rw [if_neg (fun k => h (hcR.1 k)), if_neg (fun k => h (hcR.1 k))]
          exact ⟨h2, h3⟩
    have HG := Lib.hid fun W => gmt.rgeo_at true z d s l a W (iff_of_true rfl ho)
    have HRR := Lib.hid (show ∀ W, Sl W W.heap.size bA b → Calls Try.prog 21 #[.agg #[.int .i64 z, .int .i64 d, .int .i64 s, .int .i64 l, .int .i64 a], .slice bA q bc] W fun e w' => (∃ (u : RcR) (j : Nat), e = .returned (.tuple #[.agg #[.int .i64 u.kd, .int .i64 u.sq, .int .i64 u.ep, .int .i64 u.ps, .int .i64 u.nm, .int .i64 u.i.z, .int .i64 u.i.wh, .slice u.i.A j u.i.c], .bool cR]) ∧ u.i.l.length = j ∧ u.d = D ∧ BIn w' w'.heap.size u.i) ∧ Below W.heap.size W w' from fun W hx => by
      refine (rread_c cR z d s l a bA q bc b W ho HQ.out HQC.out (by have := HLE.out; omega) hx hcR).mono ?_
      rintro e w' ⟨⟨hc9, X9, x9, rfl, hi⟩ | ⟨hc9, rfl⟩, hb⟩
      · refine ⟨⟨⟨_, _, _, _, _, ⟨_, _, X9, x9, (recN b).l⟩⟩, _, by rw [hc9], rfl, ?_, hi⟩, hb⟩
        rw [hFD.2, if_pos hc9]
        rfl
      · refine ⟨⟨⟨0, 0, 0, 0, 0, ⟨0, 0, none, 0, []⟩⟩, 0, by rw [hc9], rfl, ?_, ⟨Sl.nil _ _ _, Nat.le_refl _, Nat.zero_le _⟩⟩, hb⟩
        rw [hFD.2, if_neg (by rw [hc9]; exact Bool.false_ne_true)]
        rfl)
    have HFD := Lib.hid hFD.1
    have HO := Lib.hid ho
    have HD4 := Lib.hid hd4
    clear hFD hcR ho hd4
    go_upto_region 14 with (first
      | (go_at_call 16; (with_reducible refine (HG.out _).mono ?_); rintro e w12 ⟨rfl, hb12⟩; (replace KS := KS.next hb12); (replace KT := KT.next hb12); (replace hw := bt hw hb12); (clear g0 g1 g2 g3 g4 r0 r1 r2 r3 r4 r5 r6 r7); (clear y0 y1 y2 y3 y4 y5 y6 y7 n0 n1 n2 n3 n4 n5 n6 n7); (obtain ⟨g0, g1, g2, g3, g4⟩ := id KS.gg); (obtain ⟨r0, r1, r2, r3, r4, r5, r6, r7⟩ := id KS.rr); (obtain ⟨y0, y1, y2, y3, y4, y5, y6, y7⟩ := id KT.yy); (obtain ⟨n0, n1, n2, n3, n4, n5, n6, n7⟩ := id KT.nn))
      | (go_at_call 21; (with_reducible refine (HRR.out _ KS.bb).mono ?_); rintro e w13 ⟨⟨u, j, rfl, hul, hud, hui⟩, hb13⟩; (replace KS := KS.next hb13); (replace KT := KT.next hb13); (replace hw := bt hw hb13); (clear g0 g1 g2 g3 g4 r0 r1 r2 r3 r4 r5 r6 r7); (clear y0 y1 y2 y3 y4 y5 y6 y7 n0 n1 n2 n3 n4 n5 n6 n7); (obtain ⟨g0, g1, g2, g3, g4⟩ := id KS.gg); (obtain ⟨r0, r1, r2, r3, r4, r5, r6, r7⟩ := id KS.rr); (obtain ⟨y0, y1, y2, y3, y4, y5, y6, y7⟩ := id KT.yy); (obtain ⟨n0, n1, n2, n3, n4, n5, n6, n7⟩ := id KT.nn)))
    have UU := c8_new w13 (.int .i64 u.kd) (.int .i64 u.sq) (.int .i64 u.ep) (.int .i64 u.ps) (.int .i64 u.nm) (.int .i64 u.i.z) (.int .i64 u.i.wh) (.slice u.i.A j u.i.c) 28
    have lu : w13.heap.size < (w13.alloc (.cells #[.int .i64 u.kd, .int .i64 u.sq, .int .i64 u.ep, .int .i64 u.ps, .int .i64 u.nm, .int .i64 u.i.z, .int .i64 u.i.wh, .slice u.i.A j u.i.c] 28)).heap.size := by simp
    have b14 := bl w13 (.cells #[.int .i64 u.kd, .int .i64 u.sq, .int .i64 u.ep, .int .i64 u.ps, .int .i64 u.nm, .int .i64 u.i.z, .int .i64 u.i.wh, .slice u.i.A j u.i.c] 28)
    replace KS := KS.next b14
    replace KT := KT.next b14
    replace hw := bt hw b14
    replace hui := hui.next b14
    clear g0 g1 g2 g3 g4 r0 r1 r2 r3 r4 r5 r6 r7 y0 y1 y2 y3 y4 y5 y6 y7 n0 n1 n2 n3 n4 n5 n6 n7 b14
    generalize w13.heap.size = gu at *
    generalize w13.alloc (.cells #[.int .i64 u.kd, .int .i64 u.sq, .int .i64 u.ep, .int .i64 u.ps, .int .i64 u.nm, .int .i64 u.i.z, .int .i64 u.i.wh, .slice u.i.A j u.i.c] 28) = w14 at *
    obtain ⟨g0, g1, g2, g3, g4⟩ := id KS.gg
    obtain ⟨r0, r1, r2, r3, r4, r5, r6, r7⟩ := id KS.rr
    obtain ⟨y0, y1, y2, y3, y4, y5, y6, y7⟩ := id KT.yy
    obtain ⟨n0, n1, n2, n3, n4, n5, n6, n7⟩ := id KT.nn
    obtain ⟨u0, u1, u2, u3, u4, u5, u6, u7⟩ := id UU
    have HKR := Lib.hid (show Calls Try.prog 19 #[.agg #[.int .i64 y.kd, .int .i64 y.sq, .int .i64 y.ep, .int .i64 y.ps, .int .i64 y.nm, .int .i64 y.i.z, .int .i64 y.i.wh, .slice y.i.A k y.i.c], .agg #[.int .i64 u.kd, .int .i64 u.sq, .int .i64 u.ep, .int .i64 u.ps, .int .i64 u.nm, .int .i64 u.i.z, .int .i64 u.i.wh, .slice u.i.A j u.i.c]] w14 fun e w' => e = .returned (.bool true) ∧ Below w14.heap.size w14 w' from krec_d true y u k j w14 KT.yi hui HYL.out.1 hul HYL.out.2 (iff_of_true rfl (HYD.out.trans hud.symm)))
    clear hul hud
    go_cut [152] from 309 (fun v wc => v = .bool false ∧ Below w14.heap.size w14 wc)
    case first =>
      cases cR
      · have hF0 : F = 4 := HFD.out.trans (if_neg Bool.false_ne_true)
        subst hF0
        go_wp2_with (go_at_call 19; (with_reducible refine HKR.out.mono ?_); rintro e w15 ⟨rfl, hb15⟩)
        go_meet
        case rel => exact ⟨rfl, hb15⟩
      · have hF0 : F = 0 := HFD.out.trans (if_pos rfl)
        subst hF0
        go_wp2_with (go_at_call 19; (with_reducible refine HKR.out.mono ?_); rintro e w15 ⟨rfl, hb15⟩)
        go_meet
        case rel => exact ⟨rfl, hb15⟩
    case rest =>
      obtain ⟨rfl, hbc⟩ := hcut
      obtain ⟨w15, rfl⟩ : ∃ y, y = wc := ⟨wc, rfl⟩
      clear UU lu hui u0 u1 u2 u3 u4 u5 u6 u7 HKR
      replace KS := KS.next hbc
      replace KT := KT.next hbc
      replace hw := bt hw hbc
      clear g0 g1 g2 g3 g4 r0 r1 r2 r3 r4 r5 r6 r7
      clear y0 y1 y2 y3 y4 y5 y6 y7 n0 n1 n2 n3 n4 n5 n6 n7
      obtain ⟨g0, g1, g2, g3, g4⟩ := id KS.gg
      obtain ⟨r0, r1, r2, r3, r4, r5, r6, r7⟩ := id KS.rr
      obtain ⟨y0, y1, y2, y3, y4, y5, y6, y7⟩ := id KT.yy
      obtain ⟨n0, n1, n2, n3, n4, n5, n6, n7⟩ := id KT.nn
      clear hbc
      obtain ⟨cI, hcI⟩ := bool_of (ImOk z d r.i.z r.i.wh r.i.l)
      have HJ1 := Lib.hid (show ∀ W, Below w15.heap.size w15 W → Calls Try.prog 18 #[.agg #[.int .i64 z, .int .i64 d, .int .i64 s, .int .i64 l, .int .i64 a], .agg #[.int .i64 r.i.z, .int .i64 r.i.wh, .slice r.i.A n r.i.c]] W fun e w' => e = .returned (.int .i64 (if cI = true then 0 else 1)) ∧ Below W.heap.size W w' from fun W hW => HCR.out.image cI z d s l a r.i n W (bt hw hW) (KS.ri.next hW) HN.out (by have := HLE.out; omega) (hcI.trans (and_iff_right HO.out).symm))
      have HJ2 := Lib.hid (show ∀ W, Below w15.heap.size w15 W → Calls Try.prog 22 #[.agg #[.int .i64 z, .int .i64 d, .int .i64 s, .int .i64 l, .int .i64 a], .agg #[.int .i64 r.i.z, .int .i64 r.i.wh, .slice r.i.A n r.i.c]] W fun e w' => e = .returned (.bool cI) ∧ Below W.heap.size W w' from fun W hW => rimage_c cI z d s l a r.i n W HO.out (KS.ri.next hW) HN.out hcI)
      have HS := Lib.hid (show ∀ W, Below w15.heap.size w15 W → (W.cell? ⟨w.heap.size, 0, none⟩ = some (.int .i64 z) ∧ W.cell? ⟨w.heap.size, 1, none⟩ = some (.int .i64 d) ∧ W.cell? ⟨w.heap.size, 2, none⟩ = some (.int .i64 s) ∧ W.cell? ⟨w.heap.size, 3, none⟩ = some (.int .i64 l) ∧ W.cell? ⟨w.heap.size, 4, none⟩ = some (.int .i64 a)) ∧ (W.cell? ⟨w.heap.size + 1, 5, none⟩ = some (.int .i64 r.i.z) ∧ W.cell? ⟨w.heap.size + 1, 6, none⟩ = some (.int .i64 r.i.wh) ∧ W.cell? ⟨w.heap.size + 1, 7, none⟩ = some (.slice r.i.A n r.i.c)) ∧ Below w15.heap.size w15 W from fun W hW => by
        have k := KS.next hW
        exact ⟨⟨k.gg.g0, k.gg.g1, k.gg.g2, k.gg.g3, k.gg.g4⟩, ⟨k.rr.c5, k.rr.c6, k.rr.c7⟩, hW⟩)
      have hd0 : Below w15.heap.size w15 w15.drew := below_dr (Below.refl _ _)
      clear hcI
      go_upto_region 16 with fail
      go_cut [162] from 309 (fun v wc => v = .bool false ∧ Below w15.heap.size w15 wc)
      case first =>
        clear g0 g1 g2 g3 g4 r0 r1 r2 r3 r4 r5 r6 r7 y0 y1 y2 y3 y4 y5 y6 y7 n0 n1 n2 n3 n4 n5 n6 n7
        cases cI
        · replace HJ1 : Hid (∀ W, Below w15.heap.size w15 W → Calls Try.prog 18 #[.agg #[.int .i64 z, .int .i64 d, .int .i64 s, .int .i64 l, .int .i64 a], .agg #[.int .i64 r.i.z, .int .i64 r.i.wh, .slice r.i.A n r.i.c]] W fun e w' => e = .returned (.int .i64 1) ∧ Below W.heap.size W w') := HJ1
          go_region_held3 (fun W => (W.cell? ⟨w.heap.size, 0, none⟩ = some (.int .i64 z) ∧ W.cell? ⟨w.heap.size, 1, none⟩ = some (.int .i64 d) ∧ W.cell? ⟨w.heap.size, 2, none⟩ = some (.int .i64 s) ∧ W.cell? ⟨w.heap.size, 3, none⟩ = some (.int .i64 l) ∧ W.cell? ⟨w.heap.size, 4, none⟩ = some (.int .i64 a)) ∧ (W.cell? ⟨w.heap.size + 1, 5, none⟩ = some (.int .i64 r.i.z) ∧ W.cell? ⟨w.heap.size + 1, 6, none⟩ = some (.int .i64 r.i.wh) ∧ W.cell? ⟨w.heap.size + 1, 7, none⟩ = some (.slice r.i.A n r.i.c)) ∧ Below w15.heap.size w15 W)
            ((refine HS.out _ ?_; first
              | with_reducible exact hd0
              | with_reducible exact hh2
              | with_reducible exact hh1
              | fail))
            (first
              | (go_at_call 18; (with_reducible refine (HJ1.out _ hd0).mono ?_); rintro e w16 ⟨rfl, hb16⟩; have hh1 := bt hd0 hb16)
              | (go_at_call 22; (with_reducible refine (HJ2.out _ hh1).mono ?_); rintro e w17 ⟨rfl, hb17⟩; have hh2 := bt hh1 hb17)
              | fail)
          go_wp2_with fail
          go_meet
          case rel => exact ⟨rfl, hh2⟩
        · replace HJ1 : Hid (∀ W, Below w15.heap.size w15 W → Calls Try.prog 18 #[.agg #[.int .i64 z, .int .i64 d, .int .i64 s, .int .i64 l, .int .i64 a], .agg #[.int .i64 r.i.z, .int .i64 r.i.wh, .slice r.i.A n r.i.c]] W fun e w' => e = .returned (.int .i64 0) ∧ Below W.heap.size W w') := HJ1
          go_region_held3 (fun W => (W.cell? ⟨w.heap.size, 0, none⟩ = some (.int .i64 z) ∧ W.cell? ⟨w.heap.size, 1, none⟩ = some (.int .i64 d) ∧ W.cell? ⟨w.heap.size, 2, none⟩ = some (.int .i64 s) ∧ W.cell? ⟨w.heap.size, 3, none⟩ = some (.int .i64 l) ∧ W.cell? ⟨w.heap.size, 4, none⟩ = some (.int .i64 a)) ∧ (W.cell? ⟨w.heap.size + 1, 5, none⟩ = some (.int .i64 r.i.z) ∧ W.cell? ⟨w.heap.size + 1, 6, none⟩ = some (.int .i64 r.i.wh) ∧ W.cell? ⟨w.heap.size + 1, 7, none⟩ = some (.slice r.i.A n r.i.c)) ∧ Below w15.heap.size w15 W)
            ((refine HS.out _ ?_; first
              | with_reducible exact hd0
              | with_reducible exact hh2
              | with_reducible exact hh1
              | fail))
            (first
              | (go_at_call 18; (with_reducible refine (HJ1.out _ hd0).mono ?_); rintro e w16 ⟨rfl, hb16⟩; have hh1 := bt hd0 hb16)
              | (go_at_call 22; (with_reducible refine (HJ2.out _ hh1).mono ?_); rintro e w17 ⟨rfl, hb17⟩; have hh2 := bt hh1 hb17)
              | fail)
          go_wp2_with fail
          go_meet
          case rel => exact ⟨rfl, hh2⟩
      case rest =>
        obtain ⟨rfl, hbc⟩ := hcut
        obtain ⟨w17, rfl⟩ : ∃ y, y = wc := ⟨wc, rfl⟩
        clear HJ1 HJ2 HS hd0
        replace KS := KS.next hbc
        replace KT := KT.next hbc
        replace hw := bt hw hbc
        clear g0 g1 g2 g3 g4 r0 r1 r2 r3 r4 r5 r6 r7
        clear y0 y1 y2 y3 y4 y5 y6 y7 n0 n1 n2 n3 n4 n5 n6 n7
        obtain ⟨g0, g1, g2, g3, g4⟩ := id KS.gg
        obtain ⟨r0, r1, r2, r3, r4, r5, r6, r7⟩ := id KS.rr
        obtain ⟨y0, y1, y2, y3, y4, y5, y6, y7⟩ := id KT.yy
        obtain ⟨n0, n1, n2, n3, n4, n5, n6, n7⟩ := id KT.nn
        clear hbc
        go_upto_region 19 with fail
        go_cut [176] from 309 (fun v wc => (∃ c1 : Bool, v = .bool c1 ∧ (c1 = true ↔ ¬ (NumOk sq ∧ NumOk ep))) ∧ wc = w17)
        case first =>
          by_cases a1 : sq < 0
          · have H1 := Lib.hid (show ¬ (NumOk sq ∧ NumOk ep) from fun h => by have := h.1.1; omega)
            go_wp2_with fail
            go_meet
            case rel => exact ⟨⟨true, rfl, iff_of_true rfl H1.out⟩, rfl⟩
          by_cases a2 : 4294967295 < sq
          · have H1 := Lib.hid (show ¬ (NumOk sq ∧ NumOk ep) from fun h => by have := h.1.2; omega)
            go_wp2_with fail
            go_meet
            case rel => exact ⟨⟨true, rfl, iff_of_true rfl H1.out⟩, rfl⟩
          by_cases a3 : ep < 0
          · have H1 := Lib.hid (show ¬ (NumOk sq ∧ NumOk ep) from fun h => by have := h.2.1; omega)
            go_wp2_with fail
            go_meet
            case rel => exact ⟨⟨true, rfl, iff_of_true rfl H1.out⟩, rfl⟩
          by_cases a4 : 4294967295 < ep
          · have H1 := Lib.hid (show ¬ (NumOk sq ∧ NumOk ep) from fun h => by have := h.2.2; omega)
            go_wp2_with fail
            go_meet
            case rel => exact ⟨⟨true, rfl, iff_of_true rfl H1.out⟩, rfl⟩
          · have H1 := Lib.hid (show NumOk sq ∧ NumOk ep from ⟨⟨by omega, by omega⟩, by omega, by omega⟩)
            go_wp2_with fail
            go_meet
            case rel => exact ⟨⟨false, rfl, iff_of_false Bool.false_ne_true fun h => h H1.out⟩, rfl⟩
        case rest =>
          obtain ⟨⟨c1, rfl, hc1⟩, hwc⟩ := hcut
          have hwc2 := hwc.symm
          clear hwc
          subst hwc2
          have HC1 := Lib.hid hc1
          clear hc1
          go_upto_if 176 with fail
          go_cut [29] from 309 (fun v wc => (∃ V : Int, v = .int .i64 V ∧ ((V = 0 ∧ NumOk sq ∧ NumOk ep) ∨ (V = 1 ∧ ¬ (NumOk sq ∧ NumOk ep)))) ∧ wc = w17)
          case first =>
            cases c1
            · have H1 := Lib.hid (show NumOk sq ∧ NumOk ep from Classical.byContradiction fun h => absurd (HC1.out.2 h) Bool.false_ne_true)
              clear HC1
              go_wp2_with fail
              go_meet
              case rel => exact ⟨⟨0, rfl, .inl ⟨rfl, H1.out⟩⟩, rfl⟩
            · have H1 := Lib.hid (HC1.out.1 rfl)
              clear HC1
              go_wp2_with fail
              go_meet
              case rel => exact ⟨⟨1, rfl, .inr ⟨rfl, H1.out⟩⟩, rfl⟩
          case rest =>
            obtain ⟨⟨V, rfl, hV⟩, hwc⟩ := hcut
            have hwc2 := hwc.symm
            clear hwc HC1
            subst hwc2
            have HV := Lib.hid hV
            clear hV
            go_upto_region 22 with fail
            go_loopw [29, 30] (fun v i w' => ∃ (k9 : Nat) (V : Int), k9 ≤ m ∧ i = .int .i64 k9 ∧ v = .int .i64 V ∧ ((V = 0 ∧ (NumOk sq ∧ NumOk ep) ∧ ∀ x ∈ (ids grs).take k9, ImOk z d x.1 x.2.1 x.2.2) ∨ (V = 1 ∧ ¬ (NumOk sq ∧ NumOk ep ∧ ImsOk z d (ids grs)))) ∧ Below w17.heap.size w17 w') (fun _ i _ => m - (RowKit.intOf i).toNat)
            case atStart => exact ⟨0, V, by omega, rfl, rfl, by
              rcases HV.out with ⟨h, h2⟩ | ⟨h, h2⟩
              · exact .inl ⟨h, h2, fun x hx => by simp at hx⟩
              · exact .inr ⟨h, fun k => h2 ⟨k.1, k.2.1⟩⟩, Below.refl _ _⟩
            case round =>
              obtain ⟨w18, rfl⟩ : ∃ x, x = wr := ⟨wr, rfl⟩
              obtain ⟨k9, V9, hk9, rfl, rfl, hV9, hbr⟩ := hrel
              clear HV V
              have hm40 : m ≤ 40 := HLE.out.2.2
              have lw := hbr.size
              replace KS := KS.next hbr
              replace KT := KT.next hbr
              replace hw := bt hw hbr
              clear g0 g1 g2 g3 g4 r0 r1 r2 r3 r4 r5 r6 r7 y0 y1 y2 y3 y4 y5 y6 y7 n0 n1 n2 n3 n4 n5 n6 n7
              by_cases hlt : k9 < m
              · have j1 : (k9 : Int) < (m : Int) := by omega
                obtain ⟨b1, off, x9, hbA, hb1, c0, c1, c2, m1, hr, -, e1⟩ := img_at KS.im.h KS.im.i (show k9 < grs.length by rw [HM.out]; exact hlt)
                obtain ⟨cI, hcI⟩ := bool_of (ImOk z d x9.z x9.wh x9.l)
                have HJ2 := Lib.hid (show ∀ W, Below w18.heap.size w18 W → Calls Try.prog 22 #[.agg #[.int .i64 z, .int .i64 d, .int .i64 s, .int .i64 l, .int .i64 a], .agg #[.int .i64 x9.z, .int .i64 x9.wh, .slice x9.A x9.l.length x9.c]] W fun e w' => e = .returned (.bool cI) ∧ Below W.heap.size W w' from fun W hW => rimage_c cI z d s l a x9 x9.l.length W HO.out (m1.next hW) rfl hcI)
                have hlk : k9 < (ids grs).length := by rw [ids_length, HM.out]; exact hlt
                have htk := List.take_succ_eq_append_getElem hlk
                have hge : (ids grs)[k9] = x9.d := by
                  rw [List.getElem?_eq_getElem hlk] at e1
                  exact Option.some.inj e1
                rw [hge] at htk
                have hmem : x9.d ∈ ids grs := by rw [← hge]; exact List.getElem_mem hlk
                have HNX := Lib.hid (show ((if cI = true then V9 else 1) = 0 ∧ (NumOk sq ∧ NumOk ep) ∧ ∀ x ∈ (ids grs).take (k9 + 1), ImOk z d x.1 x.2.1 x.2.2) ∨ ((if cI = true then V9 else 1) = 1 ∧ ¬ (NumOk sq ∧ NumOk ep ∧ ImsOk z d (ids grs))) by
                  cases hcc : cI with
                  | true =>
                    rw [if_pos rfl]
                    rcases hV9 with ⟨h, h2, h3⟩ | h
                    · refine .inl ⟨h, h2, fun x hx => ?_⟩
                      rw [htk] at hx
                      rcases List.mem_append.1 hx with g | g
                      · exact h3 x g
                      · obtain rfl := List.mem_singleton.1 g
                        exact hcI.1 hcc
                    · exact .inr h
                  | false =>
                    rw [if_neg Bool.false_ne_true]
                    exact .inr ⟨rfl, fun h => absurd (hcI.2 (h.2.2 x9.d hmem)) (by rw [hcc]; exact Bool.false_ne_true)⟩)
                have HS := Lib.hid (show ∀ W, Below w18.heap.size w18 W → (W.cell? ⟨w.heap.size, 0, none⟩ = some (.int .i64 z) ∧ W.cell? ⟨w.heap.size, 1, none⟩ = some (.int .i64 d) ∧ W.cell? ⟨w.heap.size, 2, none⟩ = some (.int .i64 s) ∧ W.cell? ⟨w.heap.size, 3, none⟩ = some (.int .i64 l) ∧ W.cell? ⟨w.heap.size, 4, none⟩ = some (.int .i64 a)) ∧ (W.cell? ⟨b1, off + k9 * 3, none⟩ = some (.int .i64 x9.z) ∧ W.cell? ⟨b1, off + k9 * 3 + 1, none⟩ = some (.int .i64 x9.wh) ∧ W.cell? ⟨b1, off + k9 * 3 + 2, none⟩ = some (.slice x9.A x9.l.length x9.c)) ∧ Below w18.heap.size w18 W from fun W hW => by
                  have k := KS.next hW
                  exact ⟨⟨k.gg.g0, k.gg.g1, k.gg.g2, k.gg.g3, k.gg.g4⟩, ⟨ks hW hb1 c0, ks hW hb1 c1, ks hW hb1 c2⟩, hW⟩)
                have hd0 : Below w18.heap.size w18 w18.drew := below_dr (Below.refl _ _)
                clear hcI htk hge hmem hlk e1 hr hV9 c0 c1 c2 m1
                replace hbA : gA = some ⟨b1, off, none⟩ := hbA
                rw [hbA]
                clear hbA
                go_upto_region 24 with fail
                go_region_held3 (fun W => (W.cell? ⟨w.heap.size, 0, none⟩ = some (.int .i64 z) ∧ W.cell? ⟨w.heap.size, 1, none⟩ = some (.int .i64 d) ∧ W.cell? ⟨w.heap.size, 2, none⟩ = some (.int .i64 s) ∧ W.cell? ⟨w.heap.size, 3, none⟩ = some (.int .i64 l) ∧ W.cell? ⟨w.heap.size, 4, none⟩ = some (.int .i64 a)) ∧ (W.cell? ⟨b1, off + k9 * 3, none⟩ = some (.int .i64 x9.z) ∧ W.cell? ⟨b1, off + k9 * 3 + 1, none⟩ = some (.int .i64 x9.wh) ∧ W.cell? ⟨b1, off + k9 * 3 + 2, none⟩ = some (.slice x9.A x9.l.length x9.c)) ∧ Below w18.heap.size w18 W)
                  ((refine HS.out _ ?_; first
                    | with_reducible exact hd0
                    | with_reducible exact hh2
                    | fail))
                  (first
                    | (go_at_call 22; (with_reducible refine (HJ2.out _ hd0).mono ?_); rintro e w19 ⟨rfl, hb19⟩; have hh2 := bt hd0 hb19)
                    | fail)
                cases cI
                · go_wp2_with fail
                  go_roundw
                  case rel => exact ⟨k9 + 1, 1, by omega, by go_num, rfl, HNX.out, hbr.trans (hh2.mono lw)⟩
                  case measure => simp [RowKit.intOf]; omega
                · go_wp2_with fail
                  go_roundw
                  case rel => exact ⟨k9 + 1, V9, by omega, by go_num, rfl, HNX.out, hbr.trans (hh2.mono lw)⟩
                  case measure => simp [RowKit.intOf]; omega
              · have j1 : ¬ (k9 : Int) < (m : Int) := by omega
                obtain rfl : k9 = m := by omega
                have HVV := Lib.hid (show (V9 = 0 ∧ NumOk sq ∧ NumOk ep ∧ ImsOk z d (ids grs)) ∨ (V9 = 1 ∧ ¬ (NumOk sq ∧ NumOk ep ∧ ImsOk z d (ids grs))) by
                  rcases hV9 with ⟨h, h2, h3⟩ | h
                  · refine .inl ⟨h, h2.1, h2.2, fun x hx => h3 x ?_⟩
                    rw [List.take_of_length_le (by rw [ids_length, HM.out]; exact Nat.le_refl _)]
                    exact hx
                  · exact .inr h)
                clear hV9
                obtain ⟨g0, g1, g2, g3, g4⟩ := id KS.gg
                obtain ⟨r0, r1, r2, r3, r4, r5, r6, r7⟩ := id KS.rr
                obtain ⟨y0, y1, y2, y3, y4, y5, y6, y7⟩ := id KT.yy
                obtain ⟨n0, n1, n2, n3, n4, n5, n6, n7⟩ := id KT.nn
                go_upto_region 26 with fail
                have hHV : V9 = 0 ∧ (1 ≤ k9 ∧ k9 ≤ 29) ∧ H = 0 ∨ V9 = 0 ∧ ¬ (1 ≤ k9 ∧ k9 ≤ 29) ∧ H = 2 ∨ V9 = 1 ∧ H = 1 := by
                  have hl : (ids grs).length = k9 := by rw [ids_length, HM.out]
                  have h9 := HH.out
                  unfold TxX TxWhy at h9
                  rw [hl] at h9
                  rcases HVV.out with ⟨h, h2⟩ | ⟨h, h2⟩
                  · rcases h9 with ⟨g, -, -, g2, -⟩ | ⟨⟨g, -⟩ | ⟨-, g, -⟩ | ⟨-, -, g, g2⟩, -⟩
                    · exact .inl ⟨h, g2, g⟩
                    · exact absurd HO.out g
                    · exact absurd h2 g
                    · exact .inr (.inl ⟨h, g, g2⟩)
                  · rcases h9 with ⟨-, -, g, -⟩ | ⟨⟨g, -⟩ | ⟨-, -, g⟩ | ⟨-, g, -⟩, -⟩
                    · exact absurd g h2
                    · exact absurd HO.out g
                    · exact .inr (.inr ⟨h, g⟩)
                    · exact absurd g h2
                have HHV := Lib.hid hHV
                clear hHV HVV j1 hlt
                go_cut [201] from 309 (fun v wc => (∃ c2 : Bool, v = .bool c2 ∧ (c2 = true ↔ V9 = 0 ∧ ¬ (1 ≤ k9 ∧ k9 ≤ 29))) ∧ wc = w18)
                case first =>
                  rcases HHV.out with ⟨rfl, h2, -⟩ | ⟨rfl, h2, -⟩ | ⟨rfl, -⟩
                  · have i1 : ¬ (k9 : Int) < 1 := by omega
                    have i2 : ¬ (29 : Int) < (k9 : Int) := by omega
                    have H2 := Lib.hid h2
                    clear h2
                    go_wp2_with fail
                    go_meet
                    case rel => exact ⟨⟨false, rfl, iff_of_false Bool.false_ne_true fun h => h.2 H2.out⟩, rfl⟩
                  · have H2 := Lib.hid h2
                    by_cases i1 : (k9 : Int) < 1
                    · clear h2
                      go_wp2_with fail
                      go_meet
                      case rel => exact ⟨⟨true, rfl, iff_of_true rfl ⟨by trivial, H2.out⟩⟩, rfl⟩
                    · have i2 : (29 : Int) < (k9 : Int) := by omega
                      clear h2
                      go_wp2_with fail
                      go_meet
                      case rel => exact ⟨⟨true, rfl, iff_of_true rfl ⟨by trivial, H2.out⟩⟩, rfl⟩
                  · go_wp2_with fail
                    go_meet
                    case rel => exact ⟨⟨false, rfl, iff_of_false Bool.false_ne_true fun h => absurd h.1 (by decide)⟩, rfl⟩
                case rest =>
                  obtain ⟨⟨c2, rfl, hc2⟩, hwc⟩ := hcut
                  have hwc2 := hwc.symm
                  clear hwc
                  subst hwc2
                  have HC2 := Lib.hid hc2
                  clear hc2
                  go_upto_if 201 with fail
                  go_cut [29] from 309 (fun v wc => v = .int .i64 H ∧ wc = w18)
                  case first =>
                    cases c2
                    · have HX := Lib.hid (show V9 = H by
                        rcases HHV.out with ⟨h, -, h2⟩ | ⟨h, h2, -⟩ | ⟨h, h2⟩
                        · omega
                        · exact absurd (HC2.out.2 ⟨h, h2⟩) Bool.false_ne_true
                        · omega)
                      clear HHV HC2
                      go_wp2_with fail
                      go_meet
                      case rel => exact ⟨by rw [HX.out], rfl⟩
                    · have HX := Lib.hid (show 2 = H by
                        have h9 := HC2.out.1 rfl
                        rcases HHV.out with ⟨-, h, -⟩ | ⟨-, -, h2⟩ | ⟨h, -⟩
                        · exact absurd h h9.2
                        · exact h2.symm
                        · omega)
                      clear HHV HC2
                      go_wp2_with fail
                      go_meet
                      case rel => exact ⟨by rw [← HX.out], rfl⟩
                  case rest =>
                    obtain ⟨rfl, hwc⟩ := hcut
                    have hwc2 := hwc.symm
                    clear hwc
                    subst hwc2
                    clear HHV HC2
                    go_upto_region 28 with fail
                    go_cut [226] from 309 (fun v wc => v = .bool false ∧ Below w18.heap.size w18 wc)
                    case first =>
                      have hl : (ids grs).length = k9 := by rw [ids_length, HM.out]
                      rcases HH.out with ⟨rfl, -, -, -, hrs⟩ | ⟨hwhy, hrs⟩
                      · have HTR := Lib.hid (show rds ts = txnR sq ep (ids grs) from HTS.out.trans hrs)
                        have HRC := Lib.hid (show Calls Try.prog 24 #[.int .i64 sq, .int .i64 ep, .slice gA k9 gc] w18 fun e w' => (∃ (A : Option Addr) (c j : Nat) (qs : List RcR), e = .returned (.slice A j c) ∧ qs.length = j ∧ rds qs = txnR sq ep (ids grs) ∧ SlV w' w'.heap.size A (rvs qs) ∧ RIn w' w'.heap.size qs) ∧ Below w18.heap.size w18 w' from by
                          refine (rrecords_c sq ep ⟨gA, gc, grs⟩ k9 w18 KS.im HM.out (by have := HLE.out; omega) HSH.out).mono ?_
                          rintro e w' ⟨⟨v, qs, rfl, hq9, ho9⟩, hb9⟩
                          obtain ⟨A, c, hv, hin⟩ := ownR_in ho9
                          exact ⟨⟨A, c, qs.length, qs, by rw [hv], rfl, hq9, hin.h, hin.i⟩, hb9⟩)
                        have HRS := Lib.hid (show ∀ (W : World) (A : Option Addr) (c j : Nat) (qs : List RcR), Below w18.heap.size w18 W → qs.length = j → rds qs = txnR sq ep (ids grs) → SlV W W.heap.size A (rvs qs) → RIn W W.heap.size qs → Calls Try.prog 23 #[.slice tA ts.length tc, .slice A j c] W fun e w' => e = .returned (.bool true) ∧ Below W.heap.size W w' from fun W A c j qs hW hj h5 h6 h7 => by
                          have kt := KT.next hW
                          have hlt : ts.length = k9 + 1 := by rw [← rds_length, HTR.out, txnR_length, hl]
                          exact recs_any true tA A tc c _ _ ts qs W rfl hj kt.tt h6 kt.ti h7 (by have := HLE.out; omega) (fun r9 hr9 => by
                            have h8 : r9.d ∈ txnR sq ep (ids grs) := by rw [← HTR.out]; exact List.mem_map_of_mem hr9
                            unfold txnR at h8
                            rcases List.mem_append.1 h8 with h8 | h8
                            · obtain ⟨i9, hi9, he9⟩ := List.mem_map.1 h8
                              have hi9 := List.mem_range.1 hi9
                              unfold imgR at he9
                              rw [List.getElem?_eq_getElem hi9] at he9
                              have hx9 : (ids grs)[i9] ∈ ids grs := List.getElem_mem hi9
                              obtain ⟨x9, hx8, hx7⟩ := List.mem_map.1 hx9
                              rw [show r9.i.l = (ids grs)[i9].2.2 from (congrArg Rcd.l he9).symm, ← hx7]
                              exact HSH.out x9 hx8
                            · rw [show r9.i.l = [] from congrArg Rcd.l (List.mem_singleton.1 h8)]
                              exact Nat.zero_le _) (iff_of_true rfl (HTR.out.trans h5.symm)))
                        clear hrs hl
                        go_wp2_with (first
                          | (go_at_call 24; (with_reducible refine HRC.out.mono ?_); rintro e w19 ⟨⟨A9, c9, j9, q9, rfl, hq1, hq2, hq3, hq4⟩, hb19⟩)
                          | (go_at_call 23; (with_reducible refine (HRS.out _ _ _ _ _ hb19 hq1 hq2 hq3 hq4).mono ?_); rintro e w20 ⟨rfl, hb20⟩))
                        go_meet
                        case rel => exact ⟨rfl, bt hb19 hb20⟩
                      · have hts0 : ts = [] := List.eq_nil_of_length_eq_zero (by rw [← rds_length, HTS.out, hrs]; rfl)
                        have hH12 : H = 1 ∨ H = 2 := by
                          rcases hwhy with ⟨-, h⟩ | ⟨-, -, h⟩ | ⟨-, -, -, h⟩
                          · exact .inl h
                          · exact .inl h
                          · exact .inr h
                        clear hwhy hrs hl
                        subst hts0
                        rcases hH12 with rfl | rfl
                        · go_wp2_with fail
                          go_meet
                          case rel => exact ⟨by trivial, Below.refl _ _⟩
                        · go_wp2_with fail
                          go_meet
                          case rel => exact ⟨by trivial, Below.refl _ _⟩
                    case rest =>
                      obtain ⟨rfl, hbc⟩ := hcut
                      obtain ⟨w21, rfl⟩ : ∃ y, y = wc := ⟨wc, rfl⟩
                      replace KS := KS.next hbc
                      replace KT := KT.next hbc
                      replace hw := bt hw hbc
                      clear g0 g1 g2 g3 g4 r0 r1 r2 r3 r4 r5 r6 r7
                      clear y0 y1 y2 y3 y4 y5 y6 y7 n0 n1 n2 n3 n4 n5 n6 n7
                      obtain ⟨g0, g1, g2, g3, g4⟩ := id KS.gg
                      obtain ⟨r0, r1, r2, r3, r4, r5, r6, r7⟩ := id KS.rr
                      obtain ⟨y0, y1, y2, y3, y4, y5, y6, y7⟩ := id KT.yy
                      obtain ⟨n0, n1, n2, n3, n4, n5, n6, n7⟩ := id KT.nn
                      replace hbr := hbr.trans (hbc.mono lw)
                      clear hbc lw HH
                      obtain ⟨cr, hcr⟩ := bool_of (RecOk z d r.d)
                      have HRF := Lib.hid (show ∀ W, Below w21.heap.size w21 W → Calls Try.prog 25 #[.agg #[.int .i64 z, .int .i64 d, .int .i64 s, .int .i64 l, .int .i64 a], .agg #[.int .i64 r.kd, .int .i64 r.sq, .int .i64 r.ep, .int .i64 r.ps, .int .i64 r.nm, .int .i64 r.i.z, .int .i64 r.i.wh, .slice r.i.A n r.i.c]] W fun e w' => e = .returned (.bool cr) ∧ Below W.heap.size W w' from fun W hW => rrec_c cr z d s l a r n W HO.out (KS.ri.next hW) HN.out (by have := HLE.out; omega) hcr)
                      have HCK := Lib.hid (show ∀ W, Below w.heap.size w W → BIn W W.heap.size r.i → Calls Try.prog 17 #[.agg #[.int .i64 z, .int .i64 d, .int .i64 s, .int .i64 l, .int .i64 a], .agg #[.int .i64 r.kd, .int .i64 r.sq, .int .i64 r.ep, .int .i64 r.ps, .int .i64 r.nm, .int .i64 r.i.z, .int .i64 r.i.wh, .slice r.i.A n r.i.c]] W fun e w' => e = .returned (.int .i64 (if cr = true then 0 else 1)) ∧ Below W.heap.size W w' from fun W hW hx => HCR.out.check cr z d s l a r n W hW hx HN.out (by have := HLE.out; omega) (hcr.trans (and_iff_right HO.out).symm))
                      have HWK := Lib.hid (show ∀ W, Below w.heap.size w W → Calls Try.prog 20 #[] W fun e w' => e = .returned (.bool true) ∧ Below W.heap.size W w' from fun W hW => wk_rec W (HCR.out.next hW))
                      have hbZ := Below.refl w21.heap.size w21
                      have HCR2 := Lib.hid hcr
                      clear hcr
                      cases cr
                      · have hE1 : E = 1 ∧ xl = [] := by
                          rcases HE.out with ⟨-, h, -⟩ | ⟨h, -, h2⟩
                          · exact absurd (HCR2.out.2 h.2) Bool.false_ne_true
                          · exact ⟨h, h2⟩
                        have hI1 : I = 1 ∧ cl = [] := by
                          rcases HI.out with ⟨-, h, -⟩ | ⟨h, -, h2⟩
                          · exact absurd (HCR2.out.2 h.1.2) Bool.false_ne_true
                          · exact ⟨h, h2⟩
                        obtain ⟨rfl, rfl⟩ := hE1
                        obtain ⟨rfl, rfl⟩ := hI1
                        replace HCK : Hid (∀ W, Below w.heap.size w W → BIn W W.heap.size r.i → Calls Try.prog 17 #[.agg #[.int .i64 z, .int .i64 d, .int .i64 s, .int .i64 l, .int .i64 a], .agg #[.int .i64 r.kd, .int .i64 r.sq, .int .i64 r.ep, .int .i64 r.ps, .int .i64 r.nm, .int .i64 r.i.z, .int .i64 r.i.wh, .slice r.i.A n r.i.c]] W fun e w' => e = .returned (.int .i64 1) ∧ Below W.heap.size W w') := HCK
                        go_wp2_with (first
                          | (go_at_call 25; (with_reducible refine (HRF.out _ hbZ).mono ?_); rintro e w22 ⟨rfl, hb22⟩; (replace hbZ := bt hbZ hb22); (replace KS := KS.next hb22); (replace KT := KT.next hb22); (replace hw := bt hw hb22); (clear g0 g1 g2 g3 g4 r0 r1 r2 r3 r4 r5 r6 r7); (clear y0 y1 y2 y3 y4 y5 y6 y7 n0 n1 n2 n3 n4 n5 n6 n7); (obtain ⟨g0, g1, g2, g3, g4⟩ := id KS.gg); (obtain ⟨r0, r1, r2, r3, r4, r5, r6, r7⟩ := id KS.rr); (obtain ⟨y0, y1, y2, y3, y4, y5, y6, y7⟩ := id KT.yy); (obtain ⟨n0, n1, n2, n3, n4, n5, n6, n7⟩ := id KT.nn))
                          | (go_at_call 17; (with_reducible refine (HCK.out _ hw KS.ri).mono ?_); rintro e w13 ⟨rfl, hb13⟩; (replace KS := KS.next hb13); (replace KT := KT.next hb13); (replace hw := bt hw hb13); (clear g0 g1 g2 g3 g4 r0 r1 r2 r3 r4 r5 r6 r7); (clear y0 y1 y2 y3 y4 y5 y6 y7 n0 n1 n2 n3 n4 n5 n6 n7); (obtain ⟨g0, g1, g2, g3, g4⟩ := id KS.gg); (obtain ⟨r0, r1, r2, r3, r4, r5, r6, r7⟩ := id KS.rr); (obtain ⟨y0, y1, y2, y3, y4, y5, y6, y7⟩ := id KT.yy); (obtain ⟨n0, n1, n2, n3, n4, n5, n6, n7⟩ := id KT.nn))
                          | (go_at_call 20; (with_reducible refine (HWK.out _ hw).mono ?_); rintro e w16 ⟨rfl, hb16⟩; (replace hw := bt hw hb16)))
                        go_ret
                        exact ⟨rfl, hw⟩
                      · have hcr : RecOk z d r.d := HCR2.out.1 rfl
                        have hE1 : E = 0 ∧ xl = encR r.d := by
                          rcases HE.out with ⟨h, -, h2⟩ | ⟨-, h, -⟩
                          · exact ⟨h, h2⟩
                          · exact absurd ⟨HO.out, hcr⟩ h
                        obtain ⟨rfl, hxl⟩ := hE1
                        have hx60 : xl.length ≤ 59 := by rw [hxl]; exact (encR_short hcr HD4.out).2
                        replace HCK : Hid (∀ W, Below w.heap.size w W → BIn W W.heap.size r.i → Calls Try.prog 17 #[.agg #[.int .i64 z, .int .i64 d, .int .i64 s, .int .i64 l, .int .i64 a], .agg #[.int .i64 r.kd, .int .i64 r.sq, .int .i64 r.ep, .int .i64 r.ps, .int .i64 r.nm, .int .i64 r.i.z, .int .i64 r.i.wh, .slice r.i.A n r.i.c]] W fun e w' => e = .returned (.int .i64 0) ∧ Below W.heap.size W w') := HCK
                        have HRB := Lib.hid (show ∀ W, BIn W W.heap.size r.i → Calls Try.prog 27 #[.agg #[.int .i64 r.kd, .int .i64 r.sq, .int .i64 r.ep, .int .i64 r.ps, .int .i64 r.nm, .int .i64 r.i.z, .int .i64 r.i.wh, .slice r.i.A n r.i.c]] W fun e w' => (∃ (A : Option Addr) (c : Nat), e = .returned (.slice A xl.length c) ∧ Sl w' w'.heap.size A xl) ∧ Below W.heap.size W w' from fun W hx => by
                          refine (rbytes_c z d s l a r n W HO.out hx HN.out hcr).mono ?_
                          rintro e w' ⟨⟨v, rfl, ho⟩, hb⟩
                          obtain ⟨A, c, hv, -, -, hs, -⟩ := ho.form
                          rw [hxl]
                          exact ⟨⟨A, c, by rw [hv], hs⟩, hb⟩)
                        have HKB := Lib.hid (show ∀ (W : World) (A : Option Addr) (c : Nat), Sl W W.heap.size X xl → Sl W W.heap.size A xl → Calls Try.prog 26 #[.slice X xl.length xc, .slice A xl.length c] W fun e w' => e = .returned (.bool true) ∧ Below W.heap.size W w' from fun W A c h5 h6 => by
                          have h9 := keep_any X A xc c _ _ xl xl W h5 h6 (Nat.le_refl _) (Nat.le_refl _) (by omega)
                          rw [decide_eq_true rfl] at h9
                          exact h9)
                        have HXL := Lib.hid hxl
                        have HX60 := Lib.hid hx60
                        have HRO := Lib.hid hcr
                        clear hxl hx60 hcr HE
                        go_upto_region 34 with (first
                          | (go_at_call 25; (with_reducible refine (HRF.out _ hbZ).mono ?_); rintro e w22 ⟨rfl, hb22⟩; (replace hbZ := bt hbZ hb22); (replace KS := KS.next hb22); (replace KT := KT.next hb22); (replace hw := bt hw hb22); (clear g0 g1 g2 g3 g4 r0 r1 r2 r3 r4 r5 r6 r7); (clear y0 y1 y2 y3 y4 y5 y6 y7 n0 n1 n2 n3 n4 n5 n6 n7); (obtain ⟨g0, g1, g2, g3, g4⟩ := id KS.gg); (obtain ⟨r0, r1, r2, r3, r4, r5, r6, r7⟩ := id KS.rr); (obtain ⟨y0, y1, y2, y3, y4, y5, y6, y7⟩ := id KT.yy); (obtain ⟨n0, n1, n2, n3, n4, n5, n6, n7⟩ := id KT.nn))
                          | (go_at_call 17; (with_reducible refine (HCK.out _ hw KS.ri).mono ?_); rintro e w13 ⟨rfl, hb13⟩; (replace KS := KS.next hb13); (replace KT := KT.next hb13); (replace hw := bt hw hb13); (clear g0 g1 g2 g3 g4 r0 r1 r2 r3 r4 r5 r6 r7); (clear y0 y1 y2 y3 y4 y5 y6 y7 n0 n1 n2 n3 n4 n5 n6 n7); (obtain ⟨g0, g1, g2, g3, g4⟩ := id KS.gg); (obtain ⟨r0, r1, r2, r3, r4, r5, r6, r7⟩ := id KS.rr); (obtain ⟨y0, y1, y2, y3, y4, y5, y6, y7⟩ := id KT.yy); (obtain ⟨n0, n1, n2, n3, n4, n5, n6, n7⟩ := id KT.nn))
                          | (go_at_call 27; (with_reducible refine (HRB.out _ KS.ri).mono ?_); rintro e w23 ⟨⟨A23, c23, rfl, hs23⟩, hb23⟩; (replace KS := KS.next hb23); (replace KT := KT.next hb23); (replace hw := bt hw hb23); (clear g0 g1 g2 g3 g4 r0 r1 r2 r3 r4 r5 r6 r7); (clear y0 y1 y2 y3 y4 y5 y6 y7 n0 n1 n2 n3 n4 n5 n6 n7); (obtain ⟨g0, g1, g2, g3, g4⟩ := id KS.gg); (obtain ⟨r0, r1, r2, r3, r4, r5, r6, r7⟩ := id KS.rr); (obtain ⟨y0, y1, y2, y3, y4, y5, y6, y7⟩ := id KT.yy); (obtain ⟨n0, n1, n2, n3, n4, n5, n6, n7⟩ := id KT.nn))
                          | (go_at_call 26; (with_reducible refine (HKB.out _ _ _ KT.xx hs23).mono ?_); rintro e w25 ⟨rfl, hb25⟩; (replace KS := KS.next hb25); (replace KT := KT.next hb25); (replace hw := bt hw hb25); (clear g0 g1 g2 g3 g4 r0 r1 r2 r3 r4 r5 r6 r7); (clear y0 y1 y2 y3 y4 y5 y6 y7 n0 n1 n2 n3 n4 n5 n6 n7); (obtain ⟨g0, g1, g2, g3, g4⟩ := id KS.gg); (obtain ⟨r0, r1, r2, r3, r4, r5, r6, r7⟩ := id KS.rr); (obtain ⟨y0, y1, y2, y3, y4, y5, y6, y7⟩ := id KT.yy); (obtain ⟨n0, n1, n2, n3, n4, n5, n6, n7⟩ := id KT.nn)))
                        obtain ⟨w26, rfl⟩ : ∃ y, y = w25 := ⟨w25, rfl⟩
                        go_cut [284] from 309 (fun v wc => (∃ c3 : Bool, v = .bool c3 ∧ (c3 = true ↔ ¬ SlotOk l cp sl)) ∧ wc = w26)
                        case first =>
                          by_cases a1 : cp = 0
                          · have ha : cp = 0 ∨ cp = 1 := .inl a1
                            have HA := Lib.hid ha
                            subst a1
                            clear ha
                            by_cases b1 : sl < 0
                            · have H1 := Lib.hid (show ¬ SlotOk l 0 sl from fun h => by have := h.2.1; omega)
                              go_wp2_with fail
                              go_meet
                              case rel => exact ⟨⟨true, rfl, iff_of_true rfl H1.out⟩, rfl⟩
                            by_cases b2 : l ≤ sl
                            · have H1 := Lib.hid (show ¬ SlotOk l 0 sl from fun h => by have := h.2.2; omega)
                              go_wp2_with fail
                              go_meet
                              case rel => exact ⟨⟨true, rfl, iff_of_true rfl H1.out⟩, rfl⟩
                            · have H1 := Lib.hid (show SlotOk l 0 sl from ⟨HA.out, by omega, by omega⟩)
                              go_wp2_with fail
                              go_meet
                              case rel => exact ⟨⟨false, rfl, iff_of_false Bool.false_ne_true fun h => h H1.out⟩, rfl⟩
                          by_cases a2 : cp = 1
                          · have ha : cp = 0 ∨ cp = 1 := .inr a2
                            have HA := Lib.hid ha
                            subst a2
                            clear ha
                            by_cases b1 : sl < 0
                            · have H1 := Lib.hid (show ¬ SlotOk l 1 sl from fun h => by have := h.2.1; omega)
                              go_wp2_with fail
                              go_meet
                              case rel => exact ⟨⟨true, rfl, iff_of_true rfl H1.out⟩, rfl⟩
                            by_cases b2 : l ≤ sl
                            · have H1 := Lib.hid (show ¬ SlotOk l 1 sl from fun h => by have := h.2.2; omega)
                              go_wp2_with fail
                              go_meet
                              case rel => exact ⟨⟨true, rfl, iff_of_true rfl H1.out⟩, rfl⟩
                            · have H1 := Lib.hid (show SlotOk l 1 sl from ⟨HA.out, by omega, by omega⟩)
                              go_wp2_with fail
                              go_meet
                              case rel => exact ⟨⟨false, rfl, iff_of_false Bool.false_ne_true fun h => h H1.out⟩, rfl⟩
                          · have H1 := Lib.hid (show ¬ SlotOk l cp sl from fun h => h.1.elim a1 a2)
                            have q1 : (cp != 0) = true := bne_iff_ne.2 a1
                            have q2 : (cp != 1) = true := bne_iff_ne.2 a2
                            have q3 : (cp == 0) = false := beq_eq_false_iff_ne.2 a1
                            have q4 : (cp == 1) = false := beq_eq_false_iff_ne.2 a2
                            clear a1 a2
                            go_wp2_with fail
                            go_meet
                            case rel => exact ⟨⟨true, rfl, iff_of_true rfl H1.out⟩, rfl⟩
                        case rest =>
                          obtain ⟨⟨c3, rfl, hc3⟩, hwc⟩ := hcut
                          have hwc2 := hwc.symm
                          clear hwc
                          subst hwc2
                          have HC3 := Lib.hid hc3
                          clear hc3
                          cases c3
                          · have hso : SlotOk l cp sl := Classical.byContradiction fun h => absurd (HC3.out.2 h) Bool.false_ne_true
                            have hI1 : I = 0 ∧ cl = sel.enc (cellN l a cp sl) r.sq.toNat (encR r.d) := by
                              rcases HI.out with ⟨h, -, h2⟩ | ⟨-, h, -⟩
                              · exact ⟨h, h2⟩
                              · exact absurd ⟨⟨HO.out, HRO.out⟩, hso⟩ h
                            obtain ⟨rfl, hcl⟩ := hI1
                            have hclen : cl.length = xl.length + 11 := by rw [hcl, sel.enc_length, ← HXL.out]
                            have HRE := Lib.hid (show ∀ W, BIn W W.heap.size r.i → Calls Try.prog 28 #[.agg #[.int .i64 z, .int .i64 d, .int .i64 s, .int .i64 l, .int .i64 a], .agg #[.int .i64 r.kd, .int .i64 r.sq, .int .i64 r.ep, .int .i64 r.ps, .int .i64 r.nm, .int .i64 r.i.z, .int .i64 r.i.wh, .slice r.i.A n r.i.c], .int .i64 cp, .int .i64 sl] W fun e w' => (∃ (A : Option Addr) (c : Nat), e = .returned (.slice A cl.length c) ∧ Sl w' w'.heap.size A cl) ∧ Below W.heap.size W w' from fun W hx => by
                              refine (rrec_cell z d s l a cp sl r n xl.length W HO.out hx HN.out HRO.out hso (by rw [HXL.out])).mono ?_
                              rintro e w' ⟨⟨A, c, rfl, hl⟩, hb⟩
                              rw [← hcl] at hl
                              exact ⟨⟨A, c, by rw [hclen], hl.2.2⟩, hb⟩)
                            have HKC := Lib.hid (show ∀ (W : World) (A : Option Addr) (c : Nat), Sl W W.heap.size cA cl → Sl W W.heap.size A cl → Calls Try.prog 26 #[.slice cA cl.length cc, .slice A cl.length c] W fun e w' => e = .returned (.bool true) ∧ Below W.heap.size W w' from fun W A c h5 h6 => by
                              have h9 := keep_any cA A cc c _ _ cl cl W h5 h6 (Nat.le_refl _) (Nat.le_refl _) (by have := HX60.out; omega)
                              rw [decide_eq_true rfl] at h9
                              exact h9)
                            clear hcl hclen hso HKB
                            go_wp2_with (first
                              | (go_at_call 28; (with_reducible refine (HRE.out _ KS.ri).mono ?_); rintro e w27 ⟨⟨A27, c27, rfl, hs27⟩, hb27⟩; (replace KS := KS.next hb27); (replace KT := KT.next hb27); (replace hw := bt hw hb27); (clear g0 g1 g2 g3 g4 r0 r1 r2 r3 r4 r5 r6 r7); (clear y0 y1 y2 y3 y4 y5 y6 y7 n0 n1 n2 n3 n4 n5 n6 n7); (obtain ⟨g0, g1, g2, g3, g4⟩ := id KS.gg); (obtain ⟨r0, r1, r2, r3, r4, r5, r6, r7⟩ := id KS.rr); (obtain ⟨y0, y1, y2, y3, y4, y5, y6, y7⟩ := id KT.yy); (obtain ⟨n0, n1, n2, n3, n4, n5, n6, n7⟩ := id KT.nn))
                              | (go_at_call 26; (with_reducible refine (HKC.out _ _ _ KT.cc hs27).mono ?_); rintro e w28 ⟨rfl, hb28⟩; (replace KS := KS.next hb28); (replace KT := KT.next hb28); (replace hw := bt hw hb28); (clear g0 g1 g2 g3 g4 r0 r1 r2 r3 r4 r5 r6 r7); (clear y0 y1 y2 y3 y4 y5 y6 y7 n0 n1 n2 n3 n4 n5 n6 n7); (obtain ⟨g0, g1, g2, g3, g4⟩ := id KS.gg); (obtain ⟨r0, r1, r2, r3, r4, r5, r6, r7⟩ := id KS.rr); (obtain ⟨y0, y1, y2, y3, y4, y5, y6, y7⟩ := id KT.yy); (obtain ⟨n0, n1, n2, n3, n4, n5, n6, n7⟩ := id KT.nn))
                              | (go_at_call 20; (with_reducible refine (HWK.out _ hw).mono ?_); rintro e w16 ⟨rfl, hb16⟩; (replace hw := bt hw hb16)))
                            go_ret
                            exact ⟨rfl, hw⟩
                          · have hI1 : I = 1 ∧ cl = [] := by
                              rcases HI.out with ⟨-, h, -⟩ | ⟨h, -, h2⟩
                              · exact absurd h.2 (HC3.out.1 rfl)
                              · exact ⟨h, h2⟩
                            obtain ⟨rfl, rfl⟩ := hI1
                            clear HKB
                            go_wp2_with (go_at_call 20; (with_reducible refine (HWK.out _ hw).mono ?_); rintro e w16 ⟨rfl, hb16⟩; (replace hw := bt hw hb16))
                            go_ret
                            exact ⟨rfl, hw⟩
theorem exact_law (z d s l a sq ep cp sl : Int) (r : RcR) (gA : Option Addr) (gc : Nat) (grs : List ImR) (bA : Option Addr) (bc : Nat) (b : List UInt8) (w : World) (hc : Crd w) (hx : BIn w w.heap.size r.i) (hg : IV.In w w.heap.size ⟨gA, gc, grs⟩) (hb : Sl w w.heap.size bA b) (hqc : b.length ≤ bc ∧ bc ≤ maxLen) :
    Calls Try.prog 3 #[.agg #[.int .i64 z, .int .i64 d, .int .i64 s, .int .i64 l, .int .i64 a], .agg #[.int .i64 r.kd, .int .i64 r.sq, .int .i64 r.ep, .int .i64 r.ps, .int .i64 r.nm, .int .i64 r.i.z, .int .i64 r.i.wh, .slice r.i.A r.i.l.length r.i.c], .slice gA grs.length gc, .slice bA b.length bc, .int .i64 sq, .int .i64 ep, .int .i64 cp, .int .i64 sl] w fun e w' => e = .returned (.bool true) ∧ Below w.heap.size w w' := by
  by_cases h1 : Hvy (ids grs)
  · exact exact_heavy true z d s l a sq ep cp sl r _ gA gc grs _ bA _ bc b w hx hg rfl hb (iff_of_true rfl h1) (.inl rfl)
  by_cases h2 : 200 < r.i.l.length
  · exact exact_heavy false z d s l a sq ep cp sl r _ gA gc grs _ bA _ bc b w hx hg rfl hb (iff_of_false Bool.false_ne_true h1) (.inr (.inl h2))
  by_cases h3 : 300 < b.length
  · exact exact_heavy false z d s l a sq ep cp sl r _ gA gc grs _ bA _ bc b w hx hg rfl hb (iff_of_false Bool.false_ne_true h1) (.inr (.inr h3))
  · exact exact_main z d s l a sq ep cp sl r _ gA gc grs _ bA _ bc b w hc hx rfl hg rfl hb rfl hqc h1 (by omega) (by omega)
end Go.Proofs.Ytplhdnhigboeaaa.lrc
