/-
  The example of stage 14's laws (wakes). Conditions: 'Cst'.
-/
import Derived.Test.YthdahdopejapmaaGSt
import Derived.Test.YthdahdopejapmaaDkQ
namespace Go.Proofs.Ythdahdopejapmaa.stp
open Go.RowKit Go.Lib
open Go.Proofs.Ythdahdopejapmaa.gmt (Ok)
open Go.Proofs.Ythdahdopejapmaa.anc (bl kal kst ks bm ka)
open Go.Proofs.Ythdahdopejapmaa.tbl (Ent EntOk C1 c1_new G5 g5_new OwnE)
open Go.Proofs.Ythdahdopejapmaa.par (zx zeros zeros_length zx_length)
open Go.Proofs.Ythdahdopejapmaa.zon
open Go.Proofs.Ythdahdopejapmaa.img

/-- An index in a list of its own, a block in one: as they were just laid. -/
theorem one_nv (w : World) : NV.In (w.alloc (.cells #[.int .i64 1] 3)) (w.alloc (.cells #[.int .i64 1] 3)).heap.size ⟨some ⟨w.heap.size, 0, none⟩, 1, [1]⟩ := ⟨SlV.of_block (heap_alloc_new w _) rfl (by simp), (show (1 : Nat) ≤ 1 ∧ 1 ≤ maxLen from ⟨Nat.le_refl _, by decide⟩)⟩
theorem one_lv (w : World) (X : Option Addr) (y : List UInt8) (c : Nat) (hy : y.length = 8) (hc : 8 ≤ c ∧ c ≤ maxLen) (h : Sl w w.heap.size X y) : LV.In (w.alloc (.cells #[.slice X 8 c] 29)) (w.alloc (.cells #[.slice X 8 c] 29)).heap.size ⟨some ⟨w.heap.size, 0, none⟩, 1, [⟨X, c, y⟩]⟩ :=
  ⟨SlV.of_block (heap_alloc_new w _) (by simp [vals, Row.v, hy]) (by simp), Rws.one (h.next (bl w _)), (show (1 : Nat) ≤ 1 ∧ 1 ≤ maxLen from ⟨Nat.le_refl _, by decide⟩), fun r hr => by rw [List.mem_singleton] at hr; rw [hr, hy]; exact hc⟩
set_option maxRecDepth 100000 in
set_option maxHeartbeats 16000000 in
theorem wk_stp (w : World) (hc : Cst w) : Calls Try.prog 17 #[] w fun e w' => e = .returned (.bool true) ∧ Below w.heap.size w w' := by
  have HC := Lib.hid hc
  clear hc
  have HSO := Lib.hid (some_w w)
  go_enter Try.func17, Try.ntmps17
  go_upto_region 2 with (go_at_call 25; (with_reducible refine HSO.out.mono ?_); rintro e w1 ⟨⟨D, hD, rfl⟩, hb1⟩; have HD := Lib.hid hD; clear hD)
  have HO := Lib.hid (show Ok 1 D 0 14 1 by rw [HD.out]; exact ok_w)
  have hxG := bl w1 (.cells #[.int .i64 1, .int .i64 D, .int .i64 0, .int .i64 14, .int .i64 1] 23)
  have GG := g5_new w1 1 D 0 14 1
  have l1 : w1.heap.size < (w1.alloc (.cells #[.int .i64 1, .int .i64 D, .int .i64 0, .int .i64 14, .int .i64 1] 23)).heap.size := by simp
  have hx := bt hb1 hxG
  clear hb1 hxG HSO
  generalize hg1 : w1.heap.size = g1 at *
  clear hg1
  generalize w1.alloc (.cells #[.int .i64 1, .int .i64 D, .int .i64 0, .int .i64 14, .int .i64 1] 23) = w2 at *
  have HFU := Lib.hid (full_z 1 0 14 1 0 D none none 0 0 0 0 [] [] w2 HO.out rfl rfl (by decide) (SlV.nil _ _ _) (Rws.nil _ _) (SlV.nil _ _ _))
  obtain ⟨x0, x1, x2, x3, x4⟩ := id GG
  go_upto_region 3 with (go_at_call 26; (with_reducible refine HFU.out.mono ?_); rintro e w3 ⟨⟨t, gh, hc, rows, rfl, hte0, hto, hor, hgh1, hgh2, hcap⟩, hb3⟩; have HTE := Lib.hid hte0; clear hte0)
  have hxT := bl w3 (.cells #[.slice t.A (D + 1 : Nat) t.c] 26)
  have TT := c1_new w3 (.slice t.A (D + 1 : Nat) t.c) 26
  have lT : w3.heap.size < (w3.alloc (.cells #[.slice t.A (D + 1 : Nat) t.c] 26)).heap.size := by simp
  have b4 := bt hb3 hxT
  have hte4 := tbl.TV.Own.below hto hxT
  have hor4 := hor.below hxT
  replace GG := GG.keep b4 l1
  replace l1 := Nat.lt_of_lt_of_le l1 b4.size
  replace hx := bt hx b4
  clear b4 hb3 hxT hto hor x0 x1 x2 x3 x4 HFU hgh1 hgh2 hcap
  generalize hgT : w3.heap.size = gT at *
  clear hgT
  generalize w3.alloc (.cells #[.slice t.A (D + 1 : Nat) t.c] 26) = w4 at *
  have b5 := bl w4 (.cells #[.int .u8 1, .int .u8 2, .int .u8 3, .int .u8 4, .int .u8 5, .int .u8 6, .int .u8 7, .int .u8 8] 5)
  have hsb : Sl (w4.alloc (.cells #[.int .u8 1, .int .u8 2, .int .u8 3, .int .u8 4, .int .u8 5, .int .u8 6, .int .u8 7, .int .u8 8] 5)) (w4.alloc (.cells #[.int .u8 1, .int .u8 2, .int .u8 3, .int .u8 4, .int .u8 5, .int .u8 6, .int .u8 7, .int .u8 8] 5)).heap.size (some ⟨w4.heap.size, 0, none⟩) b8 := Sl.of_block (heap_alloc_new w4 _) rfl (by simp)
  have T5 := TT.keep b5 lT
  have G5' := GG.keep b5 l1
  have HX5 := Lib.hid ((tbl.TV.Own.inn hte4).next b5)
  have HR5 := Lib.hid ((rows_in hor4).next b5)
  have HRL := Lib.hid (show rows.length = D + 1 from hor4.len.trans (fullH_length _ _ _))
  have HLR := Lib.hid hor4.2.1
  replace l1 := Nat.lt_of_lt_of_le l1 b5.size
  replace lT := Nat.lt_of_lt_of_le lT b5.size
  replace hx := bt hx b5
  go_upto_region 4 with fail
  clear b5 TT GG hte4 hor4
  generalize w4.heap.size = gb at *
  generalize w4.alloc (.cells #[.int .u8 1, .int .u8 2, .int .u8 3, .int .u8 4, .int .u8 5, .int .u8 6, .int .u8 7, .int .u8 8] 5) = w5 at *
  have n6 := one_nv w5
  have b6 := bl w5 (.cells #[.int .i64 1] 3)
  have s6 : (w5.alloc (.cells #[.int .i64 1] 3)).heap.size = w5.heap.size + 1 := by simp
  have v7 := one_lv (w5.alloc (.cells #[.int .i64 1] 3)) (some ⟨gb, 0, none⟩) b8 8 rfl (by decide) (hsb.next b6)
  have b7 := bl (w5.alloc (.cells #[.int .i64 1] 3)) (.cells #[.slice (some ⟨gb, 0, none⟩) 8 8] 29)
  rw [s6] at v7
  have b57 := bt b6 b7
  have HW := Lib.hid (HC.out.write 1 0 14 1 4 D t (D + 1) ⟨some ⟨gh, 0, none⟩, hc, rows⟩ (D + 1) ⟨some ⟨w5.heap.size, 0, none⟩, 1, [1]⟩ 1 ⟨some ⟨w5.heap.size + 1, 0, none⟩, 1, [⟨some ⟨gb, 0, none⟩, 8, b8⟩]⟩ ((w5.alloc (.cells #[.int .i64 1] 3)).alloc (.cells #[.slice (some ⟨gb, 0, none⟩) 8 8] 29)) (bt hx b57) HO.out (HX5.out.next b57) (by rw [HTE.out, fullE_length]) (by rw [HTE.out]; exact full_good 0 [] [] D (by decide)) (HR5.out.next b57) HRL.out (by show HadOk _ (lists rows); rw [HLR.out]; exact full_had _ _ _) (n6.next b7) rfl (by decide) (by rw [HD.out]; exact wk_ats) ⟨by decide, by decide⟩ v7 rfl (fun y hy => by simp [lists] at hy; rw [hy]; rfl))
  have T7 := T5.keep b57 lT
  have G7 := G5'.keep b57 l1
  have HB7 := Lib.hid (hsb.next b57)
  replace l1 := Nat.lt_of_lt_of_le l1 b57.size
  replace lT := Nat.lt_of_lt_of_le lT b57.size
  replace hx := bt hx b57
  have t0 := T5.c0
  obtain ⟨x0, x1, x2, x3, x4⟩ := id G5'
  clear n6 b6 s6 v7 b7 b57 hsb T5 G5' HX5 HR5
  go_upto_region 5 with (go_at_call 11; (with_reducible refine HW.out.mono ?_); rintro e w8 ⟨⟨u, X, c, rfl, hue, huo, hpo⟩, hb8⟩)
  have HUE := Lib.hid (show u.es = newT D (fullE 0 [] [] D) (fullH [] [] D) [1] [b8] 4 by rw [hue, HTE.out]; show newT D _ (lists rows) _ _ _ = _; rw [HLR.out]; rfl)
  have HPP := Lib.hid (show newP D t.es (lists rows) [1] [b8] 4 D = b8 by rw [HTE.out, HLR.out, HD.out]; exact wk_p)
  have HPO := Lib.hid (show Own w8 _ 5 (.slice X 8 c) b8 by rw [← HPP.out]; exact hpo)
  clear hue hpo HW t0 x0 x1 x2 x3 x4
  have hxU := bl w8 (.cells #[.slice u.A (D + 1 : Nat) u.c] 26)
  have UU := c1_new w8 (.slice u.A (D + 1 : Nat) u.c) 26
  have b9 := bt hb8 hxU
  have lU : w8.heap.size < (w8.alloc (.cells #[.slice u.A (D + 1 : Nat) u.c] 26)).heap.size := by simp
  have G9 := G7.keep b9 l1
  have HU9 := Lib.hid (tbl.TV.Own.below huo hxU)
  have HP9 := Lib.hid (HPO.out.below hxU)
  have HB9 := Lib.hid (HB7.out.next b9)
  replace l1 := Nat.lt_of_lt_of_le l1 b9.size
  replace hx := bt hx b9
  clear b9 hb8 hxU huo G7 T7 HPO HB7 lT
  generalize hgU : w8.heap.size = gU at *
  clear hgU
  generalize w8.alloc (.cells #[.slice u.A (D + 1 : Nat) u.c] 26) = w9 at *
  have n6 := one_nv w9
  have b6 := bl w9 (.cells #[.int .i64 1] 3)
  have s6 : (w9.alloc (.cells #[.int .i64 1] 3)).heap.size = w9.heap.size + 1 := by simp
  have v7 := one_lv (w9.alloc (.cells #[.int .i64 1] 3)) (some ⟨gb, 0, none⟩) b8 8 rfl (by decide) (HB9.out.next b6)
  have b7 := bl (w9.alloc (.cells #[.int .i64 1] 3)) (.cells #[.slice (some ⟨gb, 0, none⟩) 8 8] 29)
  rw [s6] at v7
  have b57 := bt b6 b7
  obtain ⟨-, hc1, hc2, hps⟩ := own_at HP9.out
  have HI := Lib.hid (HC.out.images 1 0 14 1 0 D u (D + 1) X c b8 ⟨some ⟨w9.heap.size, 0, none⟩, 1, [1]⟩ 1 ⟨some ⟨w9.heap.size + 1, 0, none⟩, 1, [⟨some ⟨gb, 0, none⟩, 8, b8⟩]⟩ ((w9.alloc (.cells #[.int .i64 1] 3)).alloc (.cells #[.slice (some ⟨gb, 0, none⟩) 8 8] 29)) (bt hx b57) HO.out ((tbl.TV.Own.inn HU9.out).next b57) (by rw [HUE.out, newT_length]) (by rw [HUE.out]; exact newT_good (full_good 0 [] [] D (by decide)) (by have := wk_ats; exact this.2.2) (by decide)) (by decide) (hps.next b57) ⟨hc1, hc2⟩ rfl (n6.next b7) rfl (by decide) (by rw [HD.out]; exact wk_ats) v7 rfl (fun y hy => by simp [lists] at hy; rw [hy]; rfl))
  have U7 := UU.keep b57 lU
  have HB7 := Lib.hid (HB9.out.next b57)
  have HP7 := Lib.hid (HP9.out.below b57)
  have HU7 := Lib.hid (tbl.TV.Own.below HU9.out b57)
  replace lU := Nat.lt_of_lt_of_le lU b57.size
  replace hx := bt hx b57
  have t0 := UU.c0
  obtain ⟨x0, x1, x2, x3, x4⟩ := id G9
  clear n6 b6 s6 v7 b7 b57 UU G9 HB9 HP9 HU9 hc1 hc2 hps l1
  go_upto_region 6 with (go_at_call 12; (with_reducible refine HI.out.mono ?_); rintro e w12 ⟨⟨A, c', rs, rfl, hids, hin⟩, hb12⟩)
  have hln : (imgL 0 u.es b8 [1] (lists [⟨some ⟨gb, 0, none⟩, 8, b8⟩])).length = 3 := by rw [imgL_length]; rfl
  have hrl : rs.length = 3 := by
    have := congrArg List.length hids
    rw [ids_length, hln] at this
    exact this
  obtain ⟨bi, oi, r, hAi, hbi, -, ri1, -, -, -, -, r2⟩ := img_at hin.h hin.i (show 2 < rs.length by omega)
  have hwh : r.wh = 255 := by
    rw [hids] at r2
    have h9 : (imgL 0 u.es b8 [1] (lists [⟨some ⟨gb, 0, none⟩, 8, b8⟩]))[2]? = some (0, 255, tbl.encT u.es) := rfl
    rw [h9] at r2
    exact (congrArg (fun y => y.2.1) (Option.some.inj r2)).symm
  change A = _ at hAi
  subst hAi
  rw [hwh] at ri1
  rw [hln]
  obtain ⟨bu, ou, e0, hUA, hbu, e00, -, -, -, e0e⟩ := tbl.ent_at (tbl.TV.Own.inn (tbl.TV.Own.below HU7.out hb12)).h (show 0 < u.es.length by rw [HUE.out, newT_length]; omega)
  obtain ⟨bu', ou', e1, hUA', -, e10, -, -, -, e1e⟩ := tbl.ent_at (tbl.TV.Own.inn (tbl.TV.Own.below HU7.out hb12)).h (show 1 < u.es.length by rw [HUE.out, newT_length, HD.out]; decide)
  rw [hUA] at hUA'
  simp only [Option.some.injEq, Addr.mk.injEq, and_true] at hUA'
  obtain ⟨rfl, rfl⟩ := hUA'
  have hs0 : e0.st = 0 := by
    have h9 := wk_e0
    rw [HUE.out, HD.out] at e0e
    rw [e0e] at h9
    exact Option.some.inj h9
  have hs1 : e1.st = 4 := by
    have h9 := wk_e1
    rw [HUE.out, HD.out] at e1e
    rw [e1e] at h9
    exact Option.some.inj h9
  rw [hs0, show ou + 0 * 3 = ou by omega] at e00
  rw [hs1, show ou + 1 * 3 = ou + 3 by omega] at e10
  have t12 := (U7.keep hb12 lU).c0
  rw [hUA] at t12
  have hx12 := bt hx hb12
  have lU12 := Nat.lt_of_lt_of_le lU hb12.size
  have HKB := Lib.hid (keep_c true X (some ⟨gb, 0, none⟩) 8 8 c 8 b8 b8 w12 rfl rfl (by decide) ((own_at HP7.out).2.2.2.next hb12) (HB7.out.next hb12) (iff_of_true rfl rfl))
  have q3 : ((D : Int) + 1 == 3) = true := by rw [HD.out]; rfl
  have j0 : (0 : Int) < ((D + 1 : Nat) : Int) := by omega
  have j1 : (1 : Int) < ((D + 1 : Nat) : Int) := by rw [HD.out]; decide
  clear hids hin hrl r2 hln hwh hs0 hs1 e0e e1e hb12 HI HU7 HP7 HB7 U7 lU hUA t0 x0 x1 x2 x3 x4
  go_wp2_with (go_at_call 24; (with_reducible refine HKB.out.mono ?_); rintro e w13 ⟨rfl, hb13⟩; replace t12 := kst hb13 lU12 t12; replace e00 := kst hb13 hbu e00; replace e10 := kst hb13 hbu e10; replace ri1 := kst hb13 hbi ri1)
  go_ret
  exact ⟨rfl, bt hx12 hb13⟩
end Go.Proofs.Ythdahdopejapmaa.stp
