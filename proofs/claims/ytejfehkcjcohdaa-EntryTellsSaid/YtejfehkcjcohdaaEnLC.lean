/-
  The law EntryTells, walked. Conditions: none.
-/
import Derived.Test.YtejfehkcjcohdaaEnE
import Derived.Test.YtejfehkcjcohdaaGGm
import Derived.Deep.CutRange
namespace Go.Proofs.Ytejfehkcjcohdaa.ent
open Go.RowKit Go.Lib
open Go.Proofs.Ytejfehkcjcohdaa.gmt (Ok)
open Go.Proofs.Ytejfehkcjcohdaa.anc (bl kal kst ks bm ka)
open Go.Proofs.Ytejfehkcjcohdaa.sel (Three three_new Lies opened Opn no opened_err enc enc_opened open_any)
open Go.Proofs.Ytejfehkcjcohdaa.tbl (Ent EntOk entsN TV C1 c1_new G5 g5_new TbE)
set_option maxRecDepth 100000 in
set_option maxHeartbeats 8000000 in
theorem et_long (addr stamp how num : Int) (A B : Option Addr) (n m c d : Nat) (w : World) (h : ¬ (n = 8 ∧ m = 8)) :
    Calls Try.prog 4 #[.int .i64 addr, .int .i64 stamp, .slice A n c, .slice B m d, .int .i64 how, .int .i64 num] w fun e w' => e = .returned (.bool true) ∧ Below w.heap.size w w' := by
  have q : ((n : Int) != 8) = true ∨ ((n : Int) != 8) = false ∧ ((m : Int) != 8) = true := by
    by_cases h1 : n = 8
    · exact .inr ⟨by rw [h1]; rfl, bne_iff_ne.2 fun k => h ⟨h1, by omega⟩⟩
    · exact .inl (bne_iff_ne.2 (by omega))
  clear h
  go_enter Try.func4, Try.ntmps4
  rcases q with q | ⟨q, q2⟩
  all_goals
    go_wp2
    go_ret
    exact ⟨rfl, Below.refl _ _⟩
set_option maxRecDepth 100000 in
set_option maxHeartbeats 8000000 in
theorem et_0 (addr stamp how num : Int) (A B : Option Addr) (c d : Nat) (x y : List UInt8) (w : World) (hxl : x.length = 8) (hyl : y.length = 8) (hA : Sl w w.heap.size A x) (hB : Sl w w.heap.size B y) (hk : (IntKind.u64.wrap how).tmod 6 = 0) :
    Calls Try.prog 4 #[.int .i64 addr, .int .i64 stamp, .slice A 8 c, .slice B 8 d, .int .i64 how, .int .i64 num] w fun e w' => e = .returned (.bool true) ∧ Below w.heap.size w w' := by
  have ha := gmt.wrap_mod addr 60000 (by omega)
  have hs := gmt.wrap_mod stamp 1000000 (by omega)
  have hn := gmt.wrap_mod num 1000 (by omega)
  generalize hA0 : (IntKind.u64.wrap addr).tmod 60000 = a0 at *
  generalize hS0 : (IntKind.u64.wrap stamp).tmod 1000000 = s0 at *
  generalize hN0 : (IntKind.u64.wrap num).tmod 1000 = n0 at *
  have HXL := Lib.hid hxl
  have HYL := Lib.hid hyl
  have HXA := Lib.hid hA
  have HYB := Lib.hid hB
  have HK := Lib.hid hk
  clear hxl hyl hA hB hk
  obtain ⟨S, hS⟩ : ∃ S : Nat, S = crc.sum x := ⟨_, rfl⟩
  have HSM := Lib.hid hS
  clear hS
  go_enter Try.func4, Try.ntmps4
  go_upto_region 4 with fail
  clear hA0 hS0 hN0
  generalize hs1 : 1 + s0 = s1 at *
  generalize hn1 : 1 + n0 = n1 at *
  replace hs : 1 ≤ s1 ∧ s1 ≤ 1000000 := by omega
  replace hn : 1 ≤ n1 ∧ n1 ≤ 1000 := by omega
  clear hs1 hn1
  have HMK := Lib.hid (mak_ok s1 A c x w (by omega) HXL.out HXA.out)
  rw [← HSM.out] at HMK
  go_upto_region 5 with (go_at_call 12; (with_reducible refine (HMK.out).mono ?_); rintro e w1 ⟨rfl, hb1⟩)
  have hxE := bl w1 (.cells #[.int .i64 s1, .int .i64 S, .bool false] 29)
  have TT := three_new w1 (.int .i64 s1) (.int .i64 S) (.bool false) 29
  have l1 : w1.heap.size < (w1.alloc (.cells #[.int .i64 s1, .int .i64 S, .bool false] 29)).heap.size := by simp
  have hx := bt hb1 hxE
  have LW := hx.size
  replace HXA := Lib.hid (HXA.out.next hx)
  replace HYB := Lib.hid (HYB.out.next hx)
  clear hb1 hxE HMK
  generalize hg1 : w1.heap.size = g1 at *
  clear hg1
  generalize w1.alloc (.cells #[.int .i64 s1, .int .i64 S, .bool false] 29) = w2 at *
  have HSL := Lib.hid (seal_c a0 s1 A 8 c 19 x w2 (by omega) (by omega) HXL.out (by omega) rfl HXA.out)
  go_upto_region 8 with (go_at_call 19; (with_reducible refine (HSL.out).mono ?_); rintro e w3 ⟨⟨X, xc, rfl, ho⟩, hb3⟩)
  have hxG := bl w3 (.cells #[.int .i64 0, .slice X 19 xc] 27)
  have GG := duo_new w3 (.int .i64 0) (.slice X 19 xc) 27
  have l2 : w3.heap.size < (w3.alloc (.cells #[.int .i64 0, .slice X 19 xc] 27)).heap.size := by simp
  have l12 : g1 < w3.heap.size := Nat.lt_of_lt_of_le l1 hb3.size
  have b3 := bt hb3 hxG
  replace TT := TT.keep b3 l1
  replace l1 := Nat.lt_of_lt_of_le l1 b3.size
  replace HXA := Lib.hid (HXA.out.next b3)
  replace HYB := Lib.hid (HYB.out.next b3)
  replace hx := bt hx b3
  have HO := Lib.hid ((own_at ho).2.2.2.below hxG)
  have HXC := Lib.hid (show 19 ≤ xc ∧ xc ≤ maxLen from ⟨(own_at ho).2.1, (own_at ho).2.2.1⟩)
  have hg2w : w.heap.size ≤ w3.heap.size := Nat.le_trans LW hb3.size
  clear ho hb3 HSL hxG b3
  go_upto_region 9 with fail
  generalize hg2 : w3.heap.size = g2 at *
  clear hg2
  generalize w3.alloc (.cells #[.int .i64 0, .slice X 19 xc] 27) = w4 at *
  have HBK := Lib.hid (cell_s true a0 s1 a0 s1 S false X 19 xc x w4 (by omega) (by omega) (by rw [HXL.out]; decide) (by rw [HXL.out]) HXC.out.1 HXC.out.2 (HO.out.more (Nat.le_of_lt l2)) (iff_of_true rfl ⟨rfl, rfl, HXL.out, by rw [HSM.out]⟩))
  rw [part_yes] at HBK
  obtain ⟨t0, t1, t2, -, -, -⟩ := id TT
  obtain ⟨d0, d1, e0, e1⟩ := id GG
  have hl := HXL.out
  go_upto_region 10 with (go_at_call 9; (with_reducible refine (HBK.out).mono ?_); rintro e w5 ⟨⟨Y, yc, rfl, ho5⟩, hb5⟩)
  clear hl t0 t1 t2 d0 d1 e0 e1 HBK
  have HKB := Lib.hid (keep_c true Y A 8 8 yc c x x w5 HXL.out HXL.out (by decide) (own_at ho5).2.2.2 (HXA.out.next hb5) (iff_of_true rfl rfl))
  go_upto_region 12 with (go_at_call 13; (with_reducible refine (HKB.out).mono ?_); rintro e w6 ⟨rfl, hb6⟩)
  have b6 := bt hb5 hb6
  have l2' := l2
  replace TT := TT.keep b6 l1
  replace GG := GG.keep b6 l2
  replace l1 := Nat.lt_of_lt_of_le l1 b6.size
  replace l2 := Nat.lt_of_lt_of_le l2 b6.size
  replace HXA := Lib.hid (HXA.out.next b6)
  replace HYB := Lib.hid (HYB.out.next b6)
  replace HO := Lib.hid (HO.out.below (b6.mono (Nat.le_of_lt l2')))
  replace hx := bt hx b6
  clear hb5 hb6 b6 ho5 HKB
  have hk := HK.out
  obtain ⟨d0, d1, e0, e1⟩ := id GG
  have HS2 := Lib.hid (seal_c a0 (s1 - 1) B 8 d 19 y w6 (by omega) (by omega) HYL.out (by omega) rfl HYB.out)
  go_upto_region 24 with (go_at_call 19; (with_reducible refine HS2.out.mono ?_); rintro e w7 ⟨⟨Z, zc, rfl, ho7⟩, hb7⟩; replace GG := GG.keep hb7 l2; clear d0 d1 e0 e1; obtain ⟨d0, d1, e0, e1⟩ := id GG)
  replace TT := TT.keep hb7 l1
  replace hx := bt hx hb7
  have hxs : Below g2 w7 (w7.setCell ⟨g2, 1, none⟩ (.slice Z 19 zc)) := (Below.refl g2 w7).setCell (p := ⟨g2, 1, none⟩) (Nat.le_refl g2) _
  have TT8 := TT.keep hxs l12
  have GG8 := GG.set1 (.slice Z 19 zc)
  have hx8 := hx.trans (hxs.mono hg2w)
  have HO8 := Lib.hid (own_at (own_set (o := 1) ho7 l2 (.slice Z 19 zc)))
  clear ho7 hb7 HS2 d0 d1 e0 e1 TT GG hxs hx
  generalize w7.setCell ⟨g2, 1, none⟩ (.slice Z 19 zc) = w8 at *
  have HNB := Lib.hid (show Calls Try.prog 9 #[.agg #[.int .i64 0, .slice Z 19 zc], .int .i64 a0, .agg #[.int .i64 s1, .int .i64 S, .bool false]] w8 fun e w' => BytB w8.heap.size [] false e w' ∧ Below w8.heap.size w8 w' from no_block 0 a0 s1 S false Z 19 zc _ w8 HO8.out.1 HO8.out.2.1 HO8.out.2.2.1 HO8.out.2.2.2 (no_other (by omega) (by omega) (by rw [HYL.out]; decide) (fun h => by omega)))
  clear hk
  obtain ⟨t0, t1, t2, -, -, -⟩ := id TT8
  obtain ⟨d0, d1, -, -⟩ := id GG8
  go_wp2_with (first
    | (go_at_call 9; (with_reducible refine (HNB.out).mono ?_); rintro e w9 ⟨⟨Z2, z2, rfl, -⟩, hb9⟩)
    | (go_at_call 17; (with_reducible refine ((wk_ent _)).mono ?_); rintro e w10 ⟨rfl, hb10⟩))
  go_ret
  exact ⟨rfl, bt hx8 (bt hb9 hb10)⟩
set_option maxRecDepth 100000 in
set_option maxHeartbeats 8000000 in
theorem et_1 (addr stamp how num : Int) (A B : Option Addr) (c d : Nat) (x y : List UInt8) (w : World) (hxl : x.length = 8) (hyl : y.length = 8) (hA : Sl w w.heap.size A x) (hB : Sl w w.heap.size B y) (hk : (IntKind.u64.wrap how).tmod 6 = 1) :
    Calls Try.prog 4 #[.int .i64 addr, .int .i64 stamp, .slice A 8 c, .slice B 8 d, .int .i64 how, .int .i64 num] w fun e w' => e = .returned (.bool true) ∧ Below w.heap.size w w' := by
  have ha := gmt.wrap_mod addr 60000 (by omega)
  have hs := gmt.wrap_mod stamp 1000000 (by omega)
  have hn := gmt.wrap_mod num 1000 (by omega)
  generalize hA0 : (IntKind.u64.wrap addr).tmod 60000 = a0 at *
  generalize hS0 : (IntKind.u64.wrap stamp).tmod 1000000 = s0 at *
  generalize hN0 : (IntKind.u64.wrap num).tmod 1000 = n0 at *
  have HXL := Lib.hid hxl
  have HYL := Lib.hid hyl
  have HXA := Lib.hid hA
  have HYB := Lib.hid hB
  have HK := Lib.hid hk
  clear hxl hyl hA hB hk
  obtain ⟨S, hS⟩ : ∃ S : Nat, S = crc.sum x := ⟨_, rfl⟩
  have HSM := Lib.hid hS
  clear hS
  go_enter Try.func4, Try.ntmps4
  go_upto_region 4 with fail
  clear hA0 hS0 hN0
  generalize hs1 : 1 + s0 = s1 at *
  generalize hn1 : 1 + n0 = n1 at *
  replace hs : 1 ≤ s1 ∧ s1 ≤ 1000000 := by omega
  replace hn : 1 ≤ n1 ∧ n1 ≤ 1000 := by omega
  clear hs1 hn1
  have HMK := Lib.hid (mak_ok s1 A c x w (by omega) HXL.out HXA.out)
  rw [← HSM.out] at HMK
  go_upto_region 5 with (go_at_call 12; (with_reducible refine (HMK.out).mono ?_); rintro e w1 ⟨rfl, hb1⟩)
  have hxE := bl w1 (.cells #[.int .i64 s1, .int .i64 S, .bool false] 29)
  have TT := three_new w1 (.int .i64 s1) (.int .i64 S) (.bool false) 29
  have l1 : w1.heap.size < (w1.alloc (.cells #[.int .i64 s1, .int .i64 S, .bool false] 29)).heap.size := by simp
  have hx := bt hb1 hxE
  have LW := hx.size
  replace HXA := Lib.hid (HXA.out.next hx)
  replace HYB := Lib.hid (HYB.out.next hx)
  clear hb1 hxE HMK
  generalize hg1 : w1.heap.size = g1 at *
  clear hg1
  generalize w1.alloc (.cells #[.int .i64 s1, .int .i64 S, .bool false] 29) = w2 at *
  have HSL := Lib.hid (seal_c a0 s1 A 8 c 19 x w2 (by omega) (by omega) HXL.out (by omega) rfl HXA.out)
  go_upto_region 8 with (go_at_call 19; (with_reducible refine (HSL.out).mono ?_); rintro e w3 ⟨⟨X, xc, rfl, ho⟩, hb3⟩)
  have hxG := bl w3 (.cells #[.int .i64 0, .slice X 19 xc] 27)
  have GG := duo_new w3 (.int .i64 0) (.slice X 19 xc) 27
  have l2 : w3.heap.size < (w3.alloc (.cells #[.int .i64 0, .slice X 19 xc] 27)).heap.size := by simp
  have l12 : g1 < w3.heap.size := Nat.lt_of_lt_of_le l1 hb3.size
  have b3 := bt hb3 hxG
  replace TT := TT.keep b3 l1
  replace l1 := Nat.lt_of_lt_of_le l1 b3.size
  replace HXA := Lib.hid (HXA.out.next b3)
  replace HYB := Lib.hid (HYB.out.next b3)
  replace hx := bt hx b3
  have HO := Lib.hid ((own_at ho).2.2.2.below hxG)
  have HXC := Lib.hid (show 19 ≤ xc ∧ xc ≤ maxLen from ⟨(own_at ho).2.1, (own_at ho).2.2.1⟩)
  have hg2w : w.heap.size ≤ w3.heap.size := Nat.le_trans LW hb3.size
  clear ho hb3 HSL hxG b3
  go_upto_region 9 with fail
  generalize hg2 : w3.heap.size = g2 at *
  clear hg2
  generalize w3.alloc (.cells #[.int .i64 0, .slice X 19 xc] 27) = w4 at *
  have HBK := Lib.hid (cell_s true a0 s1 a0 s1 S false X 19 xc x w4 (by omega) (by omega) (by rw [HXL.out]; decide) (by rw [HXL.out]) HXC.out.1 HXC.out.2 (HO.out.more (Nat.le_of_lt l2)) (iff_of_true rfl ⟨rfl, rfl, HXL.out, by rw [HSM.out]⟩))
  rw [part_yes] at HBK
  obtain ⟨t0, t1, t2, -, -, -⟩ := id TT
  obtain ⟨d0, d1, e0, e1⟩ := id GG
  have hl := HXL.out
  go_upto_region 10 with (go_at_call 9; (with_reducible refine (HBK.out).mono ?_); rintro e w5 ⟨⟨Y, yc, rfl, ho5⟩, hb5⟩)
  clear hl t0 t1 t2 d0 d1 e0 e1 HBK
  have HKB := Lib.hid (keep_c true Y A 8 8 yc c x x w5 HXL.out HXL.out (by decide) (own_at ho5).2.2.2 (HXA.out.next hb5) (iff_of_true rfl rfl))
  go_upto_region 12 with (go_at_call 13; (with_reducible refine (HKB.out).mono ?_); rintro e w6 ⟨rfl, hb6⟩)
  have b6 := bt hb5 hb6
  have l2' := l2
  replace TT := TT.keep b6 l1
  replace GG := GG.keep b6 l2
  replace l1 := Nat.lt_of_lt_of_le l1 b6.size
  replace l2 := Nat.lt_of_lt_of_le l2 b6.size
  replace HXA := Lib.hid (HXA.out.next b6)
  replace HYB := Lib.hid (HYB.out.next b6)
  replace HO := Lib.hid (HO.out.below (b6.mono (Nat.le_of_lt l2')))
  replace hx := bt hx b6
  clear hb5 hb6 b6 ho5 HKB
  have hk := HK.out
  obtain ⟨d0, d1, e0, e1⟩ := id GG
  have HS2 := Lib.hid (seal_c (a0 + n1) s1 A 8 c 19 x w6 (by omega) (by omega) HXL.out (by omega) rfl HXA.out)
  go_upto_region 24 with (go_at_call 19; (with_reducible refine HS2.out.mono ?_); rintro e w7 ⟨⟨Z, zc, rfl, ho7⟩, hb7⟩; replace GG := GG.keep hb7 l2; clear d0 d1 e0 e1; obtain ⟨d0, d1, e0, e1⟩ := id GG)
  replace TT := TT.keep hb7 l1
  replace hx := bt hx hb7
  have hxs : Below g2 w7 (w7.setCell ⟨g2, 1, none⟩ (.slice Z 19 zc)) := (Below.refl g2 w7).setCell (p := ⟨g2, 1, none⟩) (Nat.le_refl g2) _
  have TT8 := TT.keep hxs l12
  have GG8 := GG.set1 (.slice Z 19 zc)
  have hx8 := hx.trans (hxs.mono hg2w)
  have HO8 := Lib.hid (own_at (own_set (o := 1) ho7 l2 (.slice Z 19 zc)))
  clear ho7 hb7 HS2 d0 d1 e0 e1 TT GG hxs hx
  generalize w7.setCell ⟨g2, 1, none⟩ (.slice Z 19 zc) = w8 at *
  have HNB := Lib.hid (show Calls Try.prog 9 #[.agg #[.int .i64 0, .slice Z 19 zc], .int .i64 a0, .agg #[.int .i64 s1, .int .i64 S, .bool false]] w8 fun e w' => BytB w8.heap.size [] false e w' ∧ Below w8.heap.size w8 w' from no_block 0 a0 s1 S false Z 19 zc _ w8 HO8.out.1 HO8.out.2.1 HO8.out.2.2.1 HO8.out.2.2.2 (no_other (by omega) (by omega) (by rw [HXL.out]; decide) (fun h => by omega)))
  clear hk
  obtain ⟨t0, t1, t2, -, -, -⟩ := id TT8
  obtain ⟨d0, d1, -, -⟩ := id GG8
  go_wp2_with (first
    | (go_at_call 9; (with_reducible refine (HNB.out).mono ?_); rintro e w9 ⟨⟨Z2, z2, rfl, -⟩, hb9⟩)
    | (go_at_call 17; (with_reducible refine ((wk_ent _)).mono ?_); rintro e w10 ⟨rfl, hb10⟩))
  go_ret
  exact ⟨rfl, bt hx8 (bt hb9 hb10)⟩
set_option maxRecDepth 100000 in
set_option maxHeartbeats 8000000 in
theorem et_2 (addr stamp how num : Int) (A B : Option Addr) (c d : Nat) (x y : List UInt8) (w : World) (hxl : x.length = 8) (hyl : y.length = 8) (hA : Sl w w.heap.size A x) (hB : Sl w w.heap.size B y) (hk : (IntKind.u64.wrap how).tmod 6 = 2) :
    Calls Try.prog 4 #[.int .i64 addr, .int .i64 stamp, .slice A 8 c, .slice B 8 d, .int .i64 how, .int .i64 num] w fun e w' => e = .returned (.bool true) ∧ Below w.heap.size w w' := by
  have ha := gmt.wrap_mod addr 60000 (by omega)
  have hs := gmt.wrap_mod stamp 1000000 (by omega)
  have hn := gmt.wrap_mod num 1000 (by omega)
  generalize hA0 : (IntKind.u64.wrap addr).tmod 60000 = a0 at *
  generalize hS0 : (IntKind.u64.wrap stamp).tmod 1000000 = s0 at *
  generalize hN0 : (IntKind.u64.wrap num).tmod 1000 = n0 at *
  have HXL := Lib.hid hxl
  have HYL := Lib.hid hyl
  have HXA := Lib.hid hA
  have HYB := Lib.hid hB
  have HK := Lib.hid hk
  clear hxl hyl hA hB hk
  obtain ⟨S, hS⟩ : ∃ S : Nat, S = crc.sum x := ⟨_, rfl⟩
  have HSM := Lib.hid hS
  clear hS
  go_enter Try.func4, Try.ntmps4
  go_upto_region 4 with fail
  clear hA0 hS0 hN0
  generalize hs1 : 1 + s0 = s1 at *
  generalize hn1 : 1 + n0 = n1 at *
  replace hs : 1 ≤ s1 ∧ s1 ≤ 1000000 := by omega
  replace hn : 1 ≤ n1 ∧ n1 ≤ 1000 := by omega
  clear hs1 hn1
  have HMK := Lib.hid (mak_ok s1 A c x w (by omega) HXL.out HXA.out)
  rw [← HSM.out] at HMK
  go_upto_region 5 with (go_at_call 12; (with_reducible refine (HMK.out).mono ?_); rintro e w1 ⟨rfl, hb1⟩)
  have hxE := bl w1 (.cells #[.int .i64 s1, .int .i64 S, .bool false] 29)
  have TT := three_new w1 (.int .i64 s1) (.int .i64 S) (.bool false) 29
  have l1 : w1.heap.size < (w1.alloc (.cells #[.int .i64 s1, .int .i64 S, .bool false] 29)).heap.size := by simp
  have hx := bt hb1 hxE
  have LW := hx.size
  replace HXA := Lib.hid (HXA.out.next hx)
  replace HYB := Lib.hid (HYB.out.next hx)
  clear hb1 hxE HMK
  generalize hg1 : w1.heap.size = g1 at *
  clear hg1
  generalize w1.alloc (.cells #[.int .i64 s1, .int .i64 S, .bool false] 29) = w2 at *
  have HSL := Lib.hid (seal_c a0 s1 A 8 c 19 x w2 (by omega) (by omega) HXL.out (by omega) rfl HXA.out)
  go_upto_region 8 with (go_at_call 19; (with_reducible refine (HSL.out).mono ?_); rintro e w3 ⟨⟨X, xc, rfl, ho⟩, hb3⟩)
  have hxG := bl w3 (.cells #[.int .i64 0, .slice X 19 xc] 27)
  have GG := duo_new w3 (.int .i64 0) (.slice X 19 xc) 27
  have l2 : w3.heap.size < (w3.alloc (.cells #[.int .i64 0, .slice X 19 xc] 27)).heap.size := by simp
  have l12 : g1 < w3.heap.size := Nat.lt_of_lt_of_le l1 hb3.size
  have b3 := bt hb3 hxG
  replace TT := TT.keep b3 l1
  replace l1 := Nat.lt_of_lt_of_le l1 b3.size
  replace HXA := Lib.hid (HXA.out.next b3)
  replace HYB := Lib.hid (HYB.out.next b3)
  replace hx := bt hx b3
  have HO := Lib.hid ((own_at ho).2.2.2.below hxG)
  have HXC := Lib.hid (show 19 ≤ xc ∧ xc ≤ maxLen from ⟨(own_at ho).2.1, (own_at ho).2.2.1⟩)
  have hg2w : w.heap.size ≤ w3.heap.size := Nat.le_trans LW hb3.size
  clear ho hb3 HSL hxG b3
  go_upto_region 9 with fail
  generalize hg2 : w3.heap.size = g2 at *
  clear hg2
  generalize w3.alloc (.cells #[.int .i64 0, .slice X 19 xc] 27) = w4 at *
  have HBK := Lib.hid (cell_s true a0 s1 a0 s1 S false X 19 xc x w4 (by omega) (by omega) (by rw [HXL.out]; decide) (by rw [HXL.out]) HXC.out.1 HXC.out.2 (HO.out.more (Nat.le_of_lt l2)) (iff_of_true rfl ⟨rfl, rfl, HXL.out, by rw [HSM.out]⟩))
  rw [part_yes] at HBK
  obtain ⟨t0, t1, t2, -, -, -⟩ := id TT
  obtain ⟨d0, d1, e0, e1⟩ := id GG
  have hl := HXL.out
  go_upto_region 10 with (go_at_call 9; (with_reducible refine (HBK.out).mono ?_); rintro e w5 ⟨⟨Y, yc, rfl, ho5⟩, hb5⟩)
  clear hl t0 t1 t2 d0 d1 e0 e1 HBK
  have HKB := Lib.hid (keep_c true Y A 8 8 yc c x x w5 HXL.out HXL.out (by decide) (own_at ho5).2.2.2 (HXA.out.next hb5) (iff_of_true rfl rfl))
  go_upto_region 12 with (go_at_call 13; (with_reducible refine (HKB.out).mono ?_); rintro e w6 ⟨rfl, hb6⟩)
  have b6 := bt hb5 hb6
  have l2' := l2
  replace TT := TT.keep b6 l1
  replace GG := GG.keep b6 l2
  replace l1 := Nat.lt_of_lt_of_le l1 b6.size
  replace l2 := Nat.lt_of_lt_of_le l2 b6.size
  replace HXA := Lib.hid (HXA.out.next b6)
  replace HYB := Lib.hid (HYB.out.next b6)
  replace HO := Lib.hid (HO.out.below (b6.mono (Nat.le_of_lt l2')))
  replace hx := bt hx b6
  clear hb5 hb6 b6 ho5 HKB
  have hk := HK.out
  obtain ⟨d0, d1, e0, e1⟩ := id GG
  have HE19 := Lib.hid (show (enc a0.toNat s1.toNat x).length = 19 by rw [sel.enc_length, HXL.out])
  have HF2 := Lib.hid (flip_c X xc 19 _ n1 n1 w6 HE19.out (HO.out.more (Nat.le_of_lt l2)) (by decide))
  go_upto_region 24 with (go_at_call 20; (with_reducible refine HF2.out.mono ?_); rintro e w7 ⟨⟨out, Z, zc, rfl, hol, ht, ho7⟩, hb7⟩; replace GG := GG.keep hb7 l2; clear d0 d1 e0 e1; obtain ⟨d0, d1, e0, e1⟩ := id GG)
  replace TT := TT.keep hb7 l1
  replace hx := bt hx hb7
  have hxs : Below g2 w7 (w7.setCell ⟨g2, 1, none⟩ (.slice Z 19 zc)) := (Below.refl g2 w7).setCell (p := ⟨g2, 1, none⟩) (Nat.le_refl g2) _
  have TT8 := TT.keep hxs l12
  have GG8 := GG.set1 (.slice Z 19 zc)
  have hx8 := hx.trans (hxs.mono hg2w)
  have HO8 := Lib.hid (own_at (own_set (o := 1) ho7 l2 (.slice Z 19 zc)))
  have HT := Lib.hid (show (opened out).err ≠ 0 from flip_no (l := x) (by rw [HXL.out]; decide) (by rw [HXL.out]; exact ht))
  clear ho7 hb7 HF2 d0 d1 e0 e1 TT GG hxs hx hol ht
  generalize w7.setCell ⟨g2, 1, none⟩ (.slice Z 19 zc) = w8 at *
  have HNB := Lib.hid (show Calls Try.prog 9 #[.agg #[.int .i64 0, .slice Z 19 zc], .int .i64 a0, .agg #[.int .i64 s1, .int .i64 S, .bool false]] w8 fun e w' => BytB w8.heap.size [] false e w' ∧ Below w8.heap.size w8 w' from no_block 0 a0 s1 S false Z 19 zc out w8 HO8.out.1 HO8.out.2.1 HO8.out.2.2.1 HO8.out.2.2.2 (fun h => no_err (.inr HT.out) h.1))
  clear hk
  obtain ⟨t0, t1, t2, -, -, -⟩ := id TT8
  obtain ⟨d0, d1, -, -⟩ := id GG8
  go_wp2_with (first
    | (go_at_call 9; (with_reducible refine (HNB.out).mono ?_); rintro e w9 ⟨⟨Z2, z2, rfl, -⟩, hb9⟩)
    | (go_at_call 17; (with_reducible refine ((wk_ent _)).mono ?_); rintro e w10 ⟨rfl, hb10⟩))
  go_ret
  exact ⟨rfl, bt hx8 (bt hb9 hb10)⟩
set_option maxRecDepth 100000 in
set_option maxHeartbeats 8000000 in
theorem et_3 (addr stamp how num : Int) (A B : Option Addr) (c d : Nat) (x y : List UInt8) (w : World) (hxl : x.length = 8) (hyl : y.length = 8) (hA : Sl w w.heap.size A x) (hB : Sl w w.heap.size B y) (hk : (IntKind.u64.wrap how).tmod 6 = 3) :
    Calls Try.prog 4 #[.int .i64 addr, .int .i64 stamp, .slice A 8 c, .slice B 8 d, .int .i64 how, .int .i64 num] w fun e w' => e = .returned (.bool true) ∧ Below w.heap.size w w' := by
  have ha := gmt.wrap_mod addr 60000 (by omega)
  have hs := gmt.wrap_mod stamp 1000000 (by omega)
  have hn := gmt.wrap_mod num 1000 (by omega)
  generalize hA0 : (IntKind.u64.wrap addr).tmod 60000 = a0 at *
  generalize hS0 : (IntKind.u64.wrap stamp).tmod 1000000 = s0 at *
  generalize hN0 : (IntKind.u64.wrap num).tmod 1000 = n0 at *
  have HXL := Lib.hid hxl
  have HYL := Lib.hid hyl
  have HXA := Lib.hid hA
  have HYB := Lib.hid hB
  have HK := Lib.hid hk
  clear hxl hyl hA hB hk
  obtain ⟨S, hS⟩ : ∃ S : Nat, S = crc.sum x := ⟨_, rfl⟩
  have HSM := Lib.hid hS
  clear hS
  go_enter Try.func4, Try.ntmps4
  go_upto_region 4 with fail
  clear hA0 hS0 hN0
  generalize hs1 : 1 + s0 = s1 at *
  generalize hn1 : 1 + n0 = n1 at *
  replace hs : 1 ≤ s1 ∧ s1 ≤ 1000000 := by omega
  replace hn : 1 ≤ n1 ∧ n1 ≤ 1000 := by omega
  clear hs1 hn1
  have HMK := Lib.hid (mak_ok s1 A c x w (by omega) HXL.out HXA.out)
  rw [← HSM.out] at HMK
  go_upto_region 5 with (go_at_call 12; (with_reducible refine (HMK.out).mono ?_); rintro e w1 ⟨rfl, hb1⟩)
  have hxE := bl w1 (.cells #[.int .i64 s1, .int .i64 S, .bool false] 29)
  have TT := three_new w1 (.int .i64 s1) (.int .i64 S) (.bool false) 29
  have l1 : w1.heap.size < (w1.alloc (.cells #[.int .i64 s1, .int .i64 S, .bool false] 29)).heap.size := by simp
  have hx := bt hb1 hxE
  have LW := hx.size
  replace HXA := Lib.hid (HXA.out.next hx)
  replace HYB := Lib.hid (HYB.out.next hx)
  clear hb1 hxE HMK
  generalize hg1 : w1.heap.size = g1 at *
  clear hg1
  generalize w1.alloc (.cells #[.int .i64 s1, .int .i64 S, .bool false] 29) = w2 at *
  have HSL := Lib.hid (seal_c a0 s1 A 8 c 19 x w2 (by omega) (by omega) HXL.out (by omega) rfl HXA.out)
  go_upto_region 8 with (go_at_call 19; (with_reducible refine (HSL.out).mono ?_); rintro e w3 ⟨⟨X, xc, rfl, ho⟩, hb3⟩)
  have hxG := bl w3 (.cells #[.int .i64 0, .slice X 19 xc] 27)
  have GG := duo_new w3 (.int .i64 0) (.slice X 19 xc) 27
  have l2 : w3.heap.size < (w3.alloc (.cells #[.int .i64 0, .slice X 19 xc] 27)).heap.size := by simp
  have l12 : g1 < w3.heap.size := Nat.lt_of_lt_of_le l1 hb3.size
  have b3 := bt hb3 hxG
  replace TT := TT.keep b3 l1
  replace l1 := Nat.lt_of_lt_of_le l1 b3.size
  replace HXA := Lib.hid (HXA.out.next b3)
  replace HYB := Lib.hid (HYB.out.next b3)
  replace hx := bt hx b3
  have HO := Lib.hid ((own_at ho).2.2.2.below hxG)
  have HXC := Lib.hid (show 19 ≤ xc ∧ xc ≤ maxLen from ⟨(own_at ho).2.1, (own_at ho).2.2.1⟩)
  have hg2w : w.heap.size ≤ w3.heap.size := Nat.le_trans LW hb3.size
  clear ho hb3 HSL hxG b3
  go_upto_region 9 with fail
  generalize hg2 : w3.heap.size = g2 at *
  clear hg2
  generalize w3.alloc (.cells #[.int .i64 0, .slice X 19 xc] 27) = w4 at *
  have HBK := Lib.hid (cell_s true a0 s1 a0 s1 S false X 19 xc x w4 (by omega) (by omega) (by rw [HXL.out]; decide) (by rw [HXL.out]) HXC.out.1 HXC.out.2 (HO.out.more (Nat.le_of_lt l2)) (iff_of_true rfl ⟨rfl, rfl, HXL.out, by rw [HSM.out]⟩))
  rw [part_yes] at HBK
  obtain ⟨t0, t1, t2, -, -, -⟩ := id TT
  obtain ⟨d0, d1, e0, e1⟩ := id GG
  have hl := HXL.out
  go_upto_region 10 with (go_at_call 9; (with_reducible refine (HBK.out).mono ?_); rintro e w5 ⟨⟨Y, yc, rfl, ho5⟩, hb5⟩)
  clear hl t0 t1 t2 d0 d1 e0 e1 HBK
  have HKB := Lib.hid (keep_c true Y A 8 8 yc c x x w5 HXL.out HXL.out (by decide) (own_at ho5).2.2.2 (HXA.out.next hb5) (iff_of_true rfl rfl))
  go_upto_region 12 with (go_at_call 13; (with_reducible refine (HKB.out).mono ?_); rintro e w6 ⟨rfl, hb6⟩)
  have b6 := bt hb5 hb6
  have l2' := l2
  replace TT := TT.keep b6 l1
  replace GG := GG.keep b6 l2
  replace l1 := Nat.lt_of_lt_of_le l1 b6.size
  replace l2 := Nat.lt_of_lt_of_le l2 b6.size
  replace HXA := Lib.hid (HXA.out.next b6)
  replace HYB := Lib.hid (HYB.out.next b6)
  replace HO := Lib.hid (HO.out.below (b6.mono (Nat.le_of_lt l2')))
  replace hx := bt hx b6
  clear hb5 hb6 b6 ho5 HKB
  have hk := HK.out
  obtain ⟨d0, d1, e0, e1⟩ := id GG
  go_upto_region 24 with fail
  have hxs : Below g2 w6 (w6.setCell ⟨g2, 0, none⟩ (.int .i64 6)) := (Below.refl g2 w6).setCell (p := ⟨g2, 0, none⟩) (Nat.le_refl g2) _
  have TT8 := TT.keep hxs l12
  have GG8 := GG.set0 (.int .i64 6)
  have hx8 := hx.trans (hxs.mono hg2w)
  have HO8 := Lib.hid ((HO.out.below hxs).more (show g2 ≤ (w6.setCell ⟨g2, 0, none⟩ (.int .i64 6)).heap.size by simpa using Nat.le_of_lt l2))
  clear d0 d1 e0 e1 TT GG hxs hx
  generalize w6.setCell ⟨g2, 0, none⟩ (.int .i64 6) = w8 at *
  have HNB := Lib.hid (show Calls Try.prog 9 #[.agg #[.int .i64 6, .slice X 19 xc], .int .i64 a0, .agg #[.int .i64 s1, .int .i64 S, .bool false]] w8 fun e w' => BytB w8.heap.size [] false e w' ∧ Below w8.heap.size w8 w' from no_block 6 a0 s1 S false X 19 xc _ w8 ((sel.enc_length _ _ _).trans (by rw [HXL.out])) HXC.out.1 HXC.out.2 HO8.out (fun h => no_err (.inl (by decide)) h.1))
  clear hk
  obtain ⟨t0, t1, t2, -, -, -⟩ := id TT8
  obtain ⟨d0, d1, -, -⟩ := id GG8
  go_wp2_with (first
    | (go_at_call 9; (with_reducible refine (HNB.out).mono ?_); rintro e w9 ⟨⟨Z2, z2, rfl, -⟩, hb9⟩)
    | (go_at_call 17; (with_reducible refine ((wk_ent _)).mono ?_); rintro e w10 ⟨rfl, hb10⟩))
  go_ret
  exact ⟨rfl, bt hx8 (bt hb9 hb10)⟩
set_option maxRecDepth 100000 in
set_option maxHeartbeats 8000000 in
theorem et_4 (addr stamp how num : Int) (A B : Option Addr) (c d : Nat) (x y : List UInt8) (w : World) (hxl : x.length = 8) (hyl : y.length = 8) (hA : Sl w w.heap.size A x) (hB : Sl w w.heap.size B y) (hd : 8 ≤ d) (hk : (IntKind.u64.wrap how).tmod 6 = 4) :
    Calls Try.prog 4 #[.int .i64 addr, .int .i64 stamp, .slice A 8 c, .slice B 8 d, .int .i64 how, .int .i64 num] w fun e w' => e = .returned (.bool true) ∧ Below w.heap.size w w' := by
  have ha := gmt.wrap_mod addr 60000 (by omega)
  have hs := gmt.wrap_mod stamp 1000000 (by omega)
  have hn := gmt.wrap_mod num 1000 (by omega)
  generalize hA0 : (IntKind.u64.wrap addr).tmod 60000 = a0 at *
  generalize hS0 : (IntKind.u64.wrap stamp).tmod 1000000 = s0 at *
  generalize hN0 : (IntKind.u64.wrap num).tmod 1000 = n0 at *
  have HXL := Lib.hid hxl
  have HYL := Lib.hid hyl
  have HXA := Lib.hid hA
  have HYB := Lib.hid hB
  have HK := Lib.hid hk
  clear hxl hyl hA hB hk
  obtain ⟨S, hS⟩ : ∃ S : Nat, S = crc.sum x := ⟨_, rfl⟩
  have HSM := Lib.hid hS
  clear hS
  go_enter Try.func4, Try.ntmps4
  go_upto_region 4 with fail
  clear hA0 hS0 hN0
  generalize hs1 : 1 + s0 = s1 at *
  generalize hn1 : 1 + n0 = n1 at *
  replace hs : 1 ≤ s1 ∧ s1 ≤ 1000000 := by omega
  replace hn : 1 ≤ n1 ∧ n1 ≤ 1000 := by omega
  clear hs1 hn1
  have HMK := Lib.hid (mak_ok s1 A c x w (by omega) HXL.out HXA.out)
  rw [← HSM.out] at HMK
  go_upto_region 5 with (go_at_call 12; (with_reducible refine (HMK.out).mono ?_); rintro e w1 ⟨rfl, hb1⟩)
  have hxE := bl w1 (.cells #[.int .i64 s1, .int .i64 S, .bool false] 29)
  have TT := three_new w1 (.int .i64 s1) (.int .i64 S) (.bool false) 29
  have l1 : w1.heap.size < (w1.alloc (.cells #[.int .i64 s1, .int .i64 S, .bool false] 29)).heap.size := by simp
  have hx := bt hb1 hxE
  have LW := hx.size
  replace HXA := Lib.hid (HXA.out.next hx)
  replace HYB := Lib.hid (HYB.out.next hx)
  clear hb1 hxE HMK
  generalize hg1 : w1.heap.size = g1 at *
  clear hg1
  generalize w1.alloc (.cells #[.int .i64 s1, .int .i64 S, .bool false] 29) = w2 at *
  have HSL := Lib.hid (seal_c a0 s1 A 8 c 19 x w2 (by omega) (by omega) HXL.out (by omega) rfl HXA.out)
  go_upto_region 8 with (go_at_call 19; (with_reducible refine (HSL.out).mono ?_); rintro e w3 ⟨⟨X, xc, rfl, ho⟩, hb3⟩)
  have hxG := bl w3 (.cells #[.int .i64 0, .slice X 19 xc] 27)
  have GG := duo_new w3 (.int .i64 0) (.slice X 19 xc) 27
  have l2 : w3.heap.size < (w3.alloc (.cells #[.int .i64 0, .slice X 19 xc] 27)).heap.size := by simp
  have l12 : g1 < w3.heap.size := Nat.lt_of_lt_of_le l1 hb3.size
  have b3 := bt hb3 hxG
  replace TT := TT.keep b3 l1
  replace l1 := Nat.lt_of_lt_of_le l1 b3.size
  replace HXA := Lib.hid (HXA.out.next b3)
  replace HYB := Lib.hid (HYB.out.next b3)
  replace hx := bt hx b3
  have HO := Lib.hid ((own_at ho).2.2.2.below hxG)
  have HXC := Lib.hid (show 19 ≤ xc ∧ xc ≤ maxLen from ⟨(own_at ho).2.1, (own_at ho).2.2.1⟩)
  have hg2w : w.heap.size ≤ w3.heap.size := Nat.le_trans LW hb3.size
  clear ho hb3 HSL hxG b3
  go_upto_region 9 with fail
  generalize hg2 : w3.heap.size = g2 at *
  clear hg2
  generalize w3.alloc (.cells #[.int .i64 0, .slice X 19 xc] 27) = w4 at *
  have HBK := Lib.hid (cell_s true a0 s1 a0 s1 S false X 19 xc x w4 (by omega) (by omega) (by rw [HXL.out]; decide) (by rw [HXL.out]) HXC.out.1 HXC.out.2 (HO.out.more (Nat.le_of_lt l2)) (iff_of_true rfl ⟨rfl, rfl, HXL.out, by rw [HSM.out]⟩))
  rw [part_yes] at HBK
  obtain ⟨t0, t1, t2, -, -, -⟩ := id TT
  obtain ⟨d0, d1, e0, e1⟩ := id GG
  have hl := HXL.out
  go_upto_region 10 with (go_at_call 9; (with_reducible refine (HBK.out).mono ?_); rintro e w5 ⟨⟨Y, yc, rfl, ho5⟩, hb5⟩)
  clear hl t0 t1 t2 d0 d1 e0 e1 HBK
  have HKB := Lib.hid (keep_c true Y A 8 8 yc c x x w5 HXL.out HXL.out (by decide) (own_at ho5).2.2.2 (HXA.out.next hb5) (iff_of_true rfl rfl))
  go_upto_region 12 with (go_at_call 13; (with_reducible refine (HKB.out).mono ?_); rintro e w6 ⟨rfl, hb6⟩)
  have b6 := bt hb5 hb6
  have l2' := l2
  replace TT := TT.keep b6 l1
  replace GG := GG.keep b6 l2
  replace l1 := Nat.lt_of_lt_of_le l1 b6.size
  replace l2 := Nat.lt_of_lt_of_le l2 b6.size
  replace HXA := Lib.hid (HXA.out.next b6)
  replace HYB := Lib.hid (HYB.out.next b6)
  replace HO := Lib.hid (HO.out.below (b6.mono (Nat.le_of_lt l2')))
  replace hx := bt hx b6
  clear hb5 hb6 b6 ho5 HKB
  have hk := HK.out
  obtain ⟨d0, d1, e0, e1⟩ := id GG
  have H7 := Lib.hid (show (y.take 7).length = 7 by rw [List.length_take, HYL.out]; rfl)
  have H7S := Lib.hid (HYB.out.take 7)
  obtain ⟨bb, bo, hbe, -, -⟩ := HYB.out (by rw [HYL.out]; decide)
  subst hbe
  have HS2 := Lib.hid (seal_c a0 s1 (some ⟨bb, bo, none⟩) 7 d 18 (y.take 7) w6 (by omega) (by omega) H7.out (by omega) rfl H7S.out)
  go_upto_region 24 with (go_at_call 19; (with_reducible refine HS2.out.mono ?_); rintro e w7 ⟨⟨Z, zc, rfl, ho7⟩, hb7⟩; replace GG := GG.keep hb7 l2; clear d0 d1 e0 e1; obtain ⟨d0, d1, e0, e1⟩ := id GG)
  replace TT := TT.keep hb7 l1
  replace hx := bt hx hb7
  have hxs : Below g2 w7 (w7.setCell ⟨g2, 1, none⟩ (.slice Z 18 zc)) := (Below.refl g2 w7).setCell (p := ⟨g2, 1, none⟩) (Nat.le_refl g2) _
  have TT8 := TT.keep hxs l12
  have GG8 := GG.set1 (.slice Z 18 zc)
  have hx8 := hx.trans (hxs.mono hg2w)
  have HO8 := Lib.hid (own_at (own_set (o := 1) ho7 l2 (.slice Z 18 zc)))
  clear ho7 hb7 HS2 d0 d1 e0 e1 TT GG hxs hx
  generalize w7.setCell ⟨g2, 1, none⟩ (.slice Z 18 zc) = w8 at *
  have HNB := Lib.hid (show Calls Try.prog 9 #[.agg #[.int .i64 0, .slice Z 18 zc], .int .i64 a0, .agg #[.int .i64 s1, .int .i64 S, .bool false]] w8 fun e w' => BytB w8.heap.size [] false e w' ∧ Below w8.heap.size w8 w' from no_block 0 a0 s1 S false Z 18 zc _ w8 HO8.out.1 HO8.out.2.1 HO8.out.2.2.1 HO8.out.2.2.2 (no_other (by omega) (by omega) (by rw [H7.out]; decide) (fun h => by have h7 := h.2.2; rw [H7.out] at h7; omega)))
  clear hk
  obtain ⟨t0, t1, t2, -, -, -⟩ := id TT8
  obtain ⟨d0, d1, -, -⟩ := id GG8
  go_wp2_with (first
    | (go_at_call 9; (with_reducible refine (HNB.out).mono ?_); rintro e w9 ⟨⟨Z2, z2, rfl, -⟩, hb9⟩)
    | (go_at_call 17; (with_reducible refine ((wk_ent _)).mono ?_); rintro e w10 ⟨rfl, hb10⟩))
  go_ret
  exact ⟨rfl, bt hx8 (bt hb9 hb10)⟩
set_option maxRecDepth 100000 in
set_option maxHeartbeats 8000000 in
theorem et_5 (addr stamp how num : Int) (A B : Option Addr) (c d : Nat) (x y : List UInt8) (w : World) (hxl : x.length = 8) (hyl : y.length = 8) (hA : Sl w w.heap.size A x) (hB : Sl w w.heap.size B y) (hk : (IntKind.u64.wrap how).tmod 6 = 5) :
    Calls Try.prog 4 #[.int .i64 addr, .int .i64 stamp, .slice A 8 c, .slice B 8 d, .int .i64 how, .int .i64 num] w fun e w' => e = .returned (.bool true) ∧ Below w.heap.size w w' := by
  have ha := gmt.wrap_mod addr 60000 (by omega)
  have hs := gmt.wrap_mod stamp 1000000 (by omega)
  have hn := gmt.wrap_mod num 1000 (by omega)
  generalize hA0 : (IntKind.u64.wrap addr).tmod 60000 = a0 at *
  generalize hS0 : (IntKind.u64.wrap stamp).tmod 1000000 = s0 at *
  generalize hN0 : (IntKind.u64.wrap num).tmod 1000 = n0 at *
  have HXL := Lib.hid hxl
  have HYL := Lib.hid hyl
  have HXA := Lib.hid hA
  have HYB := Lib.hid hB
  have HK := Lib.hid hk
  clear hxl hyl hA hB hk
  obtain ⟨S, hS⟩ : ∃ S : Nat, S = crc.sum x := ⟨_, rfl⟩
  have HSM := Lib.hid hS
  clear hS
  go_enter Try.func4, Try.ntmps4
  go_upto_region 4 with fail
  clear hA0 hS0 hN0
  generalize hs1 : 1 + s0 = s1 at *
  generalize hn1 : 1 + n0 = n1 at *
  replace hs : 1 ≤ s1 ∧ s1 ≤ 1000000 := by omega
  replace hn : 1 ≤ n1 ∧ n1 ≤ 1000 := by omega
  clear hs1 hn1
  have HMK := Lib.hid (mak_ok s1 A c x w (by omega) HXL.out HXA.out)
  rw [← HSM.out] at HMK
  go_upto_region 5 with (go_at_call 12; (with_reducible refine (HMK.out).mono ?_); rintro e w1 ⟨rfl, hb1⟩)
  have hxE := bl w1 (.cells #[.int .i64 s1, .int .i64 S, .bool false] 29)
  have TT := three_new w1 (.int .i64 s1) (.int .i64 S) (.bool false) 29
  have l1 : w1.heap.size < (w1.alloc (.cells #[.int .i64 s1, .int .i64 S, .bool false] 29)).heap.size := by simp
  have hx := bt hb1 hxE
  have LW := hx.size
  replace HXA := Lib.hid (HXA.out.next hx)
  replace HYB := Lib.hid (HYB.out.next hx)
  clear hb1 hxE HMK
  generalize hg1 : w1.heap.size = g1 at *
  clear hg1
  generalize w1.alloc (.cells #[.int .i64 s1, .int .i64 S, .bool false] 29) = w2 at *
  have HSL := Lib.hid (seal_c a0 s1 A 8 c 19 x w2 (by omega) (by omega) HXL.out (by omega) rfl HXA.out)
  go_upto_region 8 with (go_at_call 19; (with_reducible refine (HSL.out).mono ?_); rintro e w3 ⟨⟨X, xc, rfl, ho⟩, hb3⟩)
  have hxG := bl w3 (.cells #[.int .i64 0, .slice X 19 xc] 27)
  have GG := duo_new w3 (.int .i64 0) (.slice X 19 xc) 27
  have l2 : w3.heap.size < (w3.alloc (.cells #[.int .i64 0, .slice X 19 xc] 27)).heap.size := by simp
  have l12 : g1 < w3.heap.size := Nat.lt_of_lt_of_le l1 hb3.size
  have b3 := bt hb3 hxG
  replace TT := TT.keep b3 l1
  replace l1 := Nat.lt_of_lt_of_le l1 b3.size
  replace HXA := Lib.hid (HXA.out.next b3)
  replace HYB := Lib.hid (HYB.out.next b3)
  replace hx := bt hx b3
  have HO := Lib.hid ((own_at ho).2.2.2.below hxG)
  have HXC := Lib.hid (show 19 ≤ xc ∧ xc ≤ maxLen from ⟨(own_at ho).2.1, (own_at ho).2.2.1⟩)
  have hg2w : w.heap.size ≤ w3.heap.size := Nat.le_trans LW hb3.size
  clear ho hb3 HSL hxG b3
  go_upto_region 9 with fail
  generalize hg2 : w3.heap.size = g2 at *
  clear hg2
  generalize w3.alloc (.cells #[.int .i64 0, .slice X 19 xc] 27) = w4 at *
  have HBK := Lib.hid (cell_s true a0 s1 a0 s1 S false X 19 xc x w4 (by omega) (by omega) (by rw [HXL.out]; decide) (by rw [HXL.out]) HXC.out.1 HXC.out.2 (HO.out.more (Nat.le_of_lt l2)) (iff_of_true rfl ⟨rfl, rfl, HXL.out, by rw [HSM.out]⟩))
  rw [part_yes] at HBK
  obtain ⟨t0, t1, t2, -, -, -⟩ := id TT
  obtain ⟨d0, d1, e0, e1⟩ := id GG
  have hl := HXL.out
  go_upto_region 10 with (go_at_call 9; (with_reducible refine (HBK.out).mono ?_); rintro e w5 ⟨⟨Y, yc, rfl, ho5⟩, hb5⟩)
  clear hl t0 t1 t2 d0 d1 e0 e1 HBK
  have HKB := Lib.hid (keep_c true Y A 8 8 yc c x x w5 HXL.out HXL.out (by decide) (own_at ho5).2.2.2 (HXA.out.next hb5) (iff_of_true rfl rfl))
  go_upto_region 12 with (go_at_call 13; (with_reducible refine (HKB.out).mono ?_); rintro e w6 ⟨rfl, hb6⟩)
  have b6 := bt hb5 hb6
  have l2' := l2
  replace TT := TT.keep b6 l1
  replace GG := GG.keep b6 l2
  replace l1 := Nat.lt_of_lt_of_le l1 b6.size
  replace l2 := Nat.lt_of_lt_of_le l2 b6.size
  replace HXA := Lib.hid (HXA.out.next b6)
  replace HYB := Lib.hid (HYB.out.next b6)
  replace HO := Lib.hid (HO.out.below (b6.mono (Nat.le_of_lt l2')))
  replace hx := bt hx b6
  clear hb5 hb6 b6 ho5 HKB
  have hk := HK.out
  obtain ⟨d0, d1, e0, e1⟩ := id GG
  go_upto_region 24 with fail
  have hxs : Below g2 w6 (w6.setCell ⟨g2, 1, none⟩ (.slice none 0 0)) := (Below.refl g2 w6).setCell (p := ⟨g2, 1, none⟩) (Nat.le_refl g2) _
  have TT8 := TT.keep hxs l12
  have GG8 := GG.set1 (.slice none 0 0)
  have hx8 := hx.trans (hxs.mono hg2w)
  have HO8 := Lib.hid ((HO.out.below hxs).more (show g2 ≤ (w6.setCell ⟨g2, 1, none⟩ (.slice none 0 0)).heap.size by simpa using Nat.le_of_lt l2))
  clear d0 d1 e0 e1 TT GG hxs hx
  generalize w6.setCell ⟨g2, 1, none⟩ (.slice none 0 0) = w8 at *
  have HNB := Lib.hid (show Calls Try.prog 9 #[.agg #[.int .i64 0, .slice none 0 0], .int .i64 a0, .agg #[.int .i64 s1, .int .i64 S, .bool false]] w8 fun e w' => BytB w8.heap.size [] false e w' ∧ Below w8.heap.size w8 w' from no_block 0 a0 s1 S false none 0 0 [] w8 rfl (Nat.le_refl _) (Nat.zero_le _) (Sl.nil _ _ _) (fun h => no_err (.inr (by decide)) h.1))
  clear hk
  obtain ⟨t0, t1, t2, -, -, -⟩ := id TT8
  obtain ⟨d0, d1, -, -⟩ := id GG8
  go_wp2_with (first
    | (go_at_call 9; (with_reducible refine (HNB.out).mono ?_); rintro e w9 ⟨⟨Z2, z2, rfl, -⟩, hb9⟩)
    | (go_at_call 17; (with_reducible refine ((wk_ent _)).mono ?_); rintro e w10 ⟨rfl, hb10⟩))
  go_ret
  exact ⟨rfl, bt hx8 (bt hb9 hb10)⟩
/-- The law. -/
theorem tells_law (addr stamp how num : Int) (A B : Option Addr) (n m c d : Nat) (x y : List UInt8) (w : World) (hxl : x.length = n) (hyl : y.length = m) (hA : Sl w w.heap.size A x) (hB : Sl w w.heap.size B y) (hd : m ≤ d) :
    Calls Try.prog 4 #[.int .i64 addr, .int .i64 stamp, .slice A n c, .slice B m d, .int .i64 how, .int .i64 num] w fun e w' => e = .returned (.bool true) ∧ Below w.heap.size w w' := by
  by_cases h : n = 8 ∧ m = 8
  · obtain ⟨rfl, rfl⟩ := h
    have hk := gmt.wrap_mod how 6 (by omega)
    have h6 : (IntKind.u64.wrap how).tmod 6 = 0 ∨ (IntKind.u64.wrap how).tmod 6 = 1 ∨ (IntKind.u64.wrap how).tmod 6 = 2 ∨ (IntKind.u64.wrap how).tmod 6 = 3 ∨ (IntKind.u64.wrap how).tmod 6 = 4 ∨ (IntKind.u64.wrap how).tmod 6 = 5 := by omega
    rcases h6 with h6 | h6 | h6 | h6 | h6 | h6
    · exact et_0 addr stamp how num A B c d x y w hxl hyl hA hB h6
    · exact et_1 addr stamp how num A B c d x y w hxl hyl hA hB h6
    · exact et_2 addr stamp how num A B c d x y w hxl hyl hA hB h6
    · exact et_3 addr stamp how num A B c d x y w hxl hyl hA hB h6
    · exact et_4 addr stamp how num A B c d x y w hxl hyl hA hB hd h6
    · exact et_5 addr stamp how num A B c d x y w hxl hyl hA hB h6
  · exact et_long addr stamp how num A B n m c d w h
end Go.Proofs.Ytejfehkcjcohdaa.ent
