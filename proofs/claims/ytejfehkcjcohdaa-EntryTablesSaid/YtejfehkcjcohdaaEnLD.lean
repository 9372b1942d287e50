/-
  The law EntryTables, walked. Conditions: none.
-/
import Derived.Test.YtejfehkcjcohdaaEnF
import Derived.Test.YtejfehkcjcohdaaGGm
import Derived.Deep.RegionHeld3
namespace Go.Proofs.Ytejfehkcjcohdaa.ent
open Go.RowKit Go.Lib
open Go.Proofs.Ytejfehkcjcohdaa.gmt (Ok)
open Go.Proofs.Ytejfehkcjcohdaa.anc (bl kal kst ks bm ka)
open Go.Proofs.Ytejfehkcjcohdaa.sel (Three three_new Lies opened Opn no opened_err enc enc_opened open_any)
open Go.Proofs.Ytejfehkcjcohdaa.tbl (Ent EntOk entsN TV C1 c1_new G5 g5_new TbE)
open Go.Proofs.Ytejfehkcjcohdaa.tbl (RdT encT encT_length told_of rtable_any rbytes_tab tab_same)
set_option maxRecDepth 100000 in
set_option maxHeartbeats 8000000 in
theorem eb_heavy (zones data addr root how num : Int) (t : tbl.TV) (n : Nat) (w : World) (hn : t.es.length = n) (ht : t.In w w.heap.size) (h20 : 20 < n) :
    Calls Try.prog 5 #[.int .i64 zones, .int .i64 data, .agg #[.slice t.A n t.c], .int .i64 addr, .int .i64 root, .int .i64 how, .int .i64 num] w fun e w' => e = .returned (.bool true) ∧ Below w.heap.size w w' := by
  have TB := c1_new w (.slice t.A n t.c) 36
  have hx := bl w (.cells #[.slice t.A n t.c] 36)
  have lT : w.heap.size < (w.alloc (.cells #[.slice t.A n t.c] 36)).heap.size := by simp
  have HTN := Lib.hid hn
  have HTI := Lib.hid (ht.next hx)
  clear hn ht
  go_enter Try.func5, Try.ntmps5
  go_upto_region 1 with fail
  generalize (w.alloc (.cells #[.slice t.A n t.c] 36)) = w0 at *
  have HSO := Lib.hid (gmt.some_any zones data 1 0 0 w0)
  go_upto_region 2 with (go_at_call 21; (with_reducible refine (HSO.out).mono ?_); rintro e w1 ⟨⟨z, d, s, l, a, ho, rfl⟩, hb1⟩)
  have hxG := bl w1 (.cells #[.int .i64 z, .int .i64 d, .int .i64 s, .int .i64 l, .int .i64 a] 23)
  have GG := g5_new w1 z d s l a
  have l1 : w1.heap.size < (w1.alloc (.cells #[.int .i64 z, .int .i64 d, .int .i64 s, .int .i64 l, .int .i64 a] 23)).heap.size := by simp
  have b1 := bt hb1 hxG
  replace TB := TB.keep b1 lT
  replace HTI := Lib.hid (HTI.out.next b1)
  replace lT := Nat.lt_of_lt_of_le lT b1.size
  replace hx := bt hx b1
  have HO := Lib.hid ho
  clear hb1 hxG b1 ho HSO
  generalize hg1 : w1.heap.size = g1 at *
  clear hg1
  generalize w1.alloc (.cells #[.int .i64 z, .int .i64 d, .int .i64 s, .int .i64 l, .int .i64 a] 23) = w2 at *
  have t0 := TB.c0
  obtain ⟨g0, g1', g2, g3, g4⟩ := id GG
  have i1 : (20 : Int) < (n : Int) := by omega
  go_wp2
  go_ret
  exact ⟨rfl, hx⟩
set_option maxRecDepth 100000 in
set_option maxHeartbeats 8000000 in
theorem eb_0 (zones data addr root how num : Int) (t : tbl.TV) (n : Nat) (w : World) (hn : t.es.length = n) (ht : t.In w w.heap.size) (h20 : n ≤ 20) (hk : (IntKind.u64.wrap how).tmod 4 = 0) :
    Calls Try.prog 5 #[.int .i64 zones, .int .i64 data, .agg #[.slice t.A n t.c], .int .i64 addr, .int .i64 root, .int .i64 how, .int .i64 num] w fun e w' => e = .returned (.bool true) ∧ Below w.heap.size w w' := by
  have HK := Lib.hid hk
  have i1 : ¬ (20 : Int) < (n : Int) := by omega
  clear hk
  have TB := c1_new w (.slice t.A n t.c) 36
  have hx := bl w (.cells #[.slice t.A n t.c] 36)
  have lT : w.heap.size < (w.alloc (.cells #[.slice t.A n t.c] 36)).heap.size := by simp
  have HTN := Lib.hid hn
  have HTI := Lib.hid (ht.next hx)
  clear hn ht
  go_enter Try.func5, Try.ntmps5
  go_upto_region 1 with fail
  generalize (w.alloc (.cells #[.slice t.A n t.c] 36)) = w0 at *
  have HSO := Lib.hid (gmt.some_any zones data 1 0 0 w0)
  go_upto_region 2 with (go_at_call 21; (with_reducible refine (HSO.out).mono ?_); rintro e w1 ⟨⟨z, d, s, l, a, ho, rfl⟩, hb1⟩)
  have hxG := bl w1 (.cells #[.int .i64 z, .int .i64 d, .int .i64 s, .int .i64 l, .int .i64 a] 23)
  have GG := g5_new w1 z d s l a
  have l1 : w1.heap.size < (w1.alloc (.cells #[.int .i64 z, .int .i64 d, .int .i64 s, .int .i64 l, .int .i64 a] 23)).heap.size := by simp
  have b1 := bt hb1 hxG
  replace TB := TB.keep b1 lT
  replace HTI := Lib.hid (HTI.out.next b1)
  replace lT := Nat.lt_of_lt_of_le lT b1.size
  replace hx := bt hx b1
  have HO := Lib.hid ho
  clear hb1 hxG b1 ho HSO
  generalize hg1 : w1.heap.size = g1 at *
  clear hg1
  generalize w1.alloc (.cells #[.int .i64 z, .int .i64 d, .int .i64 s, .int .i64 l, .int .i64 a] 23) = w2 at *
  have t0 := TB.c0
  obtain ⟨g0, g1', g2, g3, g4⟩ := id GG
  by_cases hg : tbl.Good d t.es
  case neg =>
    have HGD : false = true ↔ tbl.Good d t.es := iff_of_false Bool.false_ne_true hg
    have HRT := Lib.hid (show Calls Try.prog 22 #[.agg #[.int .i64 z, .int .i64 d, .int .i64 s, .int .i64 l, .int .i64 a], .agg #[.slice t.A n t.c]] w2 fun e w' => e = .returned (.bool false) ∧ Below w2.heap.size w2 w' from by
      have h9 := rtable_any false z d s l a t w2 HO.out HTI.out (by rw [HTN.out]; omega) HGD
      rw [tbl.TV.v, HTN.out] at h9
      exact h9)
    clear hg HGD
    go_wp2_with (go_at_call 22; (with_reducible refine (HRT.out).mono ?_); rintro e w3 ⟨rfl, hb3⟩)
    go_ret
    exact ⟨rfl, bt hx hb3⟩
  have HGD : true = true ↔ tbl.Good d t.es := iff_of_true rfl hg
  have HRT := Lib.hid (show Calls Try.prog 22 #[.agg #[.int .i64 z, .int .i64 d, .int .i64 s, .int .i64 l, .int .i64 a], .agg #[.slice t.A n t.c]] w2 fun e w' => e = .returned (.bool true) ∧ Below w2.heap.size w2 w' from by
    have h9 := rtable_any true z d s l a t w2 HO.out HTI.out (by rw [HTN.out]; omega) HGD
    rw [tbl.TV.v, HTN.out] at h9
    exact h9)
  have HG := Lib.hid hg
  have hd := HO.out.2.1
  have hn5 : (n : Int) = d + 1 := by have := hg.1; rw [HTN.out] at this; exact this
  obtain ⟨N9, hN9⟩ : ∃ q, q = n * 9 := ⟨_, rfl⟩
  have HN9 := Lib.hid (show N9 ≤ 45 by omega)
  have HNE := Lib.hid hN9
  clear hg HGD hd hn5 hN9
  have ha := gmt.wrap_mod addr 60000 (by omega)
  have hr := gmt.wrap_mod root 1000000 (by omega)
  have hm := gmt.wrap_mod num 1000 (by omega)
  generalize hA0 : (IntKind.u64.wrap addr).tmod 60000 = a0 at *
  generalize hR0 : (IntKind.u64.wrap root).tmod 1000000 = r0 at *
  generalize hM0 : (IntKind.u64.wrap num).tmod 1000 = m0 at *
  go_upto_region 4 with (go_at_call 22; (with_reducible refine (HRT.out).mono ?_); rintro e w3 ⟨rfl, hb3⟩)
  replace GG := GG.keep hb3 l1
  replace TB := TB.keep hb3 lT
  replace HTI := Lib.hid (HTI.out.next hb3)
  replace l1 := Nat.lt_of_lt_of_le l1 hb3.size
  replace lT := Nat.lt_of_lt_of_le lT hb3.size
  replace hx := bt hx hb3
  clear hb3 HRT t0 g0 g1' g2 g3 g4
  go_upto_region 5 with fail
  clear hA0 hR0 hM0
  generalize hm1 : 1 + m0 = m1 at *
  replace hm : 1 ≤ m1 ∧ m1 ≤ 1000 := by omega
  clear hm1
  have t0 := TB.c0
  have HBY := Lib.hid (show Calls Try.prog 23 #[.agg #[.slice t.A n t.c]] w3 fun e w' => tbl.BytQ w3.heap.size N9 (encT t.es) e w' ∧ Below w3.heap.size w3 w' from by
    have h9 := rbytes_tab t n N9 w3 HTI.out HTN.out h20 HG.out.2.1 HNE.out.symm
    rw [tbl.TV.v, HTN.out] at h9
    exact h9)
  have HSL := Lib.hid (show ∀ (Q : Option Addr) (q : Nat) W, Sl W W.heap.size Q (encT t.es) → Calls Try.prog 19 #[.agg #[.int .i64 a0, .int .i64 r0, .slice Q N9 q]] W fun e w' => BytN W.heap.size (N9 + 11) (enc a0.toNat r0.toNat (encT t.es)) 0 e w' ∧ Below W.heap.size W w' from fun Q q W hQ => seal_c a0 r0 Q N9 q (N9 + 11) _ W (by omega) (by omega) (by rw [encT_length, HTN.out]; exact HNE.out.symm) (by have := HN9.out; omega) rfl hQ)
  go_upto_region 6 with (first
    | (go_at_call 23; (with_reducible refine (HBY.out).mono ?_); rintro e w4 ⟨⟨Q, q, rfl, -, hoq⟩, hb4⟩)
    | (go_at_call 19; (with_reducible refine (HSL.out _ _ _ (own_at hoq).2.2.2).mono ?_); rintro e w5 ⟨⟨X, xc, rfl, ho5⟩, hb5⟩))
  have b5 := bt hb4 hb5
  replace GG := GG.keep b5 l1
  replace TB := TB.keep b5 lT
  replace HTI := Lib.hid (HTI.out.next b5)
  replace l1 := Nat.lt_of_lt_of_le l1 b5.size
  replace lT := Nat.lt_of_lt_of_le lT b5.size
  replace hx := bt hx b5
  obtain ⟨M, hM⟩ : ∃ M, M = N9 + 11 := ⟨_, rfl⟩
  rw [← hM] at ho5 ⊢
  have HME := Lib.hid hM
  have HX := Lib.hid (own_at ho5)
  have HEL := Lib.hid (show (enc a0.toNat r0.toNat (encT t.es)).length = M from (own_at ho5).1)
  clear hoq hb4 ho5 hb5 b5 HBY HSL t0 hM
  have HTC := Lib.hid (tcell_c z d s l a a0 r0 a0 r0 t.es X M xc w5 HO.out HG.out (by omega) (by omega) (by rw [HTN.out, ← HNE.out]; exact HME.out.symm) HX.out.2.1 HX.out.2.2.1 HX.out.2.2.2 rfl rfl)
  obtain ⟨g0, g1', g2, g3, g4⟩ := id GG
  go_upto_region 7 with (go_at_call 11; (with_reducible refine HTC.out.mono ?_); rintro e w6 ⟨⟨u, heu, hue0, huo⟩, hb6⟩; rw [tbl.TV.v] at heu; subst heu; have HUE := Lib.hid hue0; clear hue0)
  obtain ⟨K, hK⟩ : ∃ K, K = u.es.length := ⟨_, rfl⟩
  rw [← hK]
  have hxU := bl w6 (.cells #[.slice u.A K u.c] 36)
  have UU := c1_new w6 (.slice u.A K u.c) 36
  have b6 := bt hb6 hxU
  have HUI := Lib.hid ((tbl.TV.Own.inn huo).next hxU)
  have HKE := Lib.hid hK
  replace GG := GG.keep b6 l1
  replace TB := TB.keep b6 lT
  replace HTI := Lib.hid (HTI.out.next b6)
  have HXS := Lib.hid (HX.out.2.2.2.next b6)
  replace l1 := Nat.lt_of_lt_of_le l1 b6.size
  replace lT := Nat.lt_of_lt_of_le lT b6.size
  replace hx := bt hx b6
  clear hb6 hxU b6 huo hK g0 g1' g2 g3 g4 HTC
  generalize hgU : w6.heap.size = gU at *
  clear hgU
  generalize w6.alloc (.cells #[.slice u.A K u.c] 36) = w7 at *
  have HKT := Lib.hid (show Calls Try.prog 16 #[.agg #[.slice u.A K u.c], .agg #[.slice t.A n t.c]] w7 fun e w' => e = .returned (.bool true) ∧ Below w7.heap.size w7 w' from by
    have h9 := tab_same u t w7 HUI.out HTI.out (by rw [HUE.out, HTN.out]; omega)
    rw [decide_eq_true HUE.out, tbl.TV.v, tbl.TV.v, HTN.out, ← HKE.out] at h9
    exact h9)
  have t0 := TB.c0
  have u0 := UU.c0
  go_upto_region 9 with (go_at_call 16; (with_reducible refine (HKT.out).mono ?_); rintro e w8 ⟨rfl, hb8⟩)
  replace GG := GG.keep hb8 l1
  replace l1 := Nat.lt_of_lt_of_le l1 hb8.size
  replace hx := bt hx hb8
  replace HXS := Lib.hid (HXS.out.next hb8)
  clear t0 u0 UU TB HTI HUI HUE HKE HKT hb8 lT
  have hk := HK.out
  obtain ⟨g0, g1', g2, g3, g4⟩ := id GG
  have HNT := Lib.hid (no_table z d s l a 0 a0 (r0 + m1) X M xc _ w8 HEL.out HX.out.2.1 HX.out.2.2.1 HXS.out (no_say (by omega) (by omega) (by rw [encT_length, HTN.out, ← HNE.out]; have := HN9.out; omega) (fun h => by omega)))
  go_upto_region 17 with (go_at_call 11; (with_reducible refine HNT.out.mono ?_); rintro e w9 ⟨⟨v, hev, -, -⟩, hb9⟩; rw [tbl.TV.v] at hev; subst hev)
  clear hk g0 g1' g2 g3 g4
  go_wp2_with (go_at_call 17; (with_reducible refine ((wk_ent _)).mono ?_); rintro e w11 ⟨rfl, hb11⟩)
  go_ret
  exact ⟨rfl, bt hx (bt hb9 hb11)⟩
set_option maxRecDepth 100000 in
set_option maxHeartbeats 8000000 in
theorem eb_1 (zones data addr root how num : Int) (t : tbl.TV) (n : Nat) (w : World) (hn : t.es.length = n) (ht : t.In w w.heap.size) (h20 : n ≤ 20) (hk : (IntKind.u64.wrap how).tmod 4 = 1) :
    Calls Try.prog 5 #[.int .i64 zones, .int .i64 data, .agg #[.slice t.A n t.c], .int .i64 addr, .int .i64 root, .int .i64 how, .int .i64 num] w fun e w' => e = .returned (.bool true) ∧ Below w.heap.size w w' := by
  have HK := Lib.hid hk
  have i1 : ¬ (20 : Int) < (n : Int) := by omega
  clear hk
  have TB := c1_new w (.slice t.A n t.c) 36
  have hx := bl w (.cells #[.slice t.A n t.c] 36)
  have lT : w.heap.size < (w.alloc (.cells #[.slice t.A n t.c] 36)).heap.size := by simp
  have HTN := Lib.hid hn
  have HTI := Lib.hid (ht.next hx)
  clear hn ht
  go_enter Try.func5, Try.ntmps5
  go_upto_region 1 with fail
  generalize (w.alloc (.cells #[.slice t.A n t.c] 36)) = w0 at *
  have HSO := Lib.hid (gmt.some_any zones data 1 0 0 w0)
  go_upto_region 2 with (go_at_call 21; (with_reducible refine (HSO.out).mono ?_); rintro e w1 ⟨⟨z, d, s, l, a, ho, rfl⟩, hb1⟩)
  have hxG := bl w1 (.cells #[.int .i64 z, .int .i64 d, .int .i64 s, .int .i64 l, .int .i64 a] 23)
  have GG := g5_new w1 z d s l a
  have l1 : w1.heap.size < (w1.alloc (.cells #[.int .i64 z, .int .i64 d, .int .i64 s, .int .i64 l, .int .i64 a] 23)).heap.size := by simp
  have b1 := bt hb1 hxG
  replace TB := TB.keep b1 lT
  replace HTI := Lib.hid (HTI.out.next b1)
  replace lT := Nat.lt_of_lt_of_le lT b1.size
  replace hx := bt hx b1
  have HO := Lib.hid ho
  clear hb1 hxG b1 ho HSO
  generalize hg1 : w1.heap.size = g1 at *
  clear hg1
  generalize w1.alloc (.cells #[.int .i64 z, .int .i64 d, .int .i64 s, .int .i64 l, .int .i64 a] 23) = w2 at *
  have t0 := TB.c0
  obtain ⟨g0, g1', g2, g3, g4⟩ := id GG
  by_cases hg : tbl.Good d t.es
  case neg =>
    have HGD : false = true ↔ tbl.Good d t.es := iff_of_false Bool.false_ne_true hg
    have HRT := Lib.hid (show Calls Try.prog 22 #[.agg #[.int .i64 z, .int .i64 d, .int .i64 s, .int .i64 l, .int .i64 a], .agg #[.slice t.A n t.c]] w2 fun e w' => e = .returned (.bool false) ∧ Below w2.heap.size w2 w' from by
      have h9 := rtable_any false z d s l a t w2 HO.out HTI.out (by rw [HTN.out]; omega) HGD
      rw [tbl.TV.v, HTN.out] at h9
      exact h9)
    clear hg HGD
    go_wp2_with (go_at_call 22; (with_reducible refine (HRT.out).mono ?_); rintro e w3 ⟨rfl, hb3⟩)
    go_ret
    exact ⟨rfl, bt hx hb3⟩
  have HGD : true = true ↔ tbl.Good d t.es := iff_of_true rfl hg
  have HRT := Lib.hid (show Calls Try.prog 22 #[.agg #[.int .i64 z, .int .i64 d, .int .i64 s, .int .i64 l, .int .i64 a], .agg #[.slice t.A n t.c]] w2 fun e w' => e = .returned (.bool true) ∧ Below w2.heap.size w2 w' from by
    have h9 := rtable_any true z d s l a t w2 HO.out HTI.out (by rw [HTN.out]; omega) HGD
    rw [tbl.TV.v, HTN.out] at h9
    exact h9)
  have HG := Lib.hid hg
  have hd := HO.out.2.1
  have hn5 : (n : Int) = d + 1 := by have := hg.1; rw [HTN.out] at this; exact this
  obtain ⟨N9, hN9⟩ : ∃ q, q = n * 9 := ⟨_, rfl⟩
  have HN9 := Lib.hid (show N9 ≤ 45 by omega)
  have HNE := Lib.hid hN9
  clear hg HGD hd hn5 hN9
  have ha := gmt.wrap_mod addr 60000 (by omega)
  have hr := gmt.wrap_mod root 1000000 (by omega)
  have hm := gmt.wrap_mod num 1000 (by omega)
  generalize hA0 : (IntKind.u64.wrap addr).tmod 60000 = a0 at *
  generalize hR0 : (IntKind.u64.wrap root).tmod 1000000 = r0 at *
  generalize hM0 : (IntKind.u64.wrap num).tmod 1000 = m0 at *
  go_upto_region 4 with (go_at_call 22; (with_reducible refine (HRT.out).mono ?_); rintro e w3 ⟨rfl, hb3⟩)
  replace GG := GG.keep hb3 l1
  replace TB := TB.keep hb3 lT
  replace HTI := Lib.hid (HTI.out.next hb3)
  replace l1 := Nat.lt_of_lt_of_le l1 hb3.size
  replace lT := Nat.lt_of_lt_of_le lT hb3.size
  replace hx := bt hx hb3
  clear hb3 HRT t0 g0 g1' g2 g3 g4
  go_upto_region 5 with fail
  clear hA0 hR0 hM0
  generalize hm1 : 1 + m0 = m1 at *
  replace hm : 1 ≤ m1 ∧ m1 ≤ 1000 := by omega
  clear hm1
  have t0 := TB.c0
  have HBY := Lib.hid (show Calls Try.prog 23 #[.agg #[.slice t.A n t.c]] w3 fun e w' => tbl.BytQ w3.heap.size N9 (encT t.es) e w' ∧ Below w3.heap.size w3 w' from by
    have h9 := rbytes_tab t n N9 w3 HTI.out HTN.out h20 HG.out.2.1 HNE.out.symm
    rw [tbl.TV.v, HTN.out] at h9
    exact h9)
  have HSL := Lib.hid (show ∀ (Q : Option Addr) (q : Nat) W, Sl W W.heap.size Q (encT t.es) → Calls Try.prog 19 #[.agg #[.int .i64 a0, .int .i64 r0, .slice Q N9 q]] W fun e w' => BytN W.heap.size (N9 + 11) (enc a0.toNat r0.toNat (encT t.es)) 0 e w' ∧ Below W.heap.size W w' from fun Q q W hQ => seal_c a0 r0 Q N9 q (N9 + 11) _ W (by omega) (by omega) (by rw [encT_length, HTN.out]; exact HNE.out.symm) (by have := HN9.out; omega) rfl hQ)
  go_upto_region 6 with (first
    | (go_at_call 23; (with_reducible refine (HBY.out).mono ?_); rintro e w4 ⟨⟨Q, q, rfl, -, hoq⟩, hb4⟩)
    | (go_at_call 19; (with_reducible refine (HSL.out _ _ _ (own_at hoq).2.2.2).mono ?_); rintro e w5 ⟨⟨X, xc, rfl, ho5⟩, hb5⟩))
  have b5 := bt hb4 hb5
  replace GG := GG.keep b5 l1
  replace TB := TB.keep b5 lT
  replace HTI := Lib.hid (HTI.out.next b5)
  replace l1 := Nat.lt_of_lt_of_le l1 b5.size
  replace lT := Nat.lt_of_lt_of_le lT b5.size
  replace hx := bt hx b5
  obtain ⟨M, hM⟩ : ∃ M, M = N9 + 11 := ⟨_, rfl⟩
  rw [← hM] at ho5 ⊢
  have HME := Lib.hid hM
  have HX := Lib.hid (own_at ho5)
  have HEL := Lib.hid (show (enc a0.toNat r0.toNat (encT t.es)).length = M from (own_at ho5).1)
  clear hoq hb4 ho5 hb5 b5 HBY HSL t0 hM
  have HTC := Lib.hid (tcell_c z d s l a a0 r0 a0 r0 t.es X M xc w5 HO.out HG.out (by omega) (by omega) (by rw [HTN.out, ← HNE.out]; exact HME.out.symm) HX.out.2.1 HX.out.2.2.1 HX.out.2.2.2 rfl rfl)
  obtain ⟨g0, g1', g2, g3, g4⟩ := id GG
  go_upto_region 7 with (go_at_call 11; (with_reducible refine HTC.out.mono ?_); rintro e w6 ⟨⟨u, heu, hue0, huo⟩, hb6⟩; rw [tbl.TV.v] at heu; subst heu; have HUE := Lib.hid hue0; clear hue0)
  obtain ⟨K, hK⟩ : ∃ K, K = u.es.length := ⟨_, rfl⟩
  rw [← hK]
  have hxU := bl w6 (.cells #[.slice u.A K u.c] 36)
  have UU := c1_new w6 (.slice u.A K u.c) 36
  have b6 := bt hb6 hxU
  have HUI := Lib.hid ((tbl.TV.Own.inn huo).next hxU)
  have HKE := Lib.hid hK
  replace GG := GG.keep b6 l1
  replace TB := TB.keep b6 lT
  replace HTI := Lib.hid (HTI.out.next b6)
  have HXS := Lib.hid (HX.out.2.2.2.next b6)
  replace l1 := Nat.lt_of_lt_of_le l1 b6.size
  replace lT := Nat.lt_of_lt_of_le lT b6.size
  replace hx := bt hx b6
  clear hb6 hxU b6 huo hK g0 g1' g2 g3 g4 HTC
  generalize hgU : w6.heap.size = gU at *
  clear hgU
  generalize w6.alloc (.cells #[.slice u.A K u.c] 36) = w7 at *
  have HKT := Lib.hid (show Calls Try.prog 16 #[.agg #[.slice u.A K u.c], .agg #[.slice t.A n t.c]] w7 fun e w' => e = .returned (.bool true) ∧ Below w7.heap.size w7 w' from by
    have h9 := tab_same u t w7 HUI.out HTI.out (by rw [HUE.out, HTN.out]; omega)
    rw [decide_eq_true HUE.out, tbl.TV.v, tbl.TV.v, HTN.out, ← HKE.out] at h9
    exact h9)
  have t0 := TB.c0
  have u0 := UU.c0
  go_upto_region 9 with (go_at_call 16; (with_reducible refine (HKT.out).mono ?_); rintro e w8 ⟨rfl, hb8⟩)
  replace GG := GG.keep hb8 l1
  replace l1 := Nat.lt_of_lt_of_le l1 hb8.size
  replace hx := bt hx hb8
  replace HXS := Lib.hid (HXS.out.next hb8)
  clear t0 u0 UU TB HTI HUI HUE HKE HKT hb8 lT
  have hk := HK.out
  obtain ⟨g0, g1', g2, g3, g4⟩ := id GG
  have HNT := Lib.hid (no_table z d s l a 0 (a0 + m1) r0 X M xc _ w8 HEL.out HX.out.2.1 HX.out.2.2.1 HXS.out (no_say (by omega) (by omega) (by rw [encT_length, HTN.out, ← HNE.out]; have := HN9.out; omega) (fun h => by omega)))
  go_upto_region 17 with (go_at_call 11; (with_reducible refine HNT.out.mono ?_); rintro e w9 ⟨⟨v, hev, -, -⟩, hb9⟩; rw [tbl.TV.v] at hev; subst hev)
  clear hk g0 g1' g2 g3 g4
  go_wp2_with (go_at_call 17; (with_reducible refine ((wk_ent _)).mono ?_); rintro e w11 ⟨rfl, hb11⟩)
  go_ret
  exact ⟨rfl, bt hx (bt hb9 hb11)⟩
set_option maxRecDepth 100000 in
set_option maxHeartbeats 8000000 in
theorem eb_2 (zones data addr root how num : Int) (t : tbl.TV) (n : Nat) (w : World) (hn : t.es.length = n) (ht : t.In w w.heap.size) (h20 : n ≤ 20) (hk : (IntKind.u64.wrap how).tmod 4 = 2) :
    Calls Try.prog 5 #[.int .i64 zones, .int .i64 data, .agg #[.slice t.A n t.c], .int .i64 addr, .int .i64 root, .int .i64 how, .int .i64 num] w fun e w' => e = .returned (.bool true) ∧ Below w.heap.size w w' := by
  have HK := Lib.hid hk
  have i1 : ¬ (20 : Int) < (n : Int) := by omega
  clear hk
  have TB := c1_new w (.slice t.A n t.c) 36
  have hx := bl w (.cells #[.slice t.A n t.c] 36)
  have lT : w.heap.size < (w.alloc (.cells #[.slice t.A n t.c] 36)).heap.size := by simp
  have HTN := Lib.hid hn
  have HTI := Lib.hid (ht.next hx)
  clear hn ht
  go_enter Try.func5, Try.ntmps5
  go_upto_region 1 with fail
  generalize (w.alloc (.cells #[.slice t.A n t.c] 36)) = w0 at *
  have HSO := Lib.hid (gmt.some_any zones data 1 0 0 w0)
  go_upto_region 2 with (go_at_call 21; (with_reducible refine (HSO.out).mono ?_); rintro e w1 ⟨⟨z, d, s, l, a, ho, rfl⟩, hb1⟩)
  have hxG := bl w1 (.cells #[.int .i64 z, .int .i64 d, .int .i64 s, .int .i64 l, .int .i64 a] 23)
  have GG := g5_new w1 z d s l a
  have l1 : w1.heap.size < (w1.alloc (.cells #[.int .i64 z, .int .i64 d, .int .i64 s, .int .i64 l, .int .i64 a] 23)).heap.size := by simp
  have b1 := bt hb1 hxG
  replace TB := TB.keep b1 lT
  replace HTI := Lib.hid (HTI.out.next b1)
  replace lT := Nat.lt_of_lt_of_le lT b1.size
  replace hx := bt hx b1
  have HO := Lib.hid ho
  clear hb1 hxG b1 ho HSO
  generalize hg1 : w1.heap.size = g1 at *
  clear hg1
  generalize w1.alloc (.cells #[.int .i64 z, .int .i64 d, .int .i64 s, .int .i64 l, .int .i64 a] 23) = w2 at *
  have t0 := TB.c0
  obtain ⟨g0, g1', g2, g3, g4⟩ := id GG
  by_cases hg : tbl.Good d t.es
  case neg =>
    have HGD : false = true ↔ tbl.Good d t.es := iff_of_false Bool.false_ne_true hg
    have HRT := Lib.hid (show Calls Try.prog 22 #[.agg #[.int .i64 z, .int .i64 d, .int .i64 s, .int .i64 l, .int .i64 a], .agg #[.slice t.A n t.c]] w2 fun e w' => e = .returned (.bool false) ∧ Below w2.heap.size w2 w' from by
      have h9 := rtable_any false z d s l a t w2 HO.out HTI.out (by rw [HTN.out]; omega) HGD
      rw [tbl.TV.v, HTN.out] at h9
      exact h9)
    clear hg HGD
    go_wp2_with (go_at_call 22; (with_reducible refine (HRT.out).mono ?_); rintro e w3 ⟨rfl, hb3⟩)
    go_ret
    exact ⟨rfl, bt hx hb3⟩
  have HGD : true = true ↔ tbl.Good d t.es := iff_of_true rfl hg
  have HRT := Lib.hid (show Calls Try.prog 22 #[.agg #[.int .i64 z, .int .i64 d, .int .i64 s, .int .i64 l, .int .i64 a], .agg #[.slice t.A n t.c]] w2 fun e w' => e = .returned (.bool true) ∧ Below w2.heap.size w2 w' from by
    have h9 := rtable_any true z d s l a t w2 HO.out HTI.out (by rw [HTN.out]; omega) HGD
    rw [tbl.TV.v, HTN.out] at h9
    exact h9)
  have HG := Lib.hid hg
  have hd := HO.out.2.1
  have hn5 : (n : Int) = d + 1 := by have := hg.1; rw [HTN.out] at this; exact this
  obtain ⟨N9, hN9⟩ : ∃ q, q = n * 9 := ⟨_, rfl⟩
  have HN9 := Lib.hid (show N9 ≤ 45 by omega)
  have HNE := Lib.hid hN9
  clear hg HGD hd hn5 hN9
  have ha := gmt.wrap_mod addr 60000 (by omega)
  have hr := gmt.wrap_mod root 1000000 (by omega)
  have hm := gmt.wrap_mod num 1000 (by omega)
  generalize hA0 : (IntKind.u64.wrap addr).tmod 60000 = a0 at *
  generalize hR0 : (IntKind.u64.wrap root).tmod 1000000 = r0 at *
  generalize hM0 : (IntKind.u64.wrap num).tmod 1000 = m0 at *
  go_upto_region 4 with (go_at_call 22; (with_reducible refine (HRT.out).mono ?_); rintro e w3 ⟨rfl, hb3⟩)
  replace GG := GG.keep hb3 l1
  replace TB := TB.keep hb3 lT
  replace HTI := Lib.hid (HTI.out.next hb3)
  replace l1 := Nat.lt_of_lt_of_le l1 hb3.size
  replace lT := Nat.lt_of_lt_of_le lT hb3.size
  replace hx := bt hx hb3
  clear hb3 HRT t0 g0 g1' g2 g3 g4
  go_upto_region 5 with fail
  clear hA0 hR0 hM0
  generalize hm1 : 1 + m0 = m1 at *
  replace hm : 1 ≤ m1 ∧ m1 ≤ 1000 := by omega
  clear hm1
  have t0 := TB.c0
  have HBY := Lib.hid (show Calls Try.prog 23 #[.agg #[.slice t.A n t.c]] w3 fun e w' => tbl.BytQ w3.heap.size N9 (encT t.es) e w' ∧ Below w3.heap.size w3 w' from by
    have h9 := rbytes_tab t n N9 w3 HTI.out HTN.out h20 HG.out.2.1 HNE.out.symm
    rw [tbl.TV.v, HTN.out] at h9
    exact h9)
  have HSL := Lib.hid (show ∀ (Q : Option Addr) (q : Nat) W, Sl W W.heap.size Q (encT t.es) → Calls Try.prog 19 #[.agg #[.int .i64 a0, .int .i64 r0, .slice Q N9 q]] W fun e w' => BytN W.heap.size (N9 + 11) (enc a0.toNat r0.toNat (encT t.es)) 0 e w' ∧ Below W.heap.size W w' from fun Q q W hQ => seal_c a0 r0 Q N9 q (N9 + 11) _ W (by omega) (by omega) (by rw [encT_length, HTN.out]; exact HNE.out.symm) (by have := HN9.out; omega) rfl hQ)
  go_upto_region 6 with (first
    | (go_at_call 23; (with_reducible refine (HBY.out).mono ?_); rintro e w4 ⟨⟨Q, q, rfl, -, hoq⟩, hb4⟩)
    | (go_at_call 19; (with_reducible refine (HSL.out _ _ _ (own_at hoq).2.2.2).mono ?_); rintro e w5 ⟨⟨X, xc, rfl, ho5⟩, hb5⟩))
  have b5 := bt hb4 hb5
  replace GG := GG.keep b5 l1
  replace TB := TB.keep b5 lT
  replace HTI := Lib.hid (HTI.out.next b5)
  replace l1 := Nat.lt_of_lt_of_le l1 b5.size
  replace lT := Nat.lt_of_lt_of_le lT b5.size
  replace hx := bt hx b5
  obtain ⟨M, hM⟩ : ∃ M, M = N9 + 11 := ⟨_, rfl⟩
  rw [← hM] at ho5 ⊢
  have HME := Lib.hid hM
  have HX := Lib.hid (own_at ho5)
  have HEL := Lib.hid (show (enc a0.toNat r0.toNat (encT t.es)).length = M from (own_at ho5).1)
  clear hoq hb4 ho5 hb5 b5 HBY HSL t0 hM
  have HTC := Lib.hid (tcell_c z d s l a a0 r0 a0 r0 t.es X M xc w5 HO.out HG.out (by omega) (by omega) (by rw [HTN.out, ← HNE.out]; exact HME.out.symm) HX.out.2.1 HX.out.2.2.1 HX.out.2.2.2 rfl rfl)
  obtain ⟨g0, g1', g2, g3, g4⟩ := id GG
  go_upto_region 7 with (go_at_call 11; (with_reducible refine HTC.out.mono ?_); rintro e w6 ⟨⟨u, heu, hue0, huo⟩, hb6⟩; rw [tbl.TV.v] at heu; subst heu; have HUE := Lib.hid hue0; clear hue0)
  obtain ⟨K, hK⟩ : ∃ K, K = u.es.length := ⟨_, rfl⟩
  rw [← hK]
  have hxU := bl w6 (.cells #[.slice u.A K u.c] 36)
  have UU := c1_new w6 (.slice u.A K u.c) 36
  have b6 := bt hb6 hxU
  have HUI := Lib.hid ((tbl.TV.Own.inn huo).next hxU)
  have HKE := Lib.hid hK
  replace GG := GG.keep b6 l1
  replace TB := TB.keep b6 lT
  replace HTI := Lib.hid (HTI.out.next b6)
  have HXS := Lib.hid (HX.out.2.2.2.next b6)
  replace l1 := Nat.lt_of_lt_of_le l1 b6.size
  replace lT := Nat.lt_of_lt_of_le lT b6.size
  replace hx := bt hx b6
  clear hb6 hxU b6 huo hK g0 g1' g2 g3 g4 HTC
  generalize hgU : w6.heap.size = gU at *
  clear hgU
  generalize w6.alloc (.cells #[.slice u.A K u.c] 36) = w7 at *
  have HKT := Lib.hid (show Calls Try.prog 16 #[.agg #[.slice u.A K u.c], .agg #[.slice t.A n t.c]] w7 fun e w' => e = .returned (.bool true) ∧ Below w7.heap.size w7 w' from by
    have h9 := tab_same u t w7 HUI.out HTI.out (by rw [HUE.out, HTN.out]; omega)
    rw [decide_eq_true HUE.out, tbl.TV.v, tbl.TV.v, HTN.out, ← HKE.out] at h9
    exact h9)
  have t0 := TB.c0
  have u0 := UU.c0
  go_upto_region 9 with (go_at_call 16; (with_reducible refine (HKT.out).mono ?_); rintro e w8 ⟨rfl, hb8⟩)
  replace GG := GG.keep hb8 l1
  replace l1 := Nat.lt_of_lt_of_le l1 hb8.size
  replace hx := bt hx hb8
  replace HXS := Lib.hid (HXS.out.next hb8)
  clear t0 u0 UU TB HTI HUI HUE HKE HKT hb8 lT
  have hk := HK.out
  obtain ⟨g0, g1', g2, g3, g4⟩ := id GG
  have HFL := Lib.hid (show ∀ W, Below w8.heap.size w8 W → _ from fun W hW => flip_c X xc M _ m1 m1 W HEL.out (HXS.out.next hW) (by have := HN9.out; have := HME.out; omega))
  have HNT := Lib.hid (show ∀ (out : List UInt8) (Z : Option Addr) (zc : Nat) W, out.length = M → crc.TurnedAll (enc a0.toNat r0.toNat (encT t.es)) out (sel.place m1 M) (sel.maskOf m1) → M ≤ zc → zc ≤ maxLen → Sl W W.heap.size Z out → Calls Try.prog 11 #[.agg #[.int .i64 z, .int .i64 d, .int .i64 s, .int .i64 l, .int .i64 a], .agg #[.int .i64 0, .slice Z M zc], .int .i64 a0, .int .i64 r0] W fun e w' => RdT W.heap.size [] false e w' ∧ Below W.heap.size W w' from fun out Z zc W h1 h2 h3 h4 h5 => no_table z d s l a 0 a0 r0 Z M zc out W h1 h3 h4 h5 (no_err (.inr (flip_no (l := encT t.es) (by rw [encT_length, HTN.out, ← HNE.out]; have := HN9.out; omega) (by rw [encT_length, HTN.out, ← HNE.out, ← HME.out]; exact h2)))))
  go_upto_region 16 with fail
  have HF := Lib.hid (show ∀ W, Below w8.heap.size w8 W → W.cell? ⟨g1, 0, none⟩ = some (.int .i64 z) ∧ W.cell? ⟨g1, 1, none⟩ = some (.int .i64 d) ∧ W.cell? ⟨g1, 2, none⟩ = some (.int .i64 s) ∧ W.cell? ⟨g1, 3, none⟩ = some (.int .i64 l) ∧ W.cell? ⟨g1, 4, none⟩ = some (.int .i64 a) ∧ Below w8.heap.size w8 W from fun W h => ⟨kst h l1 g0, kst h l1 g1', kst h l1 g2, kst h l1 g3, kst h l1 g4, h⟩)
  go_region_held3 (fun W => W.cell? ⟨g1, 0, none⟩ = some (.int .i64 z) ∧ W.cell? ⟨g1, 1, none⟩ = some (.int .i64 d) ∧ W.cell? ⟨g1, 2, none⟩ = some (.int .i64 s) ∧ W.cell? ⟨g1, 3, none⟩ = some (.int .i64 l) ∧ W.cell? ⟨g1, 4, none⟩ = some (.int .i64 a) ∧ Below w8.heap.size w8 W)
    ((refine HF.out _ ?_; first
      | with_reducible exact hb9
      | with_reducible exact hb1
      | with_reducible exact below_dr (Below.refl _ _)
      | fail))
    (first
      | (go_at_call 20; (with_reducible refine (HFL.out _ (below_dr (Below.refl _ _))).mono ?_); rintro e w10 ⟨⟨out, Z, zc, rfl, hol, htu, ho7⟩, hbq⟩; have hb1 := bt (below_dr (Below.refl w8.heap.size w8)) hbq; clear hbq)
      | (go_at_call 11; (with_reducible refine (HNT.out out Z zc _ hol htu (own_at ho7).2.1 (own_at ho7).2.2.1 (own_at ho7).2.2.2).mono ?_); rintro e w9 ⟨⟨v, hev, -, -⟩, hbq⟩; rw [tbl.TV.v] at hev; subst hev; have hb9 := bt hb1 hbq; clear hbq)
      | fail)
  clear hk g0 g1' g2 g3 g4
  go_wp2_with (go_at_call 17; (with_reducible refine ((wk_ent _)).mono ?_); rintro e w11 ⟨rfl, hb11⟩)
  go_ret
  exact ⟨rfl, bt hx (bt hb9 hb11)⟩
set_option maxRecDepth 100000 in
set_option maxHeartbeats 8000000 in
theorem eb_3 (zones data addr root how num : Int) (t : tbl.TV) (n : Nat) (w : World) (hn : t.es.length = n) (ht : t.In w w.heap.size) (h20 : n ≤ 20) (hk : (IntKind.u64.wrap how).tmod 4 = 3) :
    Calls Try.prog 5 #[.int .i64 zones, .int .i64 data, .agg #[.slice t.A n t.c], .int .i64 addr, .int .i64 root, .int .i64 how, .int .i64 num] w fun e w' => e = .returned (.bool true) ∧ Below w.heap.size w w' := by
  have HK := Lib.hid hk
  have i1 : ¬ (20 : Int) < (n : Int) := by omega
  clear hk
  have TB := c1_new w (.slice t.A n t.c) 36
  have hx := bl w (.cells #[.slice t.A n t.c] 36)
  have lT : w.heap.size < (w.alloc (.cells #[.slice t.A n t.c] 36)).heap.size := by simp
  have HTN := Lib.hid hn
  have HTI := Lib.hid (ht.next hx)
  clear hn ht
  go_enter Try.func5, Try.ntmps5
  go_upto_region 1 with fail
  generalize (w.alloc (.cells #[.slice t.A n t.c] 36)) = w0 at *
  have HSO := Lib.hid (gmt.some_any zones data 1 0 0 w0)
  go_upto_region 2 with (go_at_call 21; (with_reducible refine (HSO.out).mono ?_); rintro e w1 ⟨⟨z, d, s, l, a, ho, rfl⟩, hb1⟩)
  have hxG := bl w1 (.cells #[.int .i64 z, .int .i64 d, .int .i64 s, .int .i64 l, .int .i64 a] 23)
  have GG := g5_new w1 z d s l a
  have l1 : w1.heap.size < (w1.alloc (.cells #[.int .i64 z, .int .i64 d, .int .i64 s, .int .i64 l, .int .i64 a] 23)).heap.size := by simp
  have b1 := bt hb1 hxG
  replace TB := TB.keep b1 lT
  replace HTI := Lib.hid (HTI.out.next b1)
  replace lT := Nat.lt_of_lt_of_le lT b1.size
  replace hx := bt hx b1
  have HO := Lib.hid ho
  clear hb1 hxG b1 ho HSO
  generalize hg1 : w1.heap.size = g1 at *
  clear hg1
  generalize w1.alloc (.cells #[.int .i64 z, .int .i64 d, .int .i64 s, .int .i64 l, .int .i64 a] 23) = w2 at *
  have t0 := TB.c0
  obtain ⟨g0, g1', g2, g3, g4⟩ := id GG
  by_cases hg : tbl.Good d t.es
  case neg =>
    have HGD : false = true ↔ tbl.Good d t.es := iff_of_false Bool.false_ne_true hg
    have HRT := Lib.hid (show Calls Try.prog 22 #[.agg #[.int .i64 z, .int .i64 d, .int .i64 s, .int .i64 l, .int .i64 a], .agg #[.slice t.A n t.c]] w2 fun e w' => e = .returned (.bool false) ∧ Below w2.heap.size w2 w' from by
      have h9 := rtable_any false z d s l a t w2 HO.out HTI.out (by rw [HTN.out]; omega) HGD
      rw [tbl.TV.v, HTN.out] at h9
      exact h9)
    clear hg HGD
    go_wp2_with (go_at_call 22; (with_reducible refine (HRT.out).mono ?_); rintro e w3 ⟨rfl, hb3⟩)
    go_ret
    exact ⟨rfl, bt hx hb3⟩
  have HGD : true = true ↔ tbl.Good d t.es := iff_of_true rfl hg
  have HRT := Lib.hid (show Calls Try.prog 22 #[.agg #[.int .i64 z, .int .i64 d, .int .i64 s, .int .i64 l, .int .i64 a], .agg #[.slice t.A n t.c]] w2 fun e w' => e = .returned (.bool true) ∧ Below w2.heap.size w2 w' from by
    have h9 := rtable_any true z d s l a t w2 HO.out HTI.out (by rw [HTN.out]; omega) HGD
    rw [tbl.TV.v, HTN.out] at h9
    exact h9)
  have HG := Lib.hid hg
  have hd := HO.out.2.1
  have hn5 : (n : Int) = d + 1 := by have := hg.1; rw [HTN.out] at this; exact this
  obtain ⟨N9, hN9⟩ : ∃ q, q = n * 9 := ⟨_, rfl⟩
  have HN9 := Lib.hid (show N9 ≤ 45 by omega)
  have HNE := Lib.hid hN9
  clear hg HGD hd hn5 hN9
  have ha := gmt.wrap_mod addr 60000 (by omega)
  have hr := gmt.wrap_mod root 1000000 (by omega)
  have hm := gmt.wrap_mod num 1000 (by omega)
  generalize hA0 : (IntKind.u64.wrap addr).tmod 60000 = a0 at *
  generalize hR0 : (IntKind.u64.wrap root).tmod 1000000 = r0 at *
  generalize hM0 : (IntKind.u64.wrap num).tmod 1000 = m0 at *
  go_upto_region 4 with (go_at_call 22; (with_reducible refine (HRT.out).mono ?_); rintro e w3 ⟨rfl, hb3⟩)
  replace GG := GG.keep hb3 l1
  replace TB := TB.keep hb3 lT
  replace HTI := Lib.hid (HTI.out.next hb3)
  replace l1 := Nat.lt_of_lt_of_le l1 hb3.size
  replace lT := Nat.lt_of_lt_of_le lT hb3.size
  replace hx := bt hx hb3
  clear hb3 HRT t0 g0 g1' g2 g3 g4
  go_upto_region 5 with fail
  clear hA0 hR0 hM0
  generalize hm1 : 1 + m0 = m1 at *
  replace hm : 1 ≤ m1 ∧ m1 ≤ 1000 := by omega
  clear hm1
  have t0 := TB.c0
  have HBY := Lib.hid (show Calls Try.prog 23 #[.agg #[.slice t.A n t.c]] w3 fun e w' => tbl.BytQ w3.heap.size N9 (encT t.es) e w' ∧ Below w3.heap.size w3 w' from by
    have h9 := rbytes_tab t n N9 w3 HTI.out HTN.out h20 HG.out.2.1 HNE.out.symm
    rw [tbl.TV.v, HTN.out] at h9
    exact h9)
  have HSL := Lib.hid (show ∀ (Q : Option Addr) (q : Nat) W, Sl W W.heap.size Q (encT t.es) → Calls Try.prog 19 #[.agg #[.int .i64 a0, .int .i64 r0, .slice Q N9 q]] W fun e w' => BytN W.heap.size (N9 + 11) (enc a0.toNat r0.toNat (encT t.es)) 0 e w' ∧ Below W.heap.size W w' from fun Q q W hQ => seal_c a0 r0 Q N9 q (N9 + 11) _ W (by omega) (by omega) (by rw [encT_length, HTN.out]; exact HNE.out.symm) (by have := HN9.out; omega) rfl hQ)
  go_upto_region 6 with (first
    | (go_at_call 23; (with_reducible refine (HBY.out).mono ?_); rintro e w4 ⟨⟨Q, q, rfl, -, hoq⟩, hb4⟩)
    | (go_at_call 19; (with_reducible refine (HSL.out _ _ _ (own_at hoq).2.2.2).mono ?_); rintro e w5 ⟨⟨X, xc, rfl, ho5⟩, hb5⟩))
  have b5 := bt hb4 hb5
  replace GG := GG.keep b5 l1
  replace TB := TB.keep b5 lT
  replace HTI := Lib.hid (HTI.out.next b5)
  replace l1 := Nat.lt_of_lt_of_le l1 b5.size
  replace lT := Nat.lt_of_lt_of_le lT b5.size
  replace hx := bt hx b5
  obtain ⟨M, hM⟩ : ∃ M, M = N9 + 11 := ⟨_, rfl⟩
  rw [← hM] at ho5 ⊢
  have HME := Lib.hid hM
  have HX := Lib.hid (own_at ho5)
  have HEL := Lib.hid (show (enc a0.toNat r0.toNat (encT t.es)).length = M from (own_at ho5).1)
  clear hoq hb4 ho5 hb5 b5 HBY HSL t0 hM
  have HTC := Lib.hid (tcell_c z d s l a a0 r0 a0 r0 t.es X M xc w5 HO.out HG.out (by omega) (by omega) (by rw [HTN.out, ← HNE.out]; exact HME.out.symm) HX.out.2.1 HX.out.2.2.1 HX.out.2.2.2 rfl rfl)
  obtain ⟨g0, g1', g2, g3, g4⟩ := id GG
  go_upto_region 7 with (go_at_call 11; (with_reducible refine HTC.out.mono ?_); rintro e w6 ⟨⟨u, heu, hue0, huo⟩, hb6⟩; rw [tbl.TV.v] at heu; subst heu; have HUE := Lib.hid hue0; clear hue0)
  obtain ⟨K, hK⟩ : ∃ K, K = u.es.length := ⟨_, rfl⟩
  rw [← hK]
  have hxU := bl w6 (.cells #[.slice u.A K u.c] 36)
  have UU := c1_new w6 (.slice u.A K u.c) 36
  have b6 := bt hb6 hxU
  have HUI := Lib.hid ((tbl.TV.Own.inn huo).next hxU)
  have HKE := Lib.hid hK
  replace GG := GG.keep b6 l1
  replace TB := TB.keep b6 lT
  replace HTI := Lib.hid (HTI.out.next b6)
  have HXS := Lib.hid (HX.out.2.2.2.next b6)
  replace l1 := Nat.lt_of_lt_of_le l1 b6.size
  replace lT := Nat.lt_of_lt_of_le lT b6.size
  replace hx := bt hx b6
  clear hb6 hxU b6 huo hK g0 g1' g2 g3 g4 HTC
  generalize hgU : w6.heap.size = gU at *
  clear hgU
  generalize w6.alloc (.cells #[.slice u.A K u.c] 36) = w7 at *
  have HKT := Lib.hid (show Calls Try.prog 16 #[.agg #[.slice u.A K u.c], .agg #[.slice t.A n t.c]] w7 fun e w' => e = .returned (.bool true) ∧ Below w7.heap.size w7 w' from by
    have h9 := tab_same u t w7 HUI.out HTI.out (by rw [HUE.out, HTN.out]; omega)
    rw [decide_eq_true HUE.out, tbl.TV.v, tbl.TV.v, HTN.out, ← HKE.out] at h9
    exact h9)
  have t0 := TB.c0
  have u0 := UU.c0
  go_upto_region 9 with (go_at_call 16; (with_reducible refine (HKT.out).mono ?_); rintro e w8 ⟨rfl, hb8⟩)
  replace GG := GG.keep hb8 l1
  replace l1 := Nat.lt_of_lt_of_le l1 hb8.size
  replace hx := bt hx hb8
  replace HXS := Lib.hid (HXS.out.next hb8)
  clear t0 u0 UU TB HTI HUI HUE HKE HKT hb8 lT
  have hk := HK.out
  obtain ⟨g0, g1', g2, g3, g4⟩ := id GG
  have HNT := Lib.hid (no_table z d s l a 6 a0 r0 X M xc _ w8 HEL.out HX.out.2.1 HX.out.2.2.1 HXS.out (no_err (.inl (by decide))))
  go_upto_region 17 with (go_at_call 11; (with_reducible refine HNT.out.mono ?_); rintro e w9 ⟨⟨v, hev, -, -⟩, hb9⟩; rw [tbl.TV.v] at hev; subst hev)
  clear hk g0 g1' g2 g3 g4
  go_wp2_with (go_at_call 17; (with_reducible refine ((wk_ent _)).mono ?_); rintro e w11 ⟨rfl, hb11⟩)
  go_ret
  exact ⟨rfl, bt hx (bt hb9 hb11)⟩
/-- The law. -/
theorem tables_law (zones data addr root how num : Int) (t : tbl.TV) (w : World) (ht : t.In w w.heap.size) :
    Calls Try.prog 5 #[.int .i64 zones, .int .i64 data, t.v, .int .i64 addr, .int .i64 root, .int .i64 how, .int .i64 num] w fun e w' => e = .returned (.bool true) ∧ Below w.heap.size w w' := by
  unfold tbl.TV.v
  by_cases h20 : t.es.length ≤ 20
  · have hk := gmt.wrap_mod how 4 (by omega)
    have h4 : (IntKind.u64.wrap how).tmod 4 = 0 ∨ (IntKind.u64.wrap how).tmod 4 = 1 ∨ (IntKind.u64.wrap how).tmod 4 = 2 ∨ (IntKind.u64.wrap how).tmod 4 = 3 := by omega
    rcases h4 with h4 | h4 | h4 | h4
    · exact eb_0 zones data addr root how num t _ w rfl ht h20 h4
    · exact eb_1 zones data addr root how num t _ w rfl ht h20 h4
    · exact eb_2 zones data addr root how num t _ w rfl ht h20 h4
    · exact eb_3 zones data addr root how num t _ w rfl ht h20 h4
  · exact eb_heavy zones data addr root how num t _ w rfl ht (by omega)
end Go.Proofs.Ytejfehkcjcohdaa.ent
