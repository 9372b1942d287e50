/-
  The law TableBent, walked. Conditions: 'Ctt'.
-/
import Derived.Test.YtldknkikekaifaaTbP
import Derived.Test.YtldknkikekaifaaTbO
namespace Go.Proofs.Ytldknkikekaifaa.tbl
open Go.RowKit Go.Lib
open Go.Proofs.Ytldknkikekaifaa.gmt (Ok five_new)
open Go.Proofs.Ytldknkikekaifaa.anc (flat_get flat_len slv_cell bl kal kst ks bm ka row_form wpList_row)

set_option maxRecDepth 100000 in
set_option maxHeartbeats 4000000 in
theorem tb_long (z d s l a : Int) (x : TV) (how : Int) (w : World) (h : 20 < x.es.length) :
    Calls Try.prog 5 #[.agg #[.int .i64 z, .int .i64 d, .int .i64 s, .int .i64 l, .int .i64 a], x.v, .int .i64 how] w fun e w' => e = .returned (.bool true) ∧ Below w.heap.size w w' := by
  obtain ⟨n, hxn⟩ : ∃ n, x.es.length = n := ⟨_, rfl⟩
  have GG := (g5_new w z d s l a).keep (bl (w.alloc (.cells #[.int .i64 z, .int .i64 d, .int .i64 s, .int .i64 l, .int .i64 a] 23)) (.cells #[.slice x.A n x.c] 26)) (by simp)
  have X1 := c1_new (w.alloc (.cells #[.int .i64 z, .int .i64 d, .int .i64 s, .int .i64 l, .int .i64 a] 23)) (.slice x.A n x.c) 26
  rw [show (w.alloc (.cells #[.int .i64 z, .int .i64 d, .int .i64 s, .int .i64 l, .int .i64 a] 23)).heap.size = w.heap.size + 1 by simp] at X1
  have hb0 := kal (bl w (.cells #[.int .i64 z, .int .i64 d, .int .i64 s, .int .i64 l, .int .i64 a] 23)) (.cells #[.slice x.A n x.c] 26)
  have l1 : w.heap.size + 1 < ((w.alloc (.cells #[.int .i64 z, .int .i64 d, .int .i64 s, .int .i64 l, .int .i64 a] 23)).alloc (.cells #[.slice x.A n x.c] 26)).heap.size := by simp
  have i1 : (20 : Int) < (n : Int) := by omega
  unfold TV.v
  rw [hxn]
  go_enter Try.func5, Try.ntmps5
  go_upto_region 1 with fail
  generalize ((w.alloc (.cells #[.int .i64 z, .int .i64 d, .int .i64 s, .int .i64 l, .int .i64 a] 23)).alloc (.cells #[.slice x.A n x.c] 26)) = w0 at *
  obtain ⟨g0, g1, g2, g3, g4⟩ := id GG
  have x0 := X1.c0
  go_wp2_with fail
  go_ret
  exact ⟨rfl, hb0⟩
set_option maxRecDepth 100000 in
set_option maxHeartbeats 4000000 in
theorem tb_geo (z d s l a : Int) (x : TV) (how : Int) (w : World) (hln : x.es.length ≤ 20) (ho : ¬ Ok z d s l a) :
    Calls Try.prog 5 #[.agg #[.int .i64 z, .int .i64 d, .int .i64 s, .int .i64 l, .int .i64 a], x.v, .int .i64 how] w fun e w' => e = .returned (.bool true) ∧ Below w.heap.size w w' := by
  have cG := fun W => Go.Proofs.Ytldknkikekaifaa.gmt.rgeo_at false z d s l a W (iff_of_false Bool.false_ne_true ho)
  obtain ⟨n, hxn⟩ : ∃ n, x.es.length = n := ⟨_, rfl⟩
  have GG := (g5_new w z d s l a).keep (bl (w.alloc (.cells #[.int .i64 z, .int .i64 d, .int .i64 s, .int .i64 l, .int .i64 a] 23)) (.cells #[.slice x.A n x.c] 26)) (by simp)
  have X1 := c1_new (w.alloc (.cells #[.int .i64 z, .int .i64 d, .int .i64 s, .int .i64 l, .int .i64 a] 23)) (.slice x.A n x.c) 26
  rw [show (w.alloc (.cells #[.int .i64 z, .int .i64 d, .int .i64 s, .int .i64 l, .int .i64 a] 23)).heap.size = w.heap.size + 1 by simp] at X1
  have hb0 := kal (bl w (.cells #[.int .i64 z, .int .i64 d, .int .i64 s, .int .i64 l, .int .i64 a] 23)) (.cells #[.slice x.A n x.c] 26)
  have l1 : w.heap.size + 1 < ((w.alloc (.cells #[.int .i64 z, .int .i64 d, .int .i64 s, .int .i64 l, .int .i64 a] 23)).alloc (.cells #[.slice x.A n x.c] 26)).heap.size := by simp
  have i1 : ¬ (20 : Int) < (n : Int) := by omega
  unfold TV.v
  rw [hxn]
  go_enter Try.func5, Try.ntmps5
  go_upto_region 1 with fail
  generalize ((w.alloc (.cells #[.int .i64 z, .int .i64 d, .int .i64 s, .int .i64 l, .int .i64 a] 23)).alloc (.cells #[.slice x.A n x.c] 26)) = w0 at *
  obtain ⟨g0, g1, g2, g3, g4⟩ := id GG
  have x0 := X1.c0
  go_wp2_with (go_at_call 12; (with_reducible refine (cG _).mono ?_); rintro e wq ⟨rfl, hbq⟩; replace GG := GG.keep hbq (by omega); replace X1 := X1.keep hbq (by omega); replace l1 := Nat.lt_of_lt_of_le l1 hbq.size; clear g0 g1 g2 g3 g4 x0; obtain ⟨g0, g1, g2, g3, g4⟩ := id GG; have x0 := X1.c0; replace hb0 := bt hb0 hbq; clear hbq)
  go_ret
  exact ⟨rfl, hb0⟩
set_option maxRecDepth 100000 in
set_option maxHeartbeats 4000000 in
theorem tb_bad (z d s l a : Int) (x : TV) (how : Int) (w : World) (hx : x.In w w.heap.size) (hln : x.es.length ≤ 20) (ho : Ok z d s l a) (hg : ¬ Good d x.es) :
    Calls Try.prog 5 #[.agg #[.int .i64 z, .int .i64 d, .int .i64 s, .int .i64 l, .int .i64 a], x.v, .int .i64 how] w fun e w' => e = .returned (.bool true) ∧ Below w.heap.size w w' := by
  have cG := fun W => Go.Proofs.Ytldknkikekaifaa.gmt.rgeo_at true z d s l a W (iff_of_true rfl ho)
  have cR := fun W (hW : Below w.heap.size w W) => rtable_any false z d s l a x W ho (hx.next hW) (by omega) (iff_of_false Bool.false_ne_true hg)
  unfold TV.v at cR
  obtain ⟨n, hxn⟩ : ∃ n, x.es.length = n := ⟨_, rfl⟩
  have GG := (g5_new w z d s l a).keep (bl (w.alloc (.cells #[.int .i64 z, .int .i64 d, .int .i64 s, .int .i64 l, .int .i64 a] 23)) (.cells #[.slice x.A n x.c] 26)) (by simp)
  have X1 := c1_new (w.alloc (.cells #[.int .i64 z, .int .i64 d, .int .i64 s, .int .i64 l, .int .i64 a] 23)) (.slice x.A n x.c) 26
  rw [show (w.alloc (.cells #[.int .i64 z, .int .i64 d, .int .i64 s, .int .i64 l, .int .i64 a] 23)).heap.size = w.heap.size + 1 by simp] at X1
  have hb0 := kal (bl w (.cells #[.int .i64 z, .int .i64 d, .int .i64 s, .int .i64 l, .int .i64 a] 23)) (.cells #[.slice x.A n x.c] 26)
  have l1 : w.heap.size + 1 < ((w.alloc (.cells #[.int .i64 z, .int .i64 d, .int .i64 s, .int .i64 l, .int .i64 a] 23)).alloc (.cells #[.slice x.A n x.c] 26)).heap.size := by simp
  rw [hxn] at cR
  have i1 : ¬ (20 : Int) < (n : Int) := by omega
  unfold TV.v
  rw [hxn]
  go_enter Try.func5, Try.ntmps5
  go_upto_region 1 with fail
  generalize ((w.alloc (.cells #[.int .i64 z, .int .i64 d, .int .i64 s, .int .i64 l, .int .i64 a] 23)).alloc (.cells #[.slice x.A n x.c] 26)) = w0 at *
  obtain ⟨g0, g1, g2, g3, g4⟩ := id GG
  have x0 := X1.c0
  go_wp2_with (first
    | (go_at_call 12; (with_reducible refine (cG _).mono ?_); rintro e wq ⟨rfl, hbq⟩; replace GG := GG.keep hbq (by omega); replace X1 := X1.keep hbq (by omega); replace l1 := Nat.lt_of_lt_of_le l1 hbq.size; clear g0 g1 g2 g3 g4 x0; obtain ⟨g0, g1, g2, g3, g4⟩ := id GG; have x0 := X1.c0; replace hb0 := bt hb0 hbq; clear hbq)
    | (go_at_call 18; (with_reducible refine (cR _ hb0).mono ?_); rintro e wq ⟨rfl, hbq⟩; replace GG := GG.keep hbq (by omega); replace X1 := X1.keep hbq (by omega); replace l1 := Nat.lt_of_lt_of_le l1 hbq.size; clear g0 g1 g2 g3 g4 x0; obtain ⟨g0, g1, g2, g3, g4⟩ := id GG; have x0 := X1.c0; replace hb0 := bt hb0 hbq; clear hbq))
  go_ret
  exact ⟨rfl, hb0⟩
set_option maxRecDepth 100000 in
set_option maxHeartbeats 4000000 in
theorem tb_2 (z : Int) (D : Nat) (s l a : Int) (x : TV) (how : Int) (w : World) (hc : Ctt w) (hx : x.In w w.heap.size) (hln : x.es.length ≤ 20) (ho : Ok z D s l a) (hg : Good D x.es) (hm : (IntKind.u64.wrap how).tmod 5 = 2) :
    Calls Try.prog 5 #[.agg #[.int .i64 z, .int .i64 D, .int .i64 s, .int .i64 l, .int .i64 a], x.v, .int .i64 how] w fun e w' => e = .returned (.bool true) ∧ Below w.heap.size w w' := by
  have cG := fun W => Go.Proofs.Ytldknkikekaifaa.gmt.rgeo_at true z D s l a W (iff_of_true rfl ho)
  have cR := fun W (hW : Below w.heap.size w W) => rtable_any true z D s l a x W ho (hx.next hW) (by omega) (iff_of_true rfl hg)
  have cT := fun W (hW : Below w.heap.size w W) => twin_table x x.es.length W (hx.next hW) rfl (by omega)
  unfold TV.v at cR cT
  have o2 := ho.2.1
  have hdl := hg.1
  obtain ⟨n, hxn⟩ : ∃ n, x.es.length = n := ⟨_, rfl⟩
  have GG := (g5_new w z D s l a).keep (bl (w.alloc (.cells #[.int .i64 z, .int .i64 D, .int .i64 s, .int .i64 l, .int .i64 a] 23)) (.cells #[.slice x.A n x.c] 26)) (by simp)
  have X1 := c1_new (w.alloc (.cells #[.int .i64 z, .int .i64 D, .int .i64 s, .int .i64 l, .int .i64 a] 23)) (.slice x.A n x.c) 26
  rw [show (w.alloc (.cells #[.int .i64 z, .int .i64 D, .int .i64 s, .int .i64 l, .int .i64 a] 23)).heap.size = w.heap.size + 1 by simp] at X1
  have hb0 := kal (bl w (.cells #[.int .i64 z, .int .i64 D, .int .i64 s, .int .i64 l, .int .i64 a] 23)) (.cells #[.slice x.A n x.c] 26)
  have l1 : w.heap.size + 1 < ((w.alloc (.cells #[.int .i64 z, .int .i64 D, .int .i64 s, .int .i64 l, .int .i64 a] 23)).alloc (.cells #[.slice x.A n x.c] 26)).heap.size := by simp
  rw [hxn] at cR cT hln hdl
  have HDL := Lib.hid hdl
  clear hdl
  have HC := Lib.hid hc
  have HX := Lib.hid hx
  have HO := Lib.hid ho
  have HG := Lib.hid hg
  have hn2 : ¬ (20 : Int) < (n : Int) := by omega
  unfold TV.v
  rw [hxn]
  go_enter Try.func5, Try.ntmps5
  go_upto_region 1 with fail
  generalize ((w.alloc (.cells #[.int .i64 z, .int .i64 D, .int .i64 s, .int .i64 l, .int .i64 a] 23)).alloc (.cells #[.slice x.A n x.c] 26)) = w0 at *
  obtain ⟨g0, g1, g2, g3, g4⟩ := id GG
  have x0 := X1.c0
  have HXN := Lib.hid hxn
  clear hc hx ho hg hxn
  go_upto_region 3 with (first
    | (go_at_call 12; (with_reducible refine (cG _).mono ?_); rintro e wq ⟨rfl, hbq⟩; replace GG := GG.keep hbq (by omega); replace X1 := X1.keep hbq (by omega); replace l1 := Nat.lt_of_lt_of_le l1 hbq.size; clear g0 g1 g2 g3 g4 x0; obtain ⟨g0, g1, g2, g3, g4⟩ := id GG; have x0 := X1.c0; replace hb0 := bt hb0 hbq; clear hbq)
    | (go_at_call 18; (with_reducible refine (cR _ hb0).mono ?_); rintro e wq ⟨rfl, hbq⟩; replace GG := GG.keep hbq (by omega); replace X1 := X1.keep hbq (by omega); replace l1 := Nat.lt_of_lt_of_le l1 hbq.size; clear g0 g1 g2 g3 g4 x0; obtain ⟨g0, g1, g2, g3, g4⟩ := id GG; have x0 := X1.c0; replace hb0 := bt hb0 hbq; clear hbq))
  go_upto_region 4 with (go_at_call 7; (with_reducible refine (cT _ hb0).mono ?_); rintro e w5 ⟨⟨t, het, hte0, hto⟩, hb5⟩; rw [TV.v] at het; subst het; have HTE := Lib.hid hte0; clear hte0; have lW := l1; replace GG := GG.keep hb5 (by omega); replace X1 := X1.keep hb5 (by omega); replace l1 := Nat.lt_of_lt_of_le l1 hb5.size; clear g0 g1 g2 g3 g4 x0; obtain ⟨g0, g1, g2, g3, g4⟩ := id GG; have x0 := X1.c0; replace hb0 := bt hb0 hb5)
  have htl : t.es.length = n := by rw [HTE.out]; exact HXN.out
  rw [htl]
  have hx6 := bl w5 (.cells #[.slice t.A n t.c] 26)
  have U0 := c1_new w5 (.slice t.A n t.c) 26
  have hto6 := TV.Own.below hto hx6
  have lto : w.heap.size + 2 ≤ w5.heap.size := by omega
  replace GG := GG.keep hx6 (by omega); replace X1 := X1.keep hx6 (by omega); replace l1 := Nat.lt_of_lt_of_le l1 hx6.size; clear g0 g1 g2 g3 g4 x0; obtain ⟨g0, g1, g2, g3, g4⟩ := id GG; have x0 := X1.c0; replace hb0 := bt hb0 hx6
  obtain ⟨gU, hgU⟩ : ∃ g, g = w5.heap.size := ⟨_, rfl⟩
  have lU : gU < (w5.alloc (.cells #[.slice t.A n t.c] 26)).heap.size := by rw [hgU]; simp
  obtain ⟨gA, hA, hgA1, hgA2⟩ := hto.row (by have := HDL.out; omega)
  rw [← hgU] at U0 hgA1 ⊢
  have lgU : w.heap.size + 2 ≤ gU := by omega
  have hgA3 : w.heap.size + 1 < gA := by omega
  clear hgU hx6 hb5 hto lto
  generalize w5.alloc (.cells #[.slice t.A n t.c] 26) = w6 at *
  rw [hA] at U0
  have HTL := Lib.hid htl
  have HTO := Lib.hid (hto6.less (show w.heap.size + 2 ≤ _ by omega))
  have HTA := Lib.hid hA
  have hlt : 0 < t.es.length := by have := HDL.out; rw [HTL.out]; omega
  obtain ⟨b1, off, e0, hA1, hb1, c0, c1, c2, -, e1⟩ := ent_at (TV.Own.inn HTO.out).h hlt
  rw [HTA.out] at hA1
  simp only [Option.some.injEq, Addr.mk.injEq, and_true] at hA1
  obtain ⟨rfl, rfl⟩ := hA1
  have hfz := TV.Own.frozen HTO.out HTA.out
  have hf0 := hfz (0 * 3 + 0)
  have HST := Lib.hid (TV.Own.store (i := 0) (e' := { e0 with st := -1 }) (v := .int .i64 (-1)) HTO.out HTA.out e1 (by decide) rfl)
  have HBAD := Lib.hid (show ¬ Good D (t.es.set 0 ({ e0 with st := -1 })) from fun h => by have h9 := (h.2.1 { e0 with st := -1 } (List.mem_iff_getElem?.2 ⟨0, by rw [List.getElem?_set_self hlt]⟩)).1.1; exact absurd (show (0 : Int) ≤ -1 from h9) (by decide))
  have i3 : (0 : Int) < (n : Int) := by have := HDL.out; omega
  simp only [Nat.zero_mul, Nat.zero_add, Nat.add_zero] at c0 c1 c2 hf0 HST
  clear e1 hfz hlt
  have t0 := U0.c0
  go_upto_region 14 with fail
  have hgs : (w6.setCell ⟨gA, 0, none⟩ (.int .i64 (-1))).heap.size = w6.heap.size := by simp
  have U1 : C1 (w6.setCell ⟨gA, 0, none⟩ (.int .i64 (-1))) gU (.slice (some ⟨gA, 0, none⟩) n t.c) := U0.apart (by omega) _
  replace GG : G5 (w6.setCell ⟨gA, 0, none⟩ (.int .i64 (-1))) w.heap.size z D s l a := GG.set (by omega) _
  replace X1 : C1 (w6.setCell ⟨gA, 0, none⟩ (.int .i64 (-1))) (w.heap.size + 1) (.slice x.A n x.c) := X1.apart (by omega) _
  replace hb0 : Below w.heap.size w (w6.setCell ⟨gA, 0, none⟩ (.int .i64 (-1))) := hb0.setCell (show w.heap.size ≤ gA by omega) _
  obtain ⟨u, hu⟩ : ∃ u : TV, u = ⟨t.A, t.c, t.es.set 0 { e0 with st := -1 }⟩ := ⟨_, rfl⟩
  have HUO := HST.out
  rw [← hu] at HUO
  have hul : u.es.length = n := by rw [hu]; show (t.es.set 0 { e0 with st := -1 }).length = n; rw [List.length_set]; exact HTL.out
  have HUS := Lib.hid (show u.es.length ≤ 1048576 by omega)
  have HUV := Lib.hid (show u.v = .agg #[.slice (some ⟨gA, 0, none⟩) n t.c] from by unfold TV.v; rw [hul, hu]; show Value.agg #[.slice t.A n t.c] = _; rw [HTA.out])
  have HUI := Lib.hid (TV.Own.inn HUO)
  have HNG := Lib.hid (show ¬ Good D u.es from by rw [hu]; exact HBAD.out)
  rw [← hgs] at lU l1
  clear HUO hul hu HST HBAD hgs hto6 hA hf0 c0 c1 c2 t0 U0 g0 g1 g2 g3 g4 x0
  generalize w6.setCell ⟨gA, 0, none⟩ (.int .i64 (-1)) = w8 at *
  have u0 := U1.c0
  obtain ⟨g0, g1, g2, g3, g4⟩ := id GG
  have x0 := X1.c0
  have HBY := Lib.hid (show Calls Try.prog 9 #[.agg #[.int .i64 z, .int .i64 D, .int .i64 s, .int .i64 l, .int .i64 a], .agg #[.slice (some ⟨gA, 0, none⟩) n t.c]] w8 fun e w' => NonE 1 e ∧ Below w8.heap.size w8 w' from by
    rw [← HUV.out]
    exact HC.out.bytes_no z D s l a u w8 hb0 (fun h => HNG.out h.2) HUI.out HUS.out)
  have HCU := Lib.hid (show ∀ W, Below w8.heap.size w8 W → Calls Try.prog 13 #[.agg #[.int .i64 z, .int .i64 D, .int .i64 s, .int .i64 l, .int .i64 a], .agg #[.slice (some ⟨gA, 0, none⟩) n t.c]] W fun e w' => e = .returned (.int .i64 1) ∧ Below W.heap.size W w' from fun W hW => by
    rw [← HUV.out]
    exact HC.out.check false z D s l a u W (bt hb0 hW) HO.out (HUI.out.next hW) HUS.out (iff_of_false Bool.false_ne_true HNG.out))
  have HCX := Lib.hid (show ∀ W, Below w.heap.size w W → Calls Try.prog 13 #[.agg #[.int .i64 z, .int .i64 D, .int .i64 s, .int .i64 l, .int .i64 a], .agg #[.slice x.A n x.c]] W fun e w' => e = .returned (.int .i64 0) ∧ Below W.heap.size W w' from fun W hW => by
    have h9 := HC.out.check true z D s l a x W hW HO.out (HX.out.next hW) (by rw [HXN.out]; omega) (iff_of_true rfl HG.out)
    unfold TV.v at h9
    rw [HXN.out] at h9
    exact h9)
  have HWK := Lib.hid (fun W (hW : Below w.heap.size w W) => wk_tab W (HC.out.next hW))
  have b8 := Below.refl w8.heap.size w8
  clear HUV HUI HUS HNG
  go_wp2_with (first
    | (go_at_call 9; (with_reducible refine HBY.out.mono ?_); rintro e wq ⟨⟨Y, yc, rfl⟩, hbq⟩; replace U1 := U1.keep hbq lU; replace lU := Nat.lt_of_lt_of_le lU hbq.size; clear u0; have u0 := U1.c0; replace b8 := bt b8 hbq; replace GG := GG.keep hbq (by omega); replace X1 := X1.keep hbq (by omega); replace l1 := Nat.lt_of_lt_of_le l1 hbq.size; clear g0 g1 g2 g3 g4 x0; obtain ⟨g0, g1, g2, g3, g4⟩ := id GG; have x0 := X1.c0; replace hb0 := bt hb0 hbq; clear hbq)
    | (go_at_call 13; (with_reducible refine (HCX.out _ hb0).mono ?_); rintro e wq ⟨rfl, hbq⟩; replace U1 := U1.keep hbq lU; replace lU := Nat.lt_of_lt_of_le lU hbq.size; clear u0; have u0 := U1.c0; replace b8 := bt b8 hbq; replace GG := GG.keep hbq (by omega); replace X1 := X1.keep hbq (by omega); replace l1 := Nat.lt_of_lt_of_le l1 hbq.size; clear g0 g1 g2 g3 g4 x0; obtain ⟨g0, g1, g2, g3, g4⟩ := id GG; have x0 := X1.c0; replace hb0 := bt hb0 hbq; clear hbq)
    | (go_at_call 13; (with_reducible refine (HCU.out _ b8).mono ?_); rintro e wq ⟨rfl, hbq⟩; replace GG := GG.keep hbq (by omega); replace X1 := X1.keep hbq (by omega); replace l1 := Nat.lt_of_lt_of_le l1 hbq.size; clear g0 g1 g2 g3 g4 x0; obtain ⟨g0, g1, g2, g3, g4⟩ := id GG; have x0 := X1.c0; replace hb0 := bt hb0 hbq; clear hbq)
    | (go_at_call 15; (with_reducible refine (HWK.out _ hb0).mono ?_); rintro e wz ⟨rfl, hbz⟩))
  go_ret
  exact ⟨rfl, bt hb0 hbz⟩
set_option maxRecDepth 100000 in
set_option maxHeartbeats 4000000 in
theorem tb_3 (z : Int) (D : Nat) (s l a : Int) (x : TV) (how : Int) (w : World) (hc : Ctt w) (hx : x.In w w.heap.size) (hln : x.es.length ≤ 20) (ho : Ok z D s l a) (hg : Good D x.es) (hm : (IntKind.u64.wrap how).tmod 5 = 3) :
    Calls Try.prog 5 #[.agg #[.int .i64 z, .int .i64 D, .int .i64 s, .int .i64 l, .int .i64 a], x.v, .int .i64 how] w fun e w' => e = .returned (.bool true) ∧ Below w.heap.size w w' := by
  have cG := fun W => Go.Proofs.Ytldknkikekaifaa.gmt.rgeo_at true z D s l a W (iff_of_true rfl ho)
  have cR := fun W (hW : Below w.heap.size w W) => rtable_any true z D s l a x W ho (hx.next hW) (by omega) (iff_of_true rfl hg)
  have cT := fun W (hW : Below w.heap.size w W) => twin_table x x.es.length W (hx.next hW) rfl (by omega)
  unfold TV.v at cR cT
  have o2 := ho.2.1
  have hdl := hg.1
  obtain ⟨n, hxn⟩ : ∃ n, x.es.length = n := ⟨_, rfl⟩
  have GG := (g5_new w z D s l a).keep (bl (w.alloc (.cells #[.int .i64 z, .int .i64 D, .int .i64 s, .int .i64 l, .int .i64 a] 23)) (.cells #[.slice x.A n x.c] 26)) (by simp)
  have X1 := c1_new (w.alloc (.cells #[.int .i64 z, .int .i64 D, .int .i64 s, .int .i64 l, .int .i64 a] 23)) (.slice x.A n x.c) 26
  rw [show (w.alloc (.cells #[.int .i64 z, .int .i64 D, .int .i64 s, .int .i64 l, .int .i64 a] 23)).heap.size = w.heap.size + 1 by simp] at X1
  have hb0 := kal (bl w (.cells #[.int .i64 z, .int .i64 D, .int .i64 s, .int .i64 l, .int .i64 a] 23)) (.cells #[.slice x.A n x.c] 26)
  have l1 : w.heap.size + 1 < ((w.alloc (.cells #[.int .i64 z, .int .i64 D, .int .i64 s, .int .i64 l, .int .i64 a] 23)).alloc (.cells #[.slice x.A n x.c] 26)).heap.size := by simp
  rw [hxn] at cR cT hln hdl
  have HDL := Lib.hid hdl
  clear hdl
  have HC := Lib.hid hc
  have HX := Lib.hid hx
  have HO := Lib.hid ho
  have HG := Lib.hid hg
  have hn2 : ¬ (20 : Int) < (n : Int) := by omega
  unfold TV.v
  rw [hxn]
  go_enter Try.func5, Try.ntmps5
  go_upto_region 1 with fail
  generalize ((w.alloc (.cells #[.int .i64 z, .int .i64 D, .int .i64 s, .int .i64 l, .int .i64 a] 23)).alloc (.cells #[.slice x.A n x.c] 26)) = w0 at *
  obtain ⟨g0, g1, g2, g3, g4⟩ := id GG
  have x0 := X1.c0
  have HXN := Lib.hid hxn
  clear hc hx ho hg hxn
  go_upto_region 3 with (first
    | (go_at_call 12; (with_reducible refine (cG _).mono ?_); rintro e wq ⟨rfl, hbq⟩; replace GG := GG.keep hbq (by omega); replace X1 := X1.keep hbq (by omega); replace l1 := Nat.lt_of_lt_of_le l1 hbq.size; clear g0 g1 g2 g3 g4 x0; obtain ⟨g0, g1, g2, g3, g4⟩ := id GG; have x0 := X1.c0; replace hb0 := bt hb0 hbq; clear hbq)
    | (go_at_call 18; (with_reducible refine (cR _ hb0).mono ?_); rintro e wq ⟨rfl, hbq⟩; replace GG := GG.keep hbq (by omega); replace X1 := X1.keep hbq (by omega); replace l1 := Nat.lt_of_lt_of_le l1 hbq.size; clear g0 g1 g2 g3 g4 x0; obtain ⟨g0, g1, g2, g3, g4⟩ := id GG; have x0 := X1.c0; replace hb0 := bt hb0 hbq; clear hbq))
  go_upto_region 4 with (go_at_call 7; (with_reducible refine (cT _ hb0).mono ?_); rintro e w5 ⟨⟨t, het, hte0, hto⟩, hb5⟩; rw [TV.v] at het; subst het; have HTE := Lib.hid hte0; clear hte0; have lW := l1; replace GG := GG.keep hb5 (by omega); replace X1 := X1.keep hb5 (by omega); replace l1 := Nat.lt_of_lt_of_le l1 hb5.size; clear g0 g1 g2 g3 g4 x0; obtain ⟨g0, g1, g2, g3, g4⟩ := id GG; have x0 := X1.c0; replace hb0 := bt hb0 hb5)
  have htl : t.es.length = n := by rw [HTE.out]; exact HXN.out
  rw [htl]
  have hx6 := bl w5 (.cells #[.slice t.A n t.c] 26)
  have U0 := c1_new w5 (.slice t.A n t.c) 26
  have hto6 := TV.Own.below hto hx6
  have lto : w.heap.size + 2 ≤ w5.heap.size := by omega
  replace GG := GG.keep hx6 (by omega); replace X1 := X1.keep hx6 (by omega); replace l1 := Nat.lt_of_lt_of_le l1 hx6.size; clear g0 g1 g2 g3 g4 x0; obtain ⟨g0, g1, g2, g3, g4⟩ := id GG; have x0 := X1.c0; replace hb0 := bt hb0 hx6
  obtain ⟨gU, hgU⟩ : ∃ g, g = w5.heap.size := ⟨_, rfl⟩
  have lU : gU < (w5.alloc (.cells #[.slice t.A n t.c] 26)).heap.size := by rw [hgU]; simp
  obtain ⟨gA, hA, hgA1, hgA2⟩ := hto.row (by have := HDL.out; omega)
  rw [← hgU] at U0 hgA1 ⊢
  have lgU : w.heap.size + 2 ≤ gU := by omega
  have hgA3 : w.heap.size + 1 < gA := by omega
  clear hgU hx6 hb5 hto lto
  generalize w5.alloc (.cells #[.slice t.A n t.c] 26) = w6 at *
  rw [hA] at U0
  have HTL := Lib.hid htl
  have HTO := Lib.hid (hto6.less (show w.heap.size + 2 ≤ _ by omega))
  have HTA := Lib.hid hA
  have hlt : 0 < t.es.length := by have := HDL.out; rw [HTL.out]; omega
  obtain ⟨b1, off, e0, hA1, hb1, c0, c1, c2, -, e1⟩ := ent_at (TV.Own.inn HTO.out).h hlt
  rw [HTA.out] at hA1
  simp only [Option.some.injEq, Addr.mk.injEq, and_true] at hA1
  obtain ⟨rfl, rfl⟩ := hA1
  have hfz := TV.Own.frozen HTO.out HTA.out
  have hf0 := hfz (0 * 3 + 1)
  have HST := Lib.hid (TV.Own.store (i := 1) (e' := { e0 with sm := 4294967296 }) (v := .int .i64 4294967296) HTO.out HTA.out e1 (by decide) rfl)
  have HBAD := Lib.hid (show ¬ Good D (t.es.set 0 ({ e0 with sm := 4294967296 })) from fun h => by have h9 := (h.2.1 { e0 with sm := 4294967296 } (List.mem_iff_getElem?.2 ⟨0, by rw [List.getElem?_set_self hlt]⟩)).2.2; exact absurd (show (4294967296 : Int) ≤ 4294967295 from h9) (by decide))
  have i3 : (0 : Int) < (n : Int) := by have := HDL.out; omega
  simp only [Nat.zero_mul, Nat.zero_add, Nat.add_zero] at c0 c1 c2 hf0 HST
  clear e1 hfz hlt
  have t0 := U0.c0
  go_upto_region 14 with fail
  have hgs : (w6.setCell ⟨gA, 1, none⟩ (.int .i64 4294967296)).heap.size = w6.heap.size := by simp
  have U1 : C1 (w6.setCell ⟨gA, 1, none⟩ (.int .i64 4294967296)) gU (.slice (some ⟨gA, 0, none⟩) n t.c) := U0.apart (by omega) _
  replace GG : G5 (w6.setCell ⟨gA, 1, none⟩ (.int .i64 4294967296)) w.heap.size z D s l a := GG.set (by omega) _
  replace X1 : C1 (w6.setCell ⟨gA, 1, none⟩ (.int .i64 4294967296)) (w.heap.size + 1) (.slice x.A n x.c) := X1.apart (by omega) _
  replace hb0 : Below w.heap.size w (w6.setCell ⟨gA, 1, none⟩ (.int .i64 4294967296)) := hb0.setCell (show w.heap.size ≤ gA by omega) _
  obtain ⟨u, hu⟩ : ∃ u : TV, u = ⟨t.A, t.c, t.es.set 0 { e0 with sm := 4294967296 }⟩ := ⟨_, rfl⟩
  have HUO := HST.out
  rw [← hu] at HUO
  have hul : u.es.length = n := by rw [hu]; show (t.es.set 0 { e0 with sm := 4294967296 }).length = n; rw [List.length_set]; exact HTL.out
  have HUS := Lib.hid (show u.es.length ≤ 1048576 by omega)
  have HUV := Lib.hid (show u.v = .agg #[.slice (some ⟨gA, 0, none⟩) n t.c] from by unfold TV.v; rw [hul, hu]; show Value.agg #[.slice t.A n t.c] = _; rw [HTA.out])
  have HUI := Lib.hid (TV.Own.inn HUO)
  have HNG := Lib.hid (show ¬ Good D u.es from by rw [hu]; exact HBAD.out)
  rw [← hgs] at lU l1
  clear HUO hul hu HST HBAD hgs hto6 hA hf0 c0 c1 c2 t0 U0 g0 g1 g2 g3 g4 x0
  generalize w6.setCell ⟨gA, 1, none⟩ (.int .i64 4294967296) = w8 at *
  have u0 := U1.c0
  obtain ⟨g0, g1, g2, g3, g4⟩ := id GG
  have x0 := X1.c0
  have HBY := Lib.hid (show Calls Try.prog 9 #[.agg #[.int .i64 z, .int .i64 D, .int .i64 s, .int .i64 l, .int .i64 a], .agg #[.slice (some ⟨gA, 0, none⟩) n t.c]] w8 fun e w' => NonE 1 e ∧ Below w8.heap.size w8 w' from by
    rw [← HUV.out]
    exact HC.out.bytes_no z D s l a u w8 hb0 (fun h => HNG.out h.2) HUI.out HUS.out)
  have HCU := Lib.hid (show ∀ W, Below w8.heap.size w8 W → Calls Try.prog 13 #[.agg #[.int .i64 z, .int .i64 D, .int .i64 s, .int .i64 l, .int .i64 a], .agg #[.slice (some ⟨gA, 0, none⟩) n t.c]] W fun e w' => e = .returned (.int .i64 1) ∧ Below W.heap.size W w' from fun W hW => by
    rw [← HUV.out]
    exact HC.out.check false z D s l a u W (bt hb0 hW) HO.out (HUI.out.next hW) HUS.out (iff_of_false Bool.false_ne_true HNG.out))
  have HCX := Lib.hid (show ∀ W, Below w.heap.size w W → Calls Try.prog 13 #[.agg #[.int .i64 z, .int .i64 D, .int .i64 s, .int .i64 l, .int .i64 a], .agg #[.slice x.A n x.c]] W fun e w' => e = .returned (.int .i64 0) ∧ Below W.heap.size W w' from fun W hW => by
    have h9 := HC.out.check true z D s l a x W hW HO.out (HX.out.next hW) (by rw [HXN.out]; omega) (iff_of_true rfl HG.out)
    unfold TV.v at h9
    rw [HXN.out] at h9
    exact h9)
  have HWK := Lib.hid (fun W (hW : Below w.heap.size w W) => wk_tab W (HC.out.next hW))
  have b8 := Below.refl w8.heap.size w8
  clear HUV HUI HUS HNG
  go_wp2_with (first
    | (go_at_call 9; (with_reducible refine HBY.out.mono ?_); rintro e wq ⟨⟨Y, yc, rfl⟩, hbq⟩; replace U1 := U1.keep hbq lU; replace lU := Nat.lt_of_lt_of_le lU hbq.size; clear u0; have u0 := U1.c0; replace b8 := bt b8 hbq; replace GG := GG.keep hbq (by omega); replace X1 := X1.keep hbq (by omega); replace l1 := Nat.lt_of_lt_of_le l1 hbq.size; clear g0 g1 g2 g3 g4 x0; obtain ⟨g0, g1, g2, g3, g4⟩ := id GG; have x0 := X1.c0; replace hb0 := bt hb0 hbq; clear hbq)
    | (go_at_call 13; (with_reducible refine (HCX.out _ hb0).mono ?_); rintro e wq ⟨rfl, hbq⟩; replace U1 := U1.keep hbq lU; replace lU := Nat.lt_of_lt_of_le lU hbq.size; clear u0; have u0 := U1.c0; replace b8 := bt b8 hbq; replace GG := GG.keep hbq (by omega); replace X1 := X1.keep hbq (by omega); replace l1 := Nat.lt_of_lt_of_le l1 hbq.size; clear g0 g1 g2 g3 g4 x0; obtain ⟨g0, g1, g2, g3, g4⟩ := id GG; have x0 := X1.c0; replace hb0 := bt hb0 hbq; clear hbq)
    | (go_at_call 13; (with_reducible refine (HCU.out _ b8).mono ?_); rintro e wq ⟨rfl, hbq⟩; replace GG := GG.keep hbq (by omega); replace X1 := X1.keep hbq (by omega); replace l1 := Nat.lt_of_lt_of_le l1 hbq.size; clear g0 g1 g2 g3 g4 x0; obtain ⟨g0, g1, g2, g3, g4⟩ := id GG; have x0 := X1.c0; replace hb0 := bt hb0 hbq; clear hbq)
    | (go_at_call 15; (with_reducible refine (HWK.out _ hb0).mono ?_); rintro e wz ⟨rfl, hbz⟩))
  go_ret
  exact ⟨rfl, bt hb0 hbz⟩
set_option maxRecDepth 100000 in
set_option maxHeartbeats 4000000 in
theorem tb_0 (z : Int) (D : Nat) (s l a : Int) (x : TV) (how : Int) (w : World) (hc : Ctt w) (hx : x.In w w.heap.size) (hln : x.es.length ≤ 20) (ho : Ok z D s l a) (hg : Good D x.es) (hm : (IntKind.u64.wrap how).tmod 5 = 0) :
    Calls Try.prog 5 #[.agg #[.int .i64 z, .int .i64 D, .int .i64 s, .int .i64 l, .int .i64 a], x.v, .int .i64 how] w fun e w' => e = .returned (.bool true) ∧ Below w.heap.size w w' := by
  have cG := fun W => Go.Proofs.Ytldknkikekaifaa.gmt.rgeo_at true z D s l a W (iff_of_true rfl ho)
  have cR := fun W (hW : Below w.heap.size w W) => rtable_any true z D s l a x W ho (hx.next hW) (by omega) (iff_of_true rfl hg)
  have cT := fun W (hW : Below w.heap.size w W) => twin_table x x.es.length W (hx.next hW) rfl (by omega)
  unfold TV.v at cR cT
  have o2 := ho.2.1
  have hdl := hg.1
  obtain ⟨n, hxn⟩ : ∃ n, x.es.length = n := ⟨_, rfl⟩
  have GG := (g5_new w z D s l a).keep (bl (w.alloc (.cells #[.int .i64 z, .int .i64 D, .int .i64 s, .int .i64 l, .int .i64 a] 23)) (.cells #[.slice x.A n x.c] 26)) (by simp)
  have X1 := c1_new (w.alloc (.cells #[.int .i64 z, .int .i64 D, .int .i64 s, .int .i64 l, .int .i64 a] 23)) (.slice x.A n x.c) 26
  rw [show (w.alloc (.cells #[.int .i64 z, .int .i64 D, .int .i64 s, .int .i64 l, .int .i64 a] 23)).heap.size = w.heap.size + 1 by simp] at X1
  have hb0 := kal (bl w (.cells #[.int .i64 z, .int .i64 D, .int .i64 s, .int .i64 l, .int .i64 a] 23)) (.cells #[.slice x.A n x.c] 26)
  have l1 : w.heap.size + 1 < ((w.alloc (.cells #[.int .i64 z, .int .i64 D, .int .i64 s, .int .i64 l, .int .i64 a] 23)).alloc (.cells #[.slice x.A n x.c] 26)).heap.size := by simp
  rw [hxn] at cR cT hln hdl
  have HDL := Lib.hid hdl
  clear hdl
  have HC := Lib.hid hc
  have HX := Lib.hid hx
  have HO := Lib.hid ho
  have HG := Lib.hid hg
  have hn2 : ¬ (20 : Int) < (n : Int) := by omega
  unfold TV.v
  rw [hxn]
  go_enter Try.func5, Try.ntmps5
  go_upto_region 1 with fail
  generalize ((w.alloc (.cells #[.int .i64 z, .int .i64 D, .int .i64 s, .int .i64 l, .int .i64 a] 23)).alloc (.cells #[.slice x.A n x.c] 26)) = w0 at *
  obtain ⟨g0, g1, g2, g3, g4⟩ := id GG
  have x0 := X1.c0
  have HXN := Lib.hid hxn
  clear hc hx ho hg hxn
  go_upto_region 3 with (first
    | (go_at_call 12; (with_reducible refine (cG _).mono ?_); rintro e wq ⟨rfl, hbq⟩; replace GG := GG.keep hbq (by omega); replace X1 := X1.keep hbq (by omega); replace l1 := Nat.lt_of_lt_of_le l1 hbq.size; clear g0 g1 g2 g3 g4 x0; obtain ⟨g0, g1, g2, g3, g4⟩ := id GG; have x0 := X1.c0; replace hb0 := bt hb0 hbq; clear hbq)
    | (go_at_call 18; (with_reducible refine (cR _ hb0).mono ?_); rintro e wq ⟨rfl, hbq⟩; replace GG := GG.keep hbq (by omega); replace X1 := X1.keep hbq (by omega); replace l1 := Nat.lt_of_lt_of_le l1 hbq.size; clear g0 g1 g2 g3 g4 x0; obtain ⟨g0, g1, g2, g3, g4⟩ := id GG; have x0 := X1.c0; replace hb0 := bt hb0 hbq; clear hbq))
  go_upto_region 4 with (go_at_call 7; (with_reducible refine (cT _ hb0).mono ?_); rintro e w5 ⟨⟨t, het, hte0, hto⟩, hb5⟩; rw [TV.v] at het; subst het; have HTE := Lib.hid hte0; clear hte0; have lW := l1; replace GG := GG.keep hb5 (by omega); replace X1 := X1.keep hb5 (by omega); replace l1 := Nat.lt_of_lt_of_le l1 hb5.size; clear g0 g1 g2 g3 g4 x0; obtain ⟨g0, g1, g2, g3, g4⟩ := id GG; have x0 := X1.c0; replace hb0 := bt hb0 hb5)
  have htl : t.es.length = n := by rw [HTE.out]; exact HXN.out
  rw [htl]
  have hx6 := bl w5 (.cells #[.slice t.A n t.c] 26)
  have U0 := c1_new w5 (.slice t.A n t.c) 26
  have hto6 := TV.Own.below hto hx6
  have lto : w.heap.size + 2 ≤ w5.heap.size := by omega
  replace GG := GG.keep hx6 (by omega); replace X1 := X1.keep hx6 (by omega); replace l1 := Nat.lt_of_lt_of_le l1 hx6.size; clear g0 g1 g2 g3 g4 x0; obtain ⟨g0, g1, g2, g3, g4⟩ := id GG; have x0 := X1.c0; replace hb0 := bt hb0 hx6
  obtain ⟨gU, hgU⟩ : ∃ g, g = w5.heap.size := ⟨_, rfl⟩
  have lU : gU < (w5.alloc (.cells #[.slice t.A n t.c] 26)).heap.size := by rw [hgU]; simp
  obtain ⟨gA, hA, hgA1, hgA2⟩ := hto.row (by have := HDL.out; omega)
  rw [← hgU] at U0 hgA1 ⊢
  have lgU : w.heap.size + 2 ≤ gU := by omega
  have hgA3 : w.heap.size + 1 < gA := by omega
  clear hgU hx6 hb5 hto lto
  generalize w5.alloc (.cells #[.slice t.A n t.c] 26) = w6 at *
  rw [hA] at U0
  have HTL := Lib.hid htl
  have HTO := Lib.hid (hto6.less (show w.heap.size + 2 ≤ _ by omega))
  have HTA := Lib.hid hA
  have hlt : D < t.es.length := by have := HDL.out; rw [HTL.out]; omega
  obtain ⟨b1, off, e0, hA1, hb1, c0, c1, c2, -, e1⟩ := ent_at (TV.Own.inn HTO.out).h hlt
  rw [HTA.out] at hA1
  simp only [Option.some.injEq, Addr.mk.injEq, and_true] at hA1
  obtain ⟨rfl, rfl⟩ := hA1
  have hfz := TV.Own.frozen HTO.out HTA.out
  have hf0 := hfz (D * 3 + 2)
  have HST := Lib.hid (TV.Own.store (i := 2) (e' := { e0 with ls := true }) (v := .bool true) HTO.out HTA.out e1 (by decide) rfl)
  have HBAD := Lib.hid (show ¬ Good D (t.es.set D ({ e0 with ls := true })) from fun h => by have h9 := h.2.2 { e0 with ls := true } (by rw [Int.toNat_natCast, List.getElem?_set_self hlt]); exact absurd (show true = false from h9) (by decide))
  have i3 : (D : Int) < (n : Int) := by have := HDL.out; omega
  simp only [Nat.zero_add] at c0 c1 c2
  clear e1 hfz hlt
  have t0 := U0.c0
  go_upto_region 14 with fail
  have hgs : (w6.setCell ⟨gA, D * 3 + 2, none⟩ (.bool true)).heap.size = w6.heap.size := by simp
  have U1 : C1 (w6.setCell ⟨gA, D * 3 + 2, none⟩ (.bool true)) gU (.slice (some ⟨gA, 0, none⟩) n t.c) := U0.apart (by omega) _
  replace GG : G5 (w6.setCell ⟨gA, D * 3 + 2, none⟩ (.bool true)) w.heap.size z D s l a := GG.set (by omega) _
  replace X1 : C1 (w6.setCell ⟨gA, D * 3 + 2, none⟩ (.bool true)) (w.heap.size + 1) (.slice x.A n x.c) := X1.apart (by omega) _
  replace hb0 : Below w.heap.size w (w6.setCell ⟨gA, D * 3 + 2, none⟩ (.bool true)) := hb0.setCell (show w.heap.size ≤ gA by omega) _
  obtain ⟨u, hu⟩ : ∃ u : TV, u = ⟨t.A, t.c, t.es.set D { e0 with ls := true }⟩ := ⟨_, rfl⟩
  have HUO := HST.out
  rw [← hu] at HUO
  have hul : u.es.length = n := by rw [hu]; show (t.es.set D { e0 with ls := true }).length = n; rw [List.length_set]; exact HTL.out
  have HUS := Lib.hid (show u.es.length ≤ 1048576 by omega)
  have HUV := Lib.hid (show u.v = .agg #[.slice (some ⟨gA, 0, none⟩) n t.c] from by unfold TV.v; rw [hul, hu]; show Value.agg #[.slice t.A n t.c] = _; rw [HTA.out])
  have HUI := Lib.hid (TV.Own.inn HUO)
  have HNG := Lib.hid (show ¬ Good D u.es from by rw [hu]; exact HBAD.out)
  rw [← hgs] at lU l1
  clear HUO hul hu HST HBAD hgs hto6 hA hf0 c0 c1 c2 t0 U0 g0 g1 g2 g3 g4 x0
  generalize w6.setCell ⟨gA, D * 3 + 2, none⟩ (.bool true) = w8 at *
  have u0 := U1.c0
  obtain ⟨g0, g1, g2, g3, g4⟩ := id GG
  have x0 := X1.c0
  have HBY := Lib.hid (show Calls Try.prog 9 #[.agg #[.int .i64 z, .int .i64 D, .int .i64 s, .int .i64 l, .int .i64 a], .agg #[.slice (some ⟨gA, 0, none⟩) n t.c]] w8 fun e w' => NonE 1 e ∧ Below w8.heap.size w8 w' from by
    rw [← HUV.out]
    exact HC.out.bytes_no z D s l a u w8 hb0 (fun h => HNG.out h.2) HUI.out HUS.out)
  have HCU := Lib.hid (show ∀ W, Below w8.heap.size w8 W → Calls Try.prog 13 #[.agg #[.int .i64 z, .int .i64 D, .int .i64 s, .int .i64 l, .int .i64 a], .agg #[.slice (some ⟨gA, 0, none⟩) n t.c]] W fun e w' => e = .returned (.int .i64 1) ∧ Below W.heap.size W w' from fun W hW => by
    rw [← HUV.out]
    exact HC.out.check false z D s l a u W (bt hb0 hW) HO.out (HUI.out.next hW) HUS.out (iff_of_false Bool.false_ne_true HNG.out))
  have HCX := Lib.hid (show ∀ W, Below w.heap.size w W → Calls Try.prog 13 #[.agg #[.int .i64 z, .int .i64 D, .int .i64 s, .int .i64 l, .int .i64 a], .agg #[.slice x.A n x.c]] W fun e w' => e = .returned (.int .i64 0) ∧ Below W.heap.size W w' from fun W hW => by
    have h9 := HC.out.check true z D s l a x W hW HO.out (HX.out.next hW) (by rw [HXN.out]; omega) (iff_of_true rfl HG.out)
    unfold TV.v at h9
    rw [HXN.out] at h9
    exact h9)
  have HWK := Lib.hid (fun W (hW : Below w.heap.size w W) => wk_tab W (HC.out.next hW))
  have b8 := Below.refl w8.heap.size w8
  clear HUV HUI HUS HNG
  go_wp2_with (first
    | (go_at_call 9; (with_reducible refine HBY.out.mono ?_); rintro e wq ⟨⟨Y, yc, rfl⟩, hbq⟩; replace U1 := U1.keep hbq lU; replace lU := Nat.lt_of_lt_of_le lU hbq.size; clear u0; have u0 := U1.c0; replace b8 := bt b8 hbq; replace GG := GG.keep hbq (by omega); replace X1 := X1.keep hbq (by omega); replace l1 := Nat.lt_of_lt_of_le l1 hbq.size; clear g0 g1 g2 g3 g4 x0; obtain ⟨g0, g1, g2, g3, g4⟩ := id GG; have x0 := X1.c0; replace hb0 := bt hb0 hbq; clear hbq)
    | (go_at_call 13; (with_reducible refine (HCX.out _ hb0).mono ?_); rintro e wq ⟨rfl, hbq⟩; replace U1 := U1.keep hbq lU; replace lU := Nat.lt_of_lt_of_le lU hbq.size; clear u0; have u0 := U1.c0; replace b8 := bt b8 hbq; replace GG := GG.keep hbq (by omega); replace X1 := X1.keep hbq (by omega); replace l1 := Nat.lt_of_lt_of_le l1 hbq.size; clear g0 g1 g2 g3 g4 x0; obtain ⟨g0, g1, g2, g3, g4⟩ := id GG; have x0 := X1.c0; replace hb0 := bt hb0 hbq; clear hbq)
    | (go_at_call 13; (with_reducible refine (HCU.out _ b8).mono ?_); rintro e wq ⟨rfl, hbq⟩; replace GG := GG.keep hbq (by omega); replace X1 := X1.keep hbq (by omega); replace l1 := Nat.lt_of_lt_of_le l1 hbq.size; clear g0 g1 g2 g3 g4 x0; obtain ⟨g0, g1, g2, g3, g4⟩ := id GG; have x0 := X1.c0; replace hb0 := bt hb0 hbq; clear hbq)
    | (go_at_call 15; (with_reducible refine (HWK.out _ hb0).mono ?_); rintro e wz ⟨rfl, hbz⟩))
  go_ret
  exact ⟨rfl, bt hb0 hbz⟩
set_option maxRecDepth 100000 in
set_option maxHeartbeats 4000000 in
theorem tb_1 (z : Int) (D : Nat) (s l a : Int) (x : TV) (how : Int) (w : World) (hc : Ctt w) (hx : x.In w w.heap.size) (hln : x.es.length ≤ 20) (ho : Ok z D s l a) (hg : Good D x.es) (hm : (IntKind.u64.wrap how).tmod 5 = 1) :
    Calls Try.prog 5 #[.agg #[.int .i64 z, .int .i64 D, .int .i64 s, .int .i64 l, .int .i64 a], x.v, .int .i64 how] w fun e w' => e = .returned (.bool true) ∧ Below w.heap.size w w' := by
  have cG := fun W => Go.Proofs.Ytldknkikekaifaa.gmt.rgeo_at true z D s l a W (iff_of_true rfl ho)
  have cR := fun W (hW : Below w.heap.size w W) => rtable_any true z D s l a x W ho (hx.next hW) (by omega) (iff_of_true rfl hg)
  have cT := fun W (hW : Below w.heap.size w W) => twin_table x x.es.length W (hx.next hW) rfl (by omega)
  unfold TV.v at cR cT
  have o2 := ho.2.1
  have hdl := hg.1
  obtain ⟨n, hxn⟩ : ∃ n, x.es.length = n := ⟨_, rfl⟩
  have GG := (g5_new w z D s l a).keep (bl (w.alloc (.cells #[.int .i64 z, .int .i64 D, .int .i64 s, .int .i64 l, .int .i64 a] 23)) (.cells #[.slice x.A n x.c] 26)) (by simp)
  have X1 := c1_new (w.alloc (.cells #[.int .i64 z, .int .i64 D, .int .i64 s, .int .i64 l, .int .i64 a] 23)) (.slice x.A n x.c) 26
  rw [show (w.alloc (.cells #[.int .i64 z, .int .i64 D, .int .i64 s, .int .i64 l, .int .i64 a] 23)).heap.size = w.heap.size + 1 by simp] at X1
  have hb0 := kal (bl w (.cells #[.int .i64 z, .int .i64 D, .int .i64 s, .int .i64 l, .int .i64 a] 23)) (.cells #[.slice x.A n x.c] 26)
  have l1 : w.heap.size + 1 < ((w.alloc (.cells #[.int .i64 z, .int .i64 D, .int .i64 s, .int .i64 l, .int .i64 a] 23)).alloc (.cells #[.slice x.A n x.c] 26)).heap.size := by simp
  rw [hxn] at cR cT hln hdl
  have HDL := Lib.hid hdl
  clear hdl
  have HC := Lib.hid hc
  have HX := Lib.hid hx
  have HO := Lib.hid ho
  have HG := Lib.hid hg
  have hn2 : ¬ (20 : Int) < (n : Int) := by omega
  unfold TV.v
  rw [hxn]
  go_enter Try.func5, Try.ntmps5
  go_upto_region 1 with fail
  generalize ((w.alloc (.cells #[.int .i64 z, .int .i64 D, .int .i64 s, .int .i64 l, .int .i64 a] 23)).alloc (.cells #[.slice x.A n x.c] 26)) = w0 at *
  obtain ⟨g0, g1, g2, g3, g4⟩ := id GG
  have x0 := X1.c0
  have HXN := Lib.hid hxn
  clear hc hx ho hg hxn
  go_upto_region 3 with (first
    | (go_at_call 12; (with_reducible refine (cG _).mono ?_); rintro e wq ⟨rfl, hbq⟩; replace GG := GG.keep hbq (by omega); replace X1 := X1.keep hbq (by omega); replace l1 := Nat.lt_of_lt_of_le l1 hbq.size; clear g0 g1 g2 g3 g4 x0; obtain ⟨g0, g1, g2, g3, g4⟩ := id GG; have x0 := X1.c0; replace hb0 := bt hb0 hbq; clear hbq)
    | (go_at_call 18; (with_reducible refine (cR _ hb0).mono ?_); rintro e wq ⟨rfl, hbq⟩; replace GG := GG.keep hbq (by omega); replace X1 := X1.keep hbq (by omega); replace l1 := Nat.lt_of_lt_of_le l1 hbq.size; clear g0 g1 g2 g3 g4 x0; obtain ⟨g0, g1, g2, g3, g4⟩ := id GG; have x0 := X1.c0; replace hb0 := bt hb0 hbq; clear hbq))
  go_upto_region 4 with (go_at_call 7; (with_reducible refine (cT _ hb0).mono ?_); rintro e w5 ⟨⟨t, het, hte0, hto⟩, hb5⟩; rw [TV.v] at het; subst het; have HTE := Lib.hid hte0; clear hte0; have lW := l1; replace GG := GG.keep hb5 (by omega); replace X1 := X1.keep hb5 (by omega); replace l1 := Nat.lt_of_lt_of_le l1 hb5.size; clear g0 g1 g2 g3 g4 x0; obtain ⟨g0, g1, g2, g3, g4⟩ := id GG; have x0 := X1.c0; replace hb0 := bt hb0 hb5)
  have htl : t.es.length = n := by rw [HTE.out]; exact HXN.out
  rw [htl]
  have hx6 := bl w5 (.cells #[.slice t.A n t.c] 26)
  have U0 := c1_new w5 (.slice t.A n t.c) 26
  have hto6 := TV.Own.below hto hx6
  have lto : w.heap.size + 2 ≤ w5.heap.size := by omega
  replace GG := GG.keep hx6 (by omega); replace X1 := X1.keep hx6 (by omega); replace l1 := Nat.lt_of_lt_of_le l1 hx6.size; clear g0 g1 g2 g3 g4 x0; obtain ⟨g0, g1, g2, g3, g4⟩ := id GG; have x0 := X1.c0; replace hb0 := bt hb0 hx6
  obtain ⟨gU, hgU⟩ : ∃ g, g = w5.heap.size := ⟨_, rfl⟩
  have lU : gU < (w5.alloc (.cells #[.slice t.A n t.c] 26)).heap.size := by rw [hgU]; simp
  obtain ⟨gA, hA, hgA1, hgA2⟩ := hto.row (by have := HDL.out; omega)
  rw [← hgU] at U0 hgA1 ⊢
  have lgU : w.heap.size + 2 ≤ gU := by omega
  have hgA3 : w.heap.size + 1 < gA := by omega
  clear hgU hx6 hb5 hto lto
  generalize w5.alloc (.cells #[.slice t.A n t.c] 26) = w6 at *
  rw [hA] at U0
  have HTL := Lib.hid htl
  have HTO := Lib.hid (hto6.less (show w.heap.size + 2 ≤ _ by omega))
  have HTA := Lib.hid hA
  have HTO2 : w6.ownsRow (w.heap.size + 2) 47 3 (.slice (some ⟨gA, 0, none⟩) n t.c) n (evs t.es) := by
    have h9 := HTO.out
    unfold TV.Own OwnE at h9
    rw [HTL.out, HTA.out] at h9
    exact h9
  have t0 := U0.c0
  have hx7 := bl w6 (.cells #[.int .i64 0, .int .i64 0, .bool false] 47)
  have t7 := kst hx7 lU t0
  have f7 := (U0.keep hx7 lU).f0
  go_upto_region 14 with (first
    | (at_builtin
       refine wpList_row4 _ rfl (.tmp 45) (.tmp 47) _ _ rfl (w.heap.size + 2) 3 24 47 (.agg #[.int .i64 0, .int .i64 0, .bool false]) Try.underlying24 e_info rfl (.slice (some ⟨gA, 0, none⟩) n t.c) n (evs t.es) rfl (World.ownsRow.alloc HTO2 _) _ 1 _ rfl (anc.src_home (P := Try.prog) (heap_alloc_new w6 (.cells #[.int .i64 0, .int .i64 0, .bool false] 47)) Try.underlying24 (by simp [Value.oneCell'])) (by unfold maxLen; omega) (by omega) (by have := hx7.size; omega) ?_
       intro v3 w3 h3 hg3 h4
       have hne : some gU ≠ (.slice (some ⟨gA, 0, none⟩) n t.c : Value).ownBlock := fun k => by
         have : gU = gA := by simpa [Value.ownBlock] using k
         omega
       have hv3 : v3.ownBlock ≠ some gU := fun k => by
         rcases h4 with h4 | h4
         · rw [h4] at k
           exact hne k.symm
         · rw [h4] at k
           simp at k
           omega
       have t8 := hg3.cell (a := ⟨gU, 0, none⟩) t7 hne
       have f8 := (hg3.frozen_far ⟨gU, 0, none⟩ (Nat.lt_of_lt_of_le lU hx7.size) hne).trans f7
       obtain ⟨A3, d3, hv3', hl3, hm3, hs3⟩ := row_form h3
       subst hv3'))
  have b7 : Below (w.heap.size + 2) w6 w3 := (hx7.mono (by omega)).grown hg3 (by have := hx7.size; omega) (fun q hq => (World.ownsRow.lt HTO2 q hq).1)
  have hs7 := b7.size
  have h5 := ownsRow_setCell_other (a := ⟨gU, 0, none⟩) h3 hv3 (.slice A3 (n + 1 : Nat) d3)
  have U1 : C1 (w3.setCell ⟨gU, 0, none⟩ (.slice A3 (n + 1 : Nat) d3)) gU (.slice A3 (n + 1 : Nat) d3) := C1.set ⟨t8, f8⟩ _
  replace GG : G5 (w3.setCell ⟨gU, 0, none⟩ (.slice A3 (n + 1 : Nat) d3)) w.heap.size z D s l a := (GG.keep b7 (by omega)).set (by omega) _
  replace X1 : C1 (w3.setCell ⟨gU, 0, none⟩ (.slice A3 (n + 1 : Nat) d3)) (w.heap.size + 1) (.slice x.A n x.c) := (X1.keep b7 (by omega)).apart (by omega) _
  replace hb0 : Below w.heap.size w (w3.setCell ⟨gU, 0, none⟩ (.slice A3 (n + 1 : Nat) d3)) := (hb0.trans (b7.mono (by omega))).setCell (show w.heap.size ≤ gU by omega) _
  obtain ⟨u, hu⟩ : ∃ u : TV, u = ⟨A3, d3, t.es ++ [⟨0, 0, false⟩]⟩ := ⟨_, rfl⟩
  have hul : u.es.length = n + 1 := by rw [hu]; show (t.es ++ [_]).length = n + 1; rw [List.length_append, HTL.out]; rfl
  have HUS := Lib.hid (show u.es.length ≤ 1048576 by omega)
  have HUV := Lib.hid (show u.v = .agg #[.slice A3 (n + 1 : Nat) d3] from by unfold TV.v; rw [hul, hu])
  have HUI := Lib.hid (show u.In (w3.setCell ⟨gU, 0, none⟩ (.slice A3 (n + 1 : Nat) d3)) (w3.setCell ⟨gU, 0, none⟩ (.slice A3 (n + 1 : Nat) d3)).heap.size from by
    obtain ⟨A4, d4, hv4, k1, k2, k3⟩ := row_form h5
    simp only [Value.slice.injEq] at hv4
    obtain ⟨rfl, -, rfl⟩ := hv4
    refine ⟨?_, ?_⟩
    · rw [hu]
      show SlV _ _ A3 (evs (t.es ++ [⟨0, 0, false⟩]))
      rw [evs_append]
      exact k3
    · rw [hul, hu]
      exact ⟨k1, k2⟩)
  have HNG := Lib.hid (show ¬ Good D u.es from fun h => by have h9 := h.1; rw [hul] at h9; have := HDL.out; omega)
  replace l1 : w.heap.size + 1 < (w3.setCell ⟨gU, 0, none⟩ (.slice A3 (n + 1 : Nat) d3)).heap.size := by simp; omega
  replace lU : gU < (w3.setCell ⟨gU, 0, none⟩ (.slice A3 (n + 1 : Nat) d3)).heap.size := by simp; omega
  clear hul hu hto6 hA U0 g0 g1 g2 g3 g4 x0 t0 t7 f7 t8 f8 h3 h4 h5 hg3 b7 hs7 hv3 HTO2 hs3
  generalize w3.setCell ⟨gU, 0, none⟩ (.slice A3 (n + 1 : Nat) d3) = w8 at *
  have u0 := U1.c0
  obtain ⟨g0, g1, g2, g3, g4⟩ := id GG
  have x0 := X1.c0
  have HBY := Lib.hid (show Calls Try.prog 9 #[.agg #[.int .i64 z, .int .i64 D, .int .i64 s, .int .i64 l, .int .i64 a], .agg #[.slice A3 (n + 1 : Nat) d3]] w8 fun e w' => NonE 1 e ∧ Below w8.heap.size w8 w' from by
    rw [← HUV.out]
    exact HC.out.bytes_no z D s l a u w8 hb0 (fun h => HNG.out h.2) HUI.out HUS.out)
  have HCU := Lib.hid (show ∀ W, Below w8.heap.size w8 W → Calls Try.prog 13 #[.agg #[.int .i64 z, .int .i64 D, .int .i64 s, .int .i64 l, .int .i64 a], .agg #[.slice A3 (n + 1 : Nat) d3]] W fun e w' => e = .returned (.int .i64 1) ∧ Below W.heap.size W w' from fun W hW => by
    rw [← HUV.out]
    exact HC.out.check false z D s l a u W (bt hb0 hW) HO.out (HUI.out.next hW) HUS.out (iff_of_false Bool.false_ne_true HNG.out))
  have HCX := Lib.hid (show ∀ W, Below w.heap.size w W → Calls Try.prog 13 #[.agg #[.int .i64 z, .int .i64 D, .int .i64 s, .int .i64 l, .int .i64 a], .agg #[.slice x.A n x.c]] W fun e w' => e = .returned (.int .i64 0) ∧ Below W.heap.size W w' from fun W hW => by
    have h9 := HC.out.check true z D s l a x W hW HO.out (HX.out.next hW) (by rw [HXN.out]; omega) (iff_of_true rfl HG.out)
    unfold TV.v at h9
    rw [HXN.out] at h9
    exact h9)
  have HWK := Lib.hid (fun W (hW : Below w.heap.size w W) => wk_tab W (HC.out.next hW))
  have b8 := Below.refl w8.heap.size w8
  clear HUV HUI HUS HNG
  go_wp2_with (first
    | (go_at_call 9; (with_reducible refine HBY.out.mono ?_); rintro e wq ⟨⟨Y, yc, rfl⟩, hbq⟩; replace U1 := U1.keep hbq lU; replace lU := Nat.lt_of_lt_of_le lU hbq.size; clear u0; have u0 := U1.c0; replace b8 := bt b8 hbq; replace GG := GG.keep hbq (by omega); replace X1 := X1.keep hbq (by omega); replace l1 := Nat.lt_of_lt_of_le l1 hbq.size; clear g0 g1 g2 g3 g4 x0; obtain ⟨g0, g1, g2, g3, g4⟩ := id GG; have x0 := X1.c0; replace hb0 := bt hb0 hbq; clear hbq)
    | (go_at_call 13; (with_reducible refine (HCX.out _ hb0).mono ?_); rintro e wq ⟨rfl, hbq⟩; replace U1 := U1.keep hbq lU; replace lU := Nat.lt_of_lt_of_le lU hbq.size; clear u0; have u0 := U1.c0; replace b8 := bt b8 hbq; replace GG := GG.keep hbq (by omega); replace X1 := X1.keep hbq (by omega); replace l1 := Nat.lt_of_lt_of_le l1 hbq.size; clear g0 g1 g2 g3 g4 x0; obtain ⟨g0, g1, g2, g3, g4⟩ := id GG; have x0 := X1.c0; replace hb0 := bt hb0 hbq; clear hbq)
    | (go_at_call 13; (with_reducible refine (HCU.out _ b8).mono ?_); rintro e wq ⟨rfl, hbq⟩; replace GG := GG.keep hbq (by omega); replace X1 := X1.keep hbq (by omega); replace l1 := Nat.lt_of_lt_of_le l1 hbq.size; clear g0 g1 g2 g3 g4 x0; obtain ⟨g0, g1, g2, g3, g4⟩ := id GG; have x0 := X1.c0; replace hb0 := bt hb0 hbq; clear hbq)
    | (go_at_call 15; (with_reducible refine (HWK.out _ hb0).mono ?_); rintro e wz ⟨rfl, hbz⟩))
  go_ret
  exact ⟨rfl, bt hb0 hbz⟩
set_option maxRecDepth 100000 in
set_option maxHeartbeats 4000000 in
theorem tb_4 (z : Int) (D : Nat) (s l a : Int) (x : TV) (how : Int) (w : World) (hc : Ctt w) (hx : x.In w w.heap.size) (hln : x.es.length ≤ 20) (ho : Ok z D s l a) (hg : Good D x.es) (hm : (IntKind.u64.wrap how).tmod 5 = 4) :
    Calls Try.prog 5 #[.agg #[.int .i64 z, .int .i64 D, .int .i64 s, .int .i64 l, .int .i64 a], x.v, .int .i64 how] w fun e w' => e = .returned (.bool true) ∧ Below w.heap.size w w' := by
  have cG := fun W => Go.Proofs.Ytldknkikekaifaa.gmt.rgeo_at true z D s l a W (iff_of_true rfl ho)
  have cR := fun W (hW : Below w.heap.size w W) => rtable_any true z D s l a x W ho (hx.next hW) (by omega) (iff_of_true rfl hg)
  have cT := fun W (hW : Below w.heap.size w W) => twin_table x x.es.length W (hx.next hW) rfl (by omega)
  unfold TV.v at cR cT
  have o2 := ho.2.1
  have hdl := hg.1
  obtain ⟨n, hxn⟩ : ∃ n, x.es.length = n := ⟨_, rfl⟩
  have GG := (g5_new w z D s l a).keep (bl (w.alloc (.cells #[.int .i64 z, .int .i64 D, .int .i64 s, .int .i64 l, .int .i64 a] 23)) (.cells #[.slice x.A n x.c] 26)) (by simp)
  have X1 := c1_new (w.alloc (.cells #[.int .i64 z, .int .i64 D, .int .i64 s, .int .i64 l, .int .i64 a] 23)) (.slice x.A n x.c) 26
  rw [show (w.alloc (.cells #[.int .i64 z, .int .i64 D, .int .i64 s, .int .i64 l, .int .i64 a] 23)).heap.size = w.heap.size + 1 by simp] at X1
  have hb0 := kal (bl w (.cells #[.int .i64 z, .int .i64 D, .int .i64 s, .int .i64 l, .int .i64 a] 23)) (.cells #[.slice x.A n x.c] 26)
  have l1 : w.heap.size + 1 < ((w.alloc (.cells #[.int .i64 z, .int .i64 D, .int .i64 s, .int .i64 l, .int .i64 a] 23)).alloc (.cells #[.slice x.A n x.c] 26)).heap.size := by simp
  rw [hxn] at cR cT hln hdl
  have HDL := Lib.hid hdl
  clear hdl
  have HC := Lib.hid hc
  have HX := Lib.hid hx
  have HO := Lib.hid ho
  have HG := Lib.hid hg
  have hn2 : ¬ (20 : Int) < (n : Int) := by omega
  unfold TV.v
  rw [hxn]
  go_enter Try.func5, Try.ntmps5
  go_upto_region 1 with fail
  generalize ((w.alloc (.cells #[.int .i64 z, .int .i64 D, .int .i64 s, .int .i64 l, .int .i64 a] 23)).alloc (.cells #[.slice x.A n x.c] 26)) = w0 at *
  obtain ⟨g0, g1, g2, g3, g4⟩ := id GG
  have x0 := X1.c0
  have HXN := Lib.hid hxn
  clear hc hx ho hg hxn
  go_upto_region 3 with (first
    | (go_at_call 12; (with_reducible refine (cG _).mono ?_); rintro e wq ⟨rfl, hbq⟩; replace GG := GG.keep hbq (by omega); replace X1 := X1.keep hbq (by omega); replace l1 := Nat.lt_of_lt_of_le l1 hbq.size; clear g0 g1 g2 g3 g4 x0; obtain ⟨g0, g1, g2, g3, g4⟩ := id GG; have x0 := X1.c0; replace hb0 := bt hb0 hbq; clear hbq)
    | (go_at_call 18; (with_reducible refine (cR _ hb0).mono ?_); rintro e wq ⟨rfl, hbq⟩; replace GG := GG.keep hbq (by omega); replace X1 := X1.keep hbq (by omega); replace l1 := Nat.lt_of_lt_of_le l1 hbq.size; clear g0 g1 g2 g3 g4 x0; obtain ⟨g0, g1, g2, g3, g4⟩ := id GG; have x0 := X1.c0; replace hb0 := bt hb0 hbq; clear hbq))
  go_upto_region 4 with (go_at_call 7; (with_reducible refine (cT _ hb0).mono ?_); rintro e w5 ⟨⟨t, het, hte0, hto⟩, hb5⟩; rw [TV.v] at het; subst het; have HTE := Lib.hid hte0; clear hte0; have lW := l1; replace GG := GG.keep hb5 (by omega); replace X1 := X1.keep hb5 (by omega); replace l1 := Nat.lt_of_lt_of_le l1 hb5.size; clear g0 g1 g2 g3 g4 x0; obtain ⟨g0, g1, g2, g3, g4⟩ := id GG; have x0 := X1.c0; replace hb0 := bt hb0 hb5)
  have htl : t.es.length = n := by rw [HTE.out]; exact HXN.out
  rw [htl]
  have hx6 := bl w5 (.cells #[.slice t.A n t.c] 26)
  have U0 := c1_new w5 (.slice t.A n t.c) 26
  have hto6 := TV.Own.below hto hx6
  have lto : w.heap.size + 2 ≤ w5.heap.size := by omega
  replace GG := GG.keep hx6 (by omega); replace X1 := X1.keep hx6 (by omega); replace l1 := Nat.lt_of_lt_of_le l1 hx6.size; clear g0 g1 g2 g3 g4 x0; obtain ⟨g0, g1, g2, g3, g4⟩ := id GG; have x0 := X1.c0; replace hb0 := bt hb0 hx6
  obtain ⟨gU, hgU⟩ : ∃ g, g = w5.heap.size := ⟨_, rfl⟩
  have lU : gU < (w5.alloc (.cells #[.slice t.A n t.c] 26)).heap.size := by rw [hgU]; simp
  obtain ⟨gA, hA, hgA1, hgA2⟩ := hto.row (by have := HDL.out; omega)
  rw [← hgU] at U0 hgA1 ⊢
  have lgU : w.heap.size + 2 ≤ gU := by omega
  have hgA3 : w.heap.size + 1 < gA := by omega
  clear hgU hx6 hb5 hto lto
  generalize w5.alloc (.cells #[.slice t.A n t.c] 26) = w6 at *
  rw [hA] at U0
  have HTL := Lib.hid htl
  have HTO := Lib.hid (hto6.less (show w.heap.size + 2 ≤ _ by omega))
  have HTA := Lib.hid hA
  have t0 := U0.c0
  have HTI := Lib.hid (TV.In.drop (TV.Own.inn HTO.out) HTA.out)
  have hl4 := (TV.Own.inn HTO.out).l
  rw [HTL.out] at hl4
  have hdl := HDL.out
  have f0 := U0.f0
  have p1 : 1 ≤ n := by omega
  have p2 : (1 : Int) ≤ (n : Int) := by omega
  have p3 : 1 ≤ t.c := by omega
  have p4 : ¬ t.c = 1 := by omega
  have p5 : (1 : Int) ≤ (t.c : Int) := by omega
  clear hdl
  go_upto_region 14 with fail
  have U1 := U0.set (.slice (some ⟨gA, 3, none⟩) (n - 1 : Nat) (t.c - 1))
  replace GG : G5 (w6.setCell ⟨gU, 0, none⟩ (.slice (some ⟨gA, 3, none⟩) (n - 1 : Nat) (t.c - 1))) w.heap.size z D s l a := GG.set (by omega) _
  replace X1 : C1 (w6.setCell ⟨gU, 0, none⟩ (.slice (some ⟨gA, 3, none⟩) (n - 1 : Nat) (t.c - 1))) (w.heap.size + 1) (.slice x.A n x.c) := X1.apart (by omega) _
  replace hb0 : Below w.heap.size w (w6.setCell ⟨gU, 0, none⟩ (.slice (some ⟨gA, 3, none⟩) (n - 1 : Nat) (t.c - 1))) := hb0.setCell (show w.heap.size ≤ gU by omega) _
  obtain ⟨u, hu⟩ : ∃ u : TV, u = ⟨some ⟨gA, 3, none⟩, t.c - 1, t.es.drop 1⟩ := ⟨_, rfl⟩
  have hul : u.es.length = n - 1 := by rw [hu]; show (t.es.drop 1).length = n - 1; rw [List.length_drop, HTL.out]
  have HUS := Lib.hid (show u.es.length ≤ 1048576 by omega)
  have HUV := Lib.hid (show u.v = .agg #[.slice (some ⟨gA, 3, none⟩) (n - 1 : Nat) (t.c - 1)] from by unfold TV.v; rw [hul, hu])
  have h6 : t.Own (w6.setCell ⟨gU, 0, none⟩ (.slice (some ⟨gA, 3, none⟩) (n - 1 : Nat) (t.c - 1))) (w.heap.size + 2) := ownsRow_setCell_other HTO.out (fun k => by
    rw [HTA.out] at k
    have : gA = gU := by simpa [Value.ownBlock] using k
    omega) _
  have HUI := Lib.hid (show u.In (w6.setCell ⟨gU, 0, none⟩ (.slice (some ⟨gA, 3, none⟩) (n - 1 : Nat) (t.c - 1))) (w6.setCell ⟨gU, 0, none⟩ (.slice (some ⟨gA, 3, none⟩) (n - 1 : Nat) (t.c - 1))).heap.size from by
    rw [hu]
    exact TV.In.drop (TV.Own.inn h6) HTA.out)
  have HNG := Lib.hid (show ¬ Good D u.es from fun h => by have h9 := h.1; rw [hul] at h9; have := HDL.out; omega)
  replace l1 : w.heap.size + 1 < (w6.setCell ⟨gU, 0, none⟩ (.slice (some ⟨gA, 3, none⟩) (n - 1 : Nat) (t.c - 1))).heap.size := by simp; omega
  replace lU : gU < (w6.setCell ⟨gU, 0, none⟩ (.slice (some ⟨gA, 3, none⟩) (n - 1 : Nat) (t.c - 1))).heap.size := by simp; omega
  clear hul hu hto6 hA U0 g0 g1 g2 g3 g4 x0 t0 f0 h6 HTI p1 p2 p3 p4 p5
  generalize w6.setCell ⟨gU, 0, none⟩ (.slice (some ⟨gA, 3, none⟩) (n - 1 : Nat) (t.c - 1)) = w8 at *
  have u0 := U1.c0
  obtain ⟨g0, g1, g2, g3, g4⟩ := id GG
  have x0 := X1.c0
  have HBY := Lib.hid (show Calls Try.prog 9 #[.agg #[.int .i64 z, .int .i64 D, .int .i64 s, .int .i64 l, .int .i64 a], .agg #[.slice (some ⟨gA, 3, none⟩) (n - 1 : Nat) (t.c - 1)]] w8 fun e w' => NonE 1 e ∧ Below w8.heap.size w8 w' from by
    rw [← HUV.out]
    exact HC.out.bytes_no z D s l a u w8 hb0 (fun h => HNG.out h.2) HUI.out HUS.out)
  have HCU := Lib.hid (show ∀ W, Below w8.heap.size w8 W → Calls Try.prog 13 #[.agg #[.int .i64 z, .int .i64 D, .int .i64 s, .int .i64 l, .int .i64 a], .agg #[.slice (some ⟨gA, 3, none⟩) (n - 1 : Nat) (t.c - 1)]] W fun e w' => e = .returned (.int .i64 1) ∧ Below W.heap.size W w' from fun W hW => by
    rw [← HUV.out]
    exact HC.out.check false z D s l a u W (bt hb0 hW) HO.out (HUI.out.next hW) HUS.out (iff_of_false Bool.false_ne_true HNG.out))
  have HCX := Lib.hid (show ∀ W, Below w.heap.size w W → Calls Try.prog 13 #[.agg #[.int .i64 z, .int .i64 D, .int .i64 s, .int .i64 l, .int .i64 a], .agg #[.slice x.A n x.c]] W fun e w' => e = .returned (.int .i64 0) ∧ Below W.heap.size W w' from fun W hW => by
    have h9 := HC.out.check true z D s l a x W hW HO.out (HX.out.next hW) (by rw [HXN.out]; omega) (iff_of_true rfl HG.out)
    unfold TV.v at h9
    rw [HXN.out] at h9
    exact h9)
  have HWK := Lib.hid (fun W (hW : Below w.heap.size w W) => wk_tab W (HC.out.next hW))
  have b8 := Below.refl w8.heap.size w8
  clear HUV HUI HUS HNG
  go_wp2_with (first
    | (go_at_call 9; (with_reducible refine HBY.out.mono ?_); rintro e wq ⟨⟨Y, yc, rfl⟩, hbq⟩; replace U1 := U1.keep hbq lU; replace lU := Nat.lt_of_lt_of_le lU hbq.size; clear u0; have u0 := U1.c0; replace b8 := bt b8 hbq; replace GG := GG.keep hbq (by omega); replace X1 := X1.keep hbq (by omega); replace l1 := Nat.lt_of_lt_of_le l1 hbq.size; clear g0 g1 g2 g3 g4 x0; obtain ⟨g0, g1, g2, g3, g4⟩ := id GG; have x0 := X1.c0; replace hb0 := bt hb0 hbq; clear hbq)
    | (go_at_call 13; (with_reducible refine (HCX.out _ hb0).mono ?_); rintro e wq ⟨rfl, hbq⟩; replace U1 := U1.keep hbq lU; replace lU := Nat.lt_of_lt_of_le lU hbq.size; clear u0; have u0 := U1.c0; replace b8 := bt b8 hbq; replace GG := GG.keep hbq (by omega); replace X1 := X1.keep hbq (by omega); replace l1 := Nat.lt_of_lt_of_le l1 hbq.size; clear g0 g1 g2 g3 g4 x0; obtain ⟨g0, g1, g2, g3, g4⟩ := id GG; have x0 := X1.c0; replace hb0 := bt hb0 hbq; clear hbq)
    | (go_at_call 13; (with_reducible refine (HCU.out _ b8).mono ?_); rintro e wq ⟨rfl, hbq⟩; replace GG := GG.keep hbq (by omega); replace X1 := X1.keep hbq (by omega); replace l1 := Nat.lt_of_lt_of_le l1 hbq.size; clear g0 g1 g2 g3 g4 x0; obtain ⟨g0, g1, g2, g3, g4⟩ := id GG; have x0 := X1.c0; replace hb0 := bt hb0 hbq; clear hbq)
    | (go_at_call 15; (with_reducible refine (HWK.out _ hb0).mono ?_); rintro e wz ⟨rfl, hbz⟩))
  go_ret
  exact ⟨rfl, bt hb0 hbz⟩
theorem tableBent_law (z d s l a : Int) (x : TV) (how : Int) (w : World) (hc : Ctt w) (hx : x.In w w.heap.size) :
    Calls Try.prog 5 #[.agg #[.int .i64 z, .int .i64 d, .int .i64 s, .int .i64 l, .int .i64 a], x.v, .int .i64 how] w fun e w' => e = .returned (.bool true) ∧ Below w.heap.size w w' := by
  by_cases hln : 20 < x.es.length
  · exact tb_long z d s l a x how w hln
  by_cases ho : Ok z d s l a
  case neg => exact tb_geo z d s l a x how w (by omega) ho
  by_cases hg : Good d x.es
  case neg => exact tb_bad z d s l a x how w hx (by omega) ho hg
  have o2 := ho.2.1
  obtain ⟨D, rfl⟩ : ∃ D : Nat, d = D := ⟨d.toNat, by omega⟩
  have h1 : 0 ≤ IntKind.u64.wrap how := wrap_nonneg how
  have hm : (IntKind.u64.wrap how).tmod 5 = (IntKind.u64.wrap how) % 5 := Int.tmod_eq_emod_of_nonneg h1
  rcases (show (IntKind.u64.wrap how) % 5 = 0 ∨ (IntKind.u64.wrap how) % 5 = 1 ∨ (IntKind.u64.wrap how) % 5 = 2 ∨ (IntKind.u64.wrap how) % 5 = 3 ∨ (IntKind.u64.wrap how) % 5 = 4 by omega) with k | k | k | k | k
  · exact tb_0 z D s l a x how w hc hx (by omega) ho hg (hm.trans k)
  · exact tb_1 z D s l a x how w hc hx (by omega) ho hg (hm.trans k)
  · exact tb_2 z D s l a x how w hc hx (by omega) ho hg (hm.trans k)
  · exact tb_3 z D s l a x how w hc hx (by omega) ho hg (hm.trans k)
  · exact tb_4 z D s l a x how w hc hx (by omega) ho hg (hm.trans k)
end Go.Proofs.Ytldknkikekaifaa.tbl
