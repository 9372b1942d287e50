/-
  The law DiskCrashes, walked. No condition.
-/
import Derived.Test.YtegcbmimndmfkaaDkAw
import Derived.Test.YtegcbmimndmfkaaDkCn
import Derived.Test.YtegcbmimndmfkaaDkAct
import Derived.Deep.RegionHeld3
namespace Go.Proofs.Ytegcbmimndmfkaa.dsk
open Go.RowKit Go.Lib

set_option maxRecDepth 100000 in
set_option maxHeartbeats 2000000 in
theorem crashes_go (n : Int) (A : Option Addr) (c q : Nat) (f : Nat → ActR) (w : World) (hA : Acts w A q f) (hq : q ≤ 100) :
    Calls Try.prog 4 #[.int .i64 n, .slice A q c] w fun e w' => e = .returned (.bool true) ∧ Below w.heap.size w w' := by
  have B := Below.refl w.heap.size w
  obtain ⟨N0, hN0, hNm⟩ := wmod n 8 (by decide)
  have hNm : (IntKind.u64.wrap n).tmod 8 = (N0 : Int) := hNm
  obtain ⟨N, hN⟩ : ∃ N : Nat, 1 + (N0 : Int) = (N : Int) := ⟨1 + N0, by omega⟩
  have n1 : 1 ≤ N := by omega
  have n8 : N ≤ 8 := by omega
  have j1 : ¬ (100 < (q : Int)) := by omega
  go_enter Try.func4, Try.ntmps4
  go_upto_region 4 with fail
  have cc1 := new_p N w _ _ (new_ok n1 n8)
  try dsimp only at cc1
  go_upto_region 7 with (first | (go_at_call 28; (with_reducible refine cc1.mono ?_); rintro e w1 ⟨⟨y1, rfl, hd1, ho1⟩, hb1⟩; have Z1 := hb1.size; have B := bt B hb1))
  clear cc1
  have Vd := var_new (base := w.heap.size) ho1 (by omega) (by omega) 25
  have al1 := bl w1 (.cells #[.slice y1.CA y1.cs.length y1.cc, .slice y1.WA y1.ws.length y1.wc, .int .i64 y1.reqs, .int .i64 y1.left] 25)
  have B := bt B al1
  have sz1 : w1.heap.size < (w1.alloc (.cells #[.slice y1.CA y1.cs.length y1.cc, .slice y1.WA y1.ws.length y1.wc, .int .i64 y1.reqs, .int .i64 y1.left] 25)).heap.size := by simp
  clear al1
  generalize w1.alloc (.cells #[.slice y1.CA y1.cs.length y1.cc, .slice y1.WA y1.ws.length y1.wc, .int .i64 y1.reqs, .int .i64 y1.left] 25) = W1 at *
  have hK := cr_new N
  rw [← hd1] at hK
  have hoc := ho1
  have mk := make_rows N (by omega)
  go_cut [7, 8] from 37 to 40 (fun s t wx => ∃ gs gn : Nat, s = .slice (some ⟨gs, 0, none⟩) N N ∧ t = .slice (some ⟨gn, 0, none⟩) N N ∧ Want wx gs (List.replicate N ⟨none, 0, []⟩) ∧ Want wx gn (List.replicate N ⟨none, 0, []⟩) ∧ gs ≠ gn ∧ W1.heap.size ≤ gs ∧ W1.heap.size ≤ gn ∧ Below W1.heap.size W1 wx)
  have P1 : Want ((W1.alloc (.cells (zrs N) 26)).alloc (.cells (zrs N) 26)).drew W1.heap.size (List.replicate N ⟨none, 0, []⟩) := ((want_new W1 N).below (bl _ _)).below (below_dr (Below.refl _ _))
  have P2 : Want ((W1.alloc (.cells (zrs N) 26)).alloc (.cells (zrs N) 26)).drew (W1.heap.size + 1) (List.replicate N ⟨none, 0, []⟩) := by
    have h := (want_new (W1.alloc (.cells (zrs N) 26)) N).below (below_dr (Below.refl _ _))
    rwa [World.size_alloc] at h
  case first =>
    go_region_held3 (fun W => Below W1.heap.size W1 W) (first | (with_reducible assumption) | (with_reducible exact below_dr (Below.refl _ _)) | (with_reducible exact kal (Below.refl _ _) _) | (with_reducible exact below_dr (kal (Below.refl _ _) _)) | (with_reducible exact kal (below_dr (Below.refl _ _)) _) | (with_reducible exact kal (kal (Below.refl _ _) _) _) | (with_reducible exact below_dr (kal (kal (Below.refl _ _) _) _)) | (with_reducible exact kal (below_dr (kal (Below.refl _ _) _)) _)) (first | fail)
    all_goals (go_wp2_with fail; go_meet)
    all_goals (first
      | exact ⟨W1.heap.size, W1.heap.size + 1, rfl, rfl, P1, P2, by omega, by omega, by omega, below_dr (kal (kal (Below.refl _ _) _) _)⟩
      | exact ⟨W1.heap.size + 1, W1.heap.size, rfl, rfl, P2, P1, by omega, by omega, by omega, below_dr (kal (kal (Below.refl _ _) _) _)⟩)
  case rest =>
    obtain ⟨W2, rfl⟩ : ∃ x, x = wc := ⟨wc, rfl⟩
    obtain ⟨gs, gn, rfl, rfl, Ps, Pn, g1, g2, g3, hb2⟩ := hcut
    obtain ⟨gd, hgd⟩ : ∃ g, g = w1.heap.size := ⟨_, rfl⟩
    have oc1 : (Value.slice y1.CA y1.cs.length y1.cc).ownBlock ≠ some gs := fun e => by have := (World.ownsRow.lt hoc.oc _ e).2; omega
    have oc2 : (Value.slice y1.WA y1.ws.length y1.wc).ownBlock ≠ some gs := fun e => by have := (World.ownsRow.lt hoc.ow _ e).2; omega
    have oc3 : (Value.slice y1.CA y1.cs.length y1.cc).ownBlock ≠ some gn := fun e => by have := (World.ownsRow.lt hoc.oc _ e).2; omega
    have oc4 : (Value.slice y1.WA y1.ws.length y1.wc).ownBlock ≠ some gn := fun e => by have := (World.ownsRow.lt hoc.ow _ e).2; omega
    have Vd := Vd.below hb2
    have B := bt B hb2
    rw [← hgd] at Vd
    have zgs : gd < gs := by omega
    have zgn : gd < gn := by omega
    have ze : w.heap.size ≤ gd := by omega
    have hL : lists (List.replicate N (⟨none, 0, []⟩ : Row)) = List.replicate N [] := by simp [lists]
    rw [← hL] at hK
    have S0 : CrM w.heap.size gd gs gn y1 _ _ W2 := ⟨Vd, Ps, Pn, fun r hr => by obtain rfl := List.eq_of_mem_replicate hr; exact zrow_in _ _, fun r hr => by obtain rfl := List.eq_of_mem_replicate hr; exact zrow_in _ _, g1, zgs, zgn, oc1, oc2, oc3, oc4⟩
    rw [← hgd]
    have SH := Lib.hid S0
    have SK := Lib.hid hK
    clear Ps Pn oc1 oc2 oc3 oc4 hK hL hoc ho1 hd1 g1 g2 g3 hb2 Vd S0 mk sz1 hb1 Z1 hgd
    go_wp2_with fail
    go_loopw [7, 8, 9] (fun s t i w' => ∃ (k : Nat) (y : DV) (gs gn cs cn : Nat) (S T : List Row), k ≤ q ∧ i = .int .i64 k ∧ s = .slice (some ⟨gs, 0, none⟩) N cs ∧ t = .slice (some ⟨gn, 0, none⟩) N cn ∧ N ≤ cs ∧ cs ≤ maxLen ∧ N ≤ cn ∧ cn ≤ maxLen ∧ CrM w.heap.size gd gs gn y S T w' ∧ Cr N k y.d (lists S) (lists T) ∧ Below w.heap.size w w') (fun _ _ i _ => q - (RowKit.intOf i).toNat)
    case atStart => exact ⟨0, y1, gs, gn, N, N, _, _, by omega, rfl, rfl, rfl, Nat.le_refl _, by show N ≤ maxLen; unfold maxLen; omega, Nat.le_refl _, by show N ≤ maxLen; unfold maxLen; omega, SH.out, SK.out, B⟩
    case round =>
      rename_i wr
      clear SH SK B zgs zgn hN0 hNm hN j1
      obtain ⟨k, y, gs, gn, cs, cn, S, T, hk, rfl, rfl, rfl, h1, h2, h3, h4, M, P, B⟩ := hrel
      by_cases hlt : k < q
      · have i1 : (k : Int) < (q : Int) := by omega
        obtain ⟨b1, o1, rfl, hb1, e0, e1, e2, e3, Ir⟩ := hA k hlt
        have e0 := (B.cell (p := ⟨b1, o1 + k * 4, none⟩) hb1).trans e0
        have e1 := (B.cell (p := ⟨b1, o1 + (k * 4 + 1), none⟩) hb1).trans e1
        have e2 := (B.cell (p := ⟨b1, o1 + (k * 4 + 2), none⟩) hb1).trans e2
        have e3 := (B.cell (p := ⟨b1, o1 + (k * 4 + 3), none⟩) hb1).trans e3
        have e0 : wr.cell? ⟨b1, o1 + k * 4, none⟩ = some (.int .i64 (f k).kind) := e0
        have e1 : wr.cell? ⟨b1, o1 + k * 4 + 1, none⟩ = some (.int .i64 (f k).addr) := e1
        have e2 : wr.cell? ⟨b1, o1 + k * 4 + 2, none⟩ = some (.slice (f k).b.A (f k).b.l.length (f k).b.c) := e2
        have e3 : wr.cell? ⟨b1, o1 + k * 4 + 3, none⟩ = some (.int .i64 (f k).keep) := e3
        generalize f k = act at *
        obtain ⟨kd, ad, r, kp⟩ := act
        dsimp only at e0 e1 e2 e3 Ir
        have Ir := Ir.next B
        obtain ⟨a, ha, haM⟩ := wmod ad N (by omega)
        obtain ⟨m, hm, hmM⟩ := wmod kd 4 (by decide)
        have hmM : (IntKind.u64.wrap kd).tmod 4 = (m : Int) := hmM
        have i3 : ((N : Int) == 0) = false := beq_eq_false_iff_ne.2 (by omega)
        have i4 : (N == 0) = false := beq_eq_false_iff_ne.2 (by omega)
        have i5 : (0 : Int) < (N : Int) := by omega
        have i6 : (a : Int) < (N : Int) := by omega
        have hkr := h1; have hkn := h3
        by_cases h100 : 100 < r.l.length
        · have h101 : 100 < (r.l.length : Int) := by omega
          go_wp2_with fail
          go_ret
          exact ⟨rfl, B⟩
        have h101 : ¬ (100 < (r.l.length : Int)) := by omega
        go_upto_region 26 with fail
        have gz : w.heap.size ≤ wr.heap.size := B.size
        have gr : gd < wr.heap.size := M.d.hi
        have gsr : gs < wr.heap.size := M.s.hi
        have gnr : gn < wr.heap.size := M.t.hi
        obtain ⟨ps, pt, pls, plt⟩ := Cr.short P
        obtain rfl | rfl | rfl | rfl : m = 0 ∨ m = 1 ∨ m = 2 ∨ m = 3 := by omega
        · obtain ⟨D', hW, P2⟩ := P.write n1 n8 (by omega) ha (show r.l.length ≤ 200 by omega)
          obtain ⟨l0, l1, l2, l3, -, -, -, -⟩ := id M.d.r
          have cc := write_p y a r wr _ _ _ M.d.o.in Ir rfl hW
          try dsimp only at cc
          go_upto_region 30 with (first | (go_at_call 13; (with_reducible refine cc.mono ?_); rintro e w1 ⟨⟨z, rfl, hz, ho⟩, hb⟩))
          clear cc l0 l1 l2 l3
          have hz1 := hb.size
          have M1 := (M.below hb).below (bl w1 (.cells #[.slice z.CA z.cs.length z.cc, .slice z.WA z.ws.length z.wc, .int .i64 z.reqs, .int .i64 z.left] 25))
          have Ir1 := (Ir.next hb).next (bl w1 (.cells #[.slice z.CA z.cs.length z.cc, .slice z.WA z.ws.length z.wc, .int .i64 z.reqs, .int .i64 z.left] 25))
          have B1 := bt (bt B hb) (bl w1 (.cells #[.slice z.CA z.cs.length z.cc, .slice z.WA z.ws.length z.wc, .int .i64 z.reqs, .int .i64 z.left] 25))
          have X := four_new w1 (.slice z.CA z.cs.length z.cc) (.slice z.WA z.ws.length z.wc) (.int .i64 z.reqs) (.int .i64 z.left) 25
          have Oz := ho.below (bl w1 (.cells #[.slice z.CA z.cs.length z.cc, .slice z.WA z.ws.length z.wc, .int .i64 z.reqs, .int .i64 z.left] 25))
          have sx : w1.heap.size < (w1.alloc (.cells #[.slice z.CA z.cs.length z.cc, .slice z.WA z.ws.length z.wc, .int .i64 z.reqs, .int .i64 z.left] 25)).heap.size := by simp
          clear ho hb
          generalize w1.alloc (.cells #[.slice z.CA z.cs.length z.cc, .slice z.WA z.ws.length z.wc, .int .i64 z.reqs, .int .i64 z.left] 25) = W1 at *
          obtain ⟨x0, x1, x2, x3, -, -, -, -⟩ := id X
          rw [← hz] at P2
          have HP := Lib.hid P2
          have HM := Lib.hid M1
          have HO := Lib.hid Oz
          have HR := Lib.hid Ir1
          have aT : a < T.length := by omega
          have gne : gd ≠ gn := by have := M1.t1; omega
          have gne2 : gn ≠ gd := by omega
          have ngd : w1.heap.size ≠ gd := by omega
          have ngn : w1.heap.size ≠ gn := by omega
          have acn : (a : Int) < (cn : Int) := by omega
          have cT : ∀ W, Below w.heap.size w W → RIn W W.heap.size r → Calls Try.prog 29 #[.slice r.A r.l.length r.c] W fun e w' => (∃ r' : Row, e = .returned (.slice r'.A r'.l.length r'.c) ∧ r'.l = r.l ∧ RIn w' w'.heap.size r') ∧ Below W.heap.size W w' := fun W _ hr => twin_r hr (by omega)
          clear P P2 M M1 Oz Ir Ir1 hW hz hA ps pt pls plt hmM hm hkr hkn e0 e1 e2 e3 haM
          go_region_held3 (fun W => W.cell? ⟨w1.heap.size, 0, none⟩ = some (.slice z.CA z.cs.length z.cc) ∧ W.cell? ⟨w1.heap.size, 1, none⟩ = some (.slice z.WA z.ws.length z.wc) ∧ W.cell? ⟨w1.heap.size, 2, none⟩ = some (.int .i64 z.reqs) ∧ W.cell? ⟨w1.heap.size, 3, none⟩ = some (.int .i64 z.left))
            ((go_split_ands; refine ⟨?_, ?_, ?_, ?_⟩ <;> (first | (with_reducible assumption) | (with_reducible exact kst (a := W1) (below_dr (Below.refl _ _)) sx (by with_reducible assumption)) | (with_reducible exact kst (a := W1) hbT sx (by with_reducible assumption)) | (with_reducible exact kst (a := W1) (below_dr hbT) sx (by with_reducible assumption)) | (with_reducible exact ((((XT.apart ngd _).apart ngd _).apart ngd _).apart ngd _).c0) | (with_reducible exact (((((XT.apart ngd _).apart ngd _).apart ngd _).apart ngd _).apart ngn _).c0) | (with_reducible exact ((((XT.apart ngd _).apart ngd _).apart ngd _).apart ngd _).c1) | (with_reducible exact (((((XT.apart ngd _).apart ngd _).apart ngd _).apart ngd _).apart ngn _).c1) | (with_reducible exact ((((XT.apart ngd _).apart ngd _).apart ngd _).apart ngd _).c2) | (with_reducible exact (((((XT.apart ngd _).apart ngd _).apart ngd _).apart ngd _).apart ngn _).c2) | (with_reducible exact ((((XT.apart ngd _).apart ngd _).apart ngd _).apart ngd _).c3) | (with_reducible exact (((((XT.apart ngd _).apart ngd _).apart ngd _).apart ngd _).apart ngn _).c3) | fail)))
            (first | (go_at_call 29; (with_reducible refine (cT _ (by first | (with_reducible exact B1) | (with_reducible exact bt B1 (below_dr (Below.refl _ _)))) (by first | (with_reducible exact HR.out) | (with_reducible exact HR.out.next (below_dr (Below.refl _ _))))).mono ?_); rintro e wT ⟨⟨rT, rfl, lT, IT⟩, hbT⟩; have lH := Lib.hid lT; clear lT; (first | (have hbT : Below W1.heap.size W1 wT := bt (below_dr (Below.refl _ _)) hbT) | skip); have XT := X.keep hbT sx; have MT := HM.out.below hbT; obtain ⟨d0, d1, d2, d3, f0, f1, f2, f3⟩ := id MT.d.r; have v0 := MT.t.c a _ (List.getElem?_eq_getElem aT); have v1 := MT.t.f a) | fail)
          have OT := HO.out.below hbT
          have MT := HM.out.below hbT
          obtain ⟨-, -, s', i', -⟩ := var_set MT.d OT gz gr
          have IT := i' _ IT
          rw [← s'] at IT
          obtain ⟨MP, b4⟩ := MT.put OT gz gr (own_not OT gsr) (own_not OT gnr)
          obtain ⟨MR, b5⟩ := MP.row aT IT ze
          have BB := ((bt B1 hbT).trans b4).trans b5
          clear b4 b5 MP OT MT IT i' s' hbT XT HM HO HR X x0 x1 x2 x3 d0 d1 d2 d3 f0 f1 f2 f3 v0 v1 B1 cT
          generalize ((((wT.setCell ⟨gd, 0, none⟩ (.slice z.CA z.cs.length z.cc)).setCell ⟨gd, 1, none⟩ (.slice z.WA z.ws.length z.wc)).setCell ⟨gd, 2, none⟩ (.int .i64 z.reqs)).setCell ⟨gd, 3, none⟩ (.int .i64 z.left)).setCell ⟨gn, a, none⟩ (.slice rT.A rT.l.length rT.c) = W5 at *
          go_wp2_with fail
          go_roundw
          case rel => exact ⟨k + 1, z, gs, gn, cs, cn, S, T.set a rT, by omega, by go_num, rfl, rfl, h1, h2, h3, h4, MR, by rw [lists_setc, lH.out]; exact HP.out, BB⟩
          case measure => simp [RowKit.intOf]; omega
        · obtain ⟨D', hW, P2⟩ := P.flush n1 n8 (by omega)
          obtain ⟨l0, l1, l2, l3, -, -, -, -⟩ := id M.d.r
          have cc := flush_p y wr _ _ _ M.d.o.in rfl hW
          try dsimp only at cc
          go_upto_region 35 with (first | (go_at_call 14; (with_reducible refine cc.mono ?_); rintro e w1 ⟨⟨z, rfl, hz, ho⟩, hb⟩))
          clear cc l0 l1 l2 l3
          have hz1 := hb.size
          have M1 := (M.below hb).below (bl w1 (.cells #[.slice z.CA z.cs.length z.cc, .slice z.WA z.ws.length z.wc, .int .i64 z.reqs, .int .i64 z.left] 25))
          have Ir1 := (Ir.next hb).next (bl w1 (.cells #[.slice z.CA z.cs.length z.cc, .slice z.WA z.ws.length z.wc, .int .i64 z.reqs, .int .i64 z.left] 25))
          have B1 := bt (bt B hb) (bl w1 (.cells #[.slice z.CA z.cs.length z.cc, .slice z.WA z.ws.length z.wc, .int .i64 z.reqs, .int .i64 z.left] 25))
          have X := four_new w1 (.slice z.CA z.cs.length z.cc) (.slice z.WA z.ws.length z.wc) (.int .i64 z.reqs) (.int .i64 z.left) 25
          have Oz := ho.below (bl w1 (.cells #[.slice z.CA z.cs.length z.cc, .slice z.WA z.ws.length z.wc, .int .i64 z.reqs, .int .i64 z.left] 25))
          have sx : w1.heap.size < (w1.alloc (.cells #[.slice z.CA z.cs.length z.cc, .slice z.WA z.ws.length z.wc, .int .i64 z.reqs, .int .i64 z.left] 25)).heap.size := by simp
          clear ho hb
          generalize w1.alloc (.cells #[.slice z.CA z.cs.length z.cc, .slice z.WA z.ws.length z.wc, .int .i64 z.reqs, .int .i64 z.left] 25) = W1 at *
          obtain ⟨x0, x1, x2, x3, -, -, -, -⟩ := id X
          rw [← hz] at P2
          have HP := Lib.hid P2
          have HM := Lib.hid M1
          have HO := Lib.hid Oz
          have ngd : w1.heap.size ≠ gd := by omega
          have cT : ∀ W, Below W1.heap.size W1 W → _ := fun W hb => twins_p (c := cn) (M1.below hb).t (M1.below hb).rt plt (by omega) n8 pt
          clear P P2 M M1 Oz Ir Ir1 hW hz hA ps pt pls plt hmM hm hkr hkn e0 e1 e2 e3 haM
          go_region_held3 (fun W => W.cell? ⟨w1.heap.size, 0, none⟩ = some (.slice z.CA z.cs.length z.cc) ∧ W.cell? ⟨w1.heap.size, 1, none⟩ = some (.slice z.WA z.ws.length z.wc) ∧ W.cell? ⟨w1.heap.size, 2, none⟩ = some (.int .i64 z.reqs) ∧ W.cell? ⟨w1.heap.size, 3, none⟩ = some (.int .i64 z.left))
            ((go_split_ands; refine ⟨?_, ?_, ?_, ?_⟩ <;> (first | (with_reducible assumption) | (with_reducible exact kst (a := W1) (below_dr (Below.refl _ _)) sx (by with_reducible assumption)) | (with_reducible exact kst (a := W1) hbT sx (by with_reducible assumption)) | (with_reducible exact kst (a := W1) (below_dr hbT) sx (by with_reducible assumption)) | (with_reducible exact ((((XT.apart ngd _).apart ngd _).apart ngd _).apart ngd _).c0) | (with_reducible exact ((((XT.apart ngd _).apart ngd _).apart ngd _).apart ngd _).c1) | (with_reducible exact ((((XT.apart ngd _).apart ngd _).apart ngd _).apart ngd _).c2) | (with_reducible exact ((((XT.apart ngd _).apart ngd _).apart ngd _).apart ngd _).c3) | fail)))
            (first | (go_at_call 30; (with_reducible refine (cT _ (by first | (with_reducible exact Below.refl _ _) | (with_reducible exact below_dr (Below.refl _ _)))).mono ?_); rintro e wT ⟨⟨g', c', T', rfl, q1, q2, q3, q4, q5, q6⟩, hbT⟩; have q5h := Lib.hid q5; clear q5; (first | (have hbT : Below W1.heap.size W1 wT := bt (below_dr (Below.refl _ _)) hbT) | skip); have XT := X.keep hbT sx; have MT := HM.out.below hbT; obtain ⟨d0, d1, d2, d3, f0, f1, f2, f3⟩ := id MT.d.r) | fail)
          have q3 : W1.heap.size ≤ g' := q3
          have OT := HO.out.below hbT
          have MT := HM.out.sure hbT q4 q3 q6
          obtain ⟨MR, b4⟩ := MT.put OT gz gr (own_notnew HO.out q3) (own_not OT gnr)
          have BB := (bt B1 hbT).trans b4
          clear b4 OT MT hbT XT HM HO X x0 x1 x2 x3 d0 d1 d2 d3 f0 f1 f2 f3 B1 cT q4 q6
          generalize (((wT.setCell ⟨gd, 0, none⟩ (.slice z.CA z.cs.length z.cc)).setCell ⟨gd, 1, none⟩ (.slice z.WA z.ws.length z.wc)).setCell ⟨gd, 2, none⟩ (.int .i64 z.reqs)).setCell ⟨gd, 3, none⟩ (.int .i64 z.left) = W5 at *
          go_wp2_with fail
          go_roundw
          case rel => exact ⟨k + 1, z, g', gn, c', cn, T', T, by omega, by go_num, rfl, rfl, q1, q2, h3, h4, MR, by rw [q5h.out]; exact HP.out, BB⟩
          case measure => simp [RowKit.intOf]; omega
        · obtain ⟨bs, hbs, hbl, hW, P2⟩ := P.read n1 n8 (by omega) ha
          obtain ⟨rn, hrn⟩ : ∃ rn, T[a]? = some rn := ⟨_, List.getElem?_eq_getElem (show a < T.length by omega)⟩
          have eb : rn.l = bs := by have h := hbs; simp only [lists, List.getElem?_map, hrn, Option.map_some, Option.some.injEq] at h; exact h
          obtain ⟨l0, l1, l2, l3, -, -, -, -⟩ := id M.d.r
          have cc := read_p y a wr _ _ _ _ M.d.o.in rfl hW
          try dsimp only at cc
          go_upto_region 38 with (first | (go_at_call 12; (with_reducible refine cc.mono ?_); rintro e w1 ⟨⟨z, ⟨ra, rc, rl⟩, rfl, hz, hr, ho, hi⟩, hb⟩; dsimp only at hr; subst hr; dsimp only))
          clear cc l0 l1 l2 l3
          have hz1 := hb.size
          have M1 := (M.below hb).below (bl w1 (.cells #[.slice z.CA z.cs.length z.cc, .slice z.WA z.ws.length z.wc, .int .i64 z.reqs, .int .i64 z.left] 25))
          have Ir1 := (Ir.next hb).next (bl w1 (.cells #[.slice z.CA z.cs.length z.cc, .slice z.WA z.ws.length z.wc, .int .i64 z.reqs, .int .i64 z.left] 25))
          have B1 := bt (bt B hb) (bl w1 (.cells #[.slice z.CA z.cs.length z.cc, .slice z.WA z.ws.length z.wc, .int .i64 z.reqs, .int .i64 z.left] 25))
          have X := four_new w1 (.slice z.CA z.cs.length z.cc) (.slice z.WA z.ws.length z.wc) (.int .i64 z.reqs) (.int .i64 z.left) 25
          have Oz := ho.below (bl w1 (.cells #[.slice z.CA z.cs.length z.cc, .slice z.WA z.ws.length z.wc, .int .i64 z.reqs, .int .i64 z.left] 25))
          have sx : w1.heap.size < (w1.alloc (.cells #[.slice z.CA z.cs.length z.cc, .slice z.WA z.ws.length z.wc, .int .i64 z.reqs, .int .i64 z.left] 25)).heap.size := by simp
          have hi := hi.next (bl w1 (.cells #[.slice z.CA z.cs.length z.cc, .slice z.WA z.ws.length z.wc, .int .i64 z.reqs, .int .i64 z.left] 25))
          clear ho hb
          generalize w1.alloc (.cells #[.slice z.CA z.cs.length z.cc, .slice z.WA z.ws.length z.wc, .int .i64 z.reqs, .int .i64 z.left] 25) = W1 at *
          obtain ⟨x0, x1, x2, x3, -, -, -, -⟩ := id X
          rw [← hz] at P2
          have HP := Lib.hid P2
          have HM := Lib.hid M1
          have HO := Lib.hid Oz
          have v0 := M1.t.c a rn hrn
          have acn : (a : Int) < (cn : Int) := by omega
          have Irn := M1.rt rn (List.mem_of_getElem? hrn)
          have cB := keep_rin ⟨ra, rc, rl⟩ rn W1 hi Irn (Nat.le_trans hbl (by decide))
          rw [show (decide (rl = rn.l)) = true from decide_eq_true eb.symm] at cB
          try dsimp only at cB
          clear P P2 M M1 Oz Ir Ir1 hW hz hA ps pt pls plt hmM hm hkr hkn e0 e1 e2 e3 haM hi hbs hrn eb Irn
          go_upto_region 40 with (first | (go_at_call 23; (with_reducible refine cB.mono ?_); rintro e wT ⟨rfl, hbT⟩))
          have OT := HO.out.below hbT
          have XT := X.keep hbT sx
          have MT := HM.out.below hbT
          clear x0 x1 x2 x3
          obtain ⟨x0, x1, x2, x3, -, -, -, -⟩ := id XT
          obtain ⟨d0, d1, d2, d3, f0, f1, f2, f3⟩ := id MT.d.r
          obtain ⟨MR, b4⟩ := MT.put OT gz gr (own_not OT gsr) (own_not OT gnr)
          have BB := (bt B1 hbT).trans b4
          have HR := Lib.hid MR
          have HB := Lib.hid BB
          clear MR BB B1 b4 OT MT XT X hbT HM HO
          go_wp2_with fail
          go_roundw
          case rel => exact ⟨k + 1, z, gs, gn, cs, cn, S, T, by omega, by go_num, rfl, rfl, h1, h2, h3, h4, HR.out, HP.out, HB.out⟩
          case measure => simp [RowKit.intOf]; omega
        · by_cases hkp : kp.tmod 2 = 0
          · obtain ⟨D', hW, hca, P2⟩ := P.crash0 n1 n8 (by omega)
            have kq : kp.tmod 2 = 0 := hkp
            obtain ⟨l0, l1, l2, l3, -, -, -, -⟩ := id M.d.r
            have cc := crash_p y 0 wr _ _ _ M.d.o.in (by decide) rfl hW
            try dsimp only at cc
            go_upto_region 20 with (first | (go_at_call 15; (with_reducible refine cc.mono ?_); rintro e w1 ⟨⟨z, rfl, hz, ho⟩, hb⟩))
            clear cc l0 l1 l2 l3
            have hz1 := hb.size
            have M1 := (M.below hb).below (bl w1 (.cells #[.slice z.CA z.cs.length z.cc, .slice z.WA z.ws.length z.wc, .int .i64 z.reqs, .int .i64 z.left] 25))
            have Ir1 := (Ir.next hb).next (bl w1 (.cells #[.slice z.CA z.cs.length z.cc, .slice z.WA z.ws.length z.wc, .int .i64 z.reqs, .int .i64 z.left] 25))
            have B1 := bt (bt B hb) (bl w1 (.cells #[.slice z.CA z.cs.length z.cc, .slice z.WA z.ws.length z.wc, .int .i64 z.reqs, .int .i64 z.left] 25))
            have X := four_new w1 (.slice z.CA z.cs.length z.cc) (.slice z.WA z.ws.length z.wc) (.int .i64 z.reqs) (.int .i64 z.left) 25
            have Oz := ho.below (bl w1 (.cells #[.slice z.CA z.cs.length z.cc, .slice z.WA z.ws.length z.wc, .int .i64 z.reqs, .int .i64 z.left] 25))
            have sx : w1.heap.size < (w1.alloc (.cells #[.slice z.CA z.cs.length z.cc, .slice z.WA z.ws.length z.wc, .int .i64 z.reqs, .int .i64 z.left] 25)).heap.size := by simp
            clear ho hb
            generalize w1.alloc (.cells #[.slice z.CA z.cs.length z.cc, .slice z.WA z.ws.length z.wc, .int .i64 z.reqs, .int .i64 z.left] 25) = W1 at *
            obtain ⟨x0, x1, x2, x3, -, -, -, -⟩ := id X
            have zl : z.ws.length = 0 := by have h := congrArg (fun d => d.cache.length) hz; simpa [DV.d, wds, hca] using h
            rw [← hz] at P2
            have zh := Lib.hid zl
            have HP := Lib.hid P2
            have HM := Lib.hid M1
            have HO := Lib.hid Oz
            have cT := twins_p (c := cs) M1.s M1.rs pls (by omega) n8 ps
            clear P P2 M M1 Oz Ir Ir1 hW hz hA ps pt pls plt hmM hm hkr hkn e0 e1 e2 e3 haM hca hkp kq
            go_upto_region 25 with (first | (go_at_call 30; (with_reducible refine cT.mono ?_); rintro e wT ⟨⟨g', c', T', rfl, q1, q2, q3, q4, q5, q6⟩, hbT⟩; have q5h := Lib.hid q5; clear q5))
            have OT := HO.out.below hbT
            have XT := X.keep hbT sx
            have MT := HM.out.now hbT q4 q3 q6
            clear x0 x1 x2 x3
            obtain ⟨x0, x1, x2, x3, -, -, -, -⟩ := id XT
            obtain ⟨d0, d1, d2, d3, f0, f1, f2, f3⟩ := id MT.d.r
            obtain ⟨MR, b4⟩ := MT.put OT gz gr (own_not OT gsr) (own_notnew HO.out q3)
            have BB := (bt B1 hbT).trans b4
            have HR := Lib.hid MR
            have HB := Lib.hid BB
            clear MR BB B1 b4 OT MT XT X hbT HM HO
            go_wp2_with fail
            go_roundw
            case rel => exact ⟨k + 1, z, gs, g', cs, c', S, T', by omega, by go_num, rfl, rfl, h1, h2, q1, q2, by have h := HR.out; rw [zh.out] at h; exact h, by rw [q5h.out]; exact HP.out, by have h := HB.out; rw [zh.out] at h; exact h⟩
            case measure => simp [RowKit.intOf]; omega
          · obtain ⟨D', hW, hca, P2⟩ := P.crash1 n1 n8 (by omega)
            have kq : ¬ kp.tmod 2 = 0 := hkp
            obtain ⟨l0, l1, l2, l3, -, -, -, -⟩ := id M.d.r
            have cc := crash_p y 2147483647 wr _ _ _ M.d.o.in (by decide) rfl hW
            try dsimp only at cc
            go_upto_region 20 with (first | (go_at_call 15; (with_reducible refine cc.mono ?_); rintro e w1 ⟨⟨z, rfl, hz, ho⟩, hb⟩))
            clear cc l0 l1 l2 l3
            have hz1 := hb.size
            have M1 := (M.below hb).below (bl w1 (.cells #[.slice z.CA z.cs.length z.cc, .slice z.WA z.ws.length z.wc, .int .i64 z.reqs, .int .i64 z.left] 25))
            have Ir1 := (Ir.next hb).next (bl w1 (.cells #[.slice z.CA z.cs.length z.cc, .slice z.WA z.ws.length z.wc, .int .i64 z.reqs, .int .i64 z.left] 25))
            have B1 := bt (bt B hb) (bl w1 (.cells #[.slice z.CA z.cs.length z.cc, .slice z.WA z.ws.length z.wc, .int .i64 z.reqs, .int .i64 z.left] 25))
            have X := four_new w1 (.slice z.CA z.cs.length z.cc) (.slice z.WA z.ws.length z.wc) (.int .i64 z.reqs) (.int .i64 z.left) 25
            have Oz := ho.below (bl w1 (.cells #[.slice z.CA z.cs.length z.cc, .slice z.WA z.ws.length z.wc, .int .i64 z.reqs, .int .i64 z.left] 25))
            have sx : w1.heap.size < (w1.alloc (.cells #[.slice z.CA z.cs.length z.cc, .slice z.WA z.ws.length z.wc, .int .i64 z.reqs, .int .i64 z.left] 25)).heap.size := by simp
            clear ho hb
            generalize w1.alloc (.cells #[.slice z.CA z.cs.length z.cc, .slice z.WA z.ws.length z.wc, .int .i64 z.reqs, .int .i64 z.left] 25) = W1 at *
            obtain ⟨x0, x1, x2, x3, -, -, -, -⟩ := id X
            have zl : z.ws.length = 0 := by have h := congrArg (fun d => d.cache.length) hz; simpa [DV.d, wds, hca] using h
            rw [← hz] at P2
            have zh := Lib.hid zl
            have HP := Lib.hid P2
            have HM := Lib.hid M1
            have HO := Lib.hid Oz
            have cT := twins_p (c := cn) M1.t M1.rt plt (by omega) n8 pt
            clear P P2 M M1 Oz Ir Ir1 hW hz hA ps pt pls plt hmM hm hkr hkn e0 e1 e2 e3 haM hca hkp kq
            go_upto_region 25 with (first | (go_at_call 30; (with_reducible refine cT.mono ?_); rintro e wT ⟨⟨g', c', T', rfl, q1, q2, q3, q4, q5, q6⟩, hbT⟩; have q5h := Lib.hid q5; clear q5))
            have OT := HO.out.below hbT
            have XT := X.keep hbT sx
            have MT := HM.out.sure hbT q4 q3 q6
            clear x0 x1 x2 x3
            obtain ⟨x0, x1, x2, x3, -, -, -, -⟩ := id XT
            obtain ⟨d0, d1, d2, d3, f0, f1, f2, f3⟩ := id MT.d.r
            obtain ⟨MR, b4⟩ := MT.put OT gz gr (own_notnew HO.out q3) (own_not OT gnr)
            have BB := (bt B1 hbT).trans b4
            have HR := Lib.hid MR
            have HB := Lib.hid BB
            clear MR BB B1 b4 OT MT XT X hbT HM HO
            go_wp2_with fail
            go_roundw
            case rel => exact ⟨k + 1, z, g', gn, c', cn, T', T, by omega, by go_num, rfl, rfl, q1, q2, h3, h4, by have h := HR.out; rw [zh.out] at h; exact h, by rw [q5h.out]; exact HP.out, by have h := HB.out; rw [zh.out] at h; exact h⟩
            case measure => simp [RowKit.intOf]; omega
      · have i1 : ¬ ((k : Int) < (q : Int)) := by omega
        go_wp2_with (first | (go_at_call 20; (with_reducible refine (dwakes _).mono ?_); rintro e w9 ⟨rfl, hb9⟩; have B3 := bt B hb9))
        go_ret
        exact ⟨rfl, B3⟩
end Go.Proofs.Ytegcbmimndmfkaa.dsk
