/-
  The law StripeStays, where it is written, walked. Conditions: 'Cst'.
-/
import Derived.Test.YthdahdopejapmaaStQ
import Derived.Test.YthdahdopejapmaaDkQ
import Derived.Deep.RegionHeld3
import Derived.Test.YthdahdopejapmaaStLC
import Derived.Deep.QuietTactic
import Derived.BigQuiet
import Derived.Deep.CutRange
namespace Go.Proofs.Ythdahdopejapmaa.stp
open Go.RowKit Go.Lib
open Go.Proofs.Ythdahdopejapmaa.gmt (Ok)
open Go.Proofs.Ythdahdopejapmaa.anc (bl kal kst ks bm ka)
open Go.Proofs.Ythdahdopejapmaa.tbl (Ent EntOk C1 c1_new G5 g5_new OwnE)
open Go.Proofs.Ythdahdopejapmaa.par (zx zeros zeros_length zx_length)
open Go.Proofs.Ythdahdopejapmaa.zon
open Go.Proofs.Ythdahdopejapmaa.img
set_option maxRecDepth 100000 in
set_option maxHeartbeats 16000000 in
theorem st_main (z s l a st : Int) (D : Nat) (x : tbl.TV) (N : Nat) (hA : Option Addr) (hq : Nat) (hr : List Row) (n : Nat) (aA : Option Addr) (ac : Nat) (ats : List Int) (m : Nat) (bA : Option Addr) (bc : Nat) (br : List Row) (k : Nat) (w : World) (hc : Cst w) (hN : x.es.length = N) (hx : x.In w w.heap.size) (hn : hr.length = n) (hh : LV.In w w.heap.size ⟨hA, hq, hr⟩) (hm : ats.length = m) (ha : NV.In w w.heap.size ⟨aA, ac, ats⟩) (hk : br.length = k) (hb : LV.In w w.heap.size ⟨bA, bc, br⟩) (h1 : ¬ (20 < N ∨ 20 < n ∨ ∃ y ∈ lists hr, 100 < y.length)) (h2 : ¬ (20 < N ∨ 20 < k ∨ ∃ y ∈ lists br, 100 < y.length)) (h3 : ¬ 20 < m) (ho : Ok z D s l a) (hg : tbl.Good (D : Int) x.es) (hd : HadOk (D + 1) (lists hr)) (hat : AtsOk D ats) (hst : StOk st) (hbo : BlkOk m (lists br)) :
    Calls Try.prog 5 #[.agg #[.int .i64 z, .int .i64 D, .int .i64 s, .int .i64 l, .int .i64 a], .agg #[.slice x.A N x.c], .slice hA n hq, .slice aA m ac, .slice bA k bc, .int .i64 st] w fun e w' => e = .returned (.bool true) ∧ Below w.heap.size w w' := by
  obtain rfl : k = m := by have := hbo.1; rw [lists_length, hk] at this; exact this
  obtain rfl : N = D + 1 := by have := hg.1; rw [hN] at this; omega
  have hm0 : 0 < k := by
    rcases Nat.eq_zero_or_pos k with h | h
    · exact absurd (List.eq_nil_of_length_eq_zero (hm.trans h)) hat.1
    · exact h
  have s1 : (w.alloc (.cells #[.int .i64 z, .int .i64 D, .int .i64 s, .int .i64 l, .int .i64 a] 23)).heap.size = w.heap.size + 1 := by simp
  have hx2 := anc.bl (w.alloc (.cells #[.int .i64 z, .int .i64 D, .int .i64 s, .int .i64 l, .int .i64 a] 23)) (.cells #[.slice x.A (D + 1 : Nat) x.c] 26)
  have GG := (g5_new w z D s l a).keep hx2 (by omega)
  have TT := c1_new (w.alloc (.cells #[.int .i64 z, .int .i64 D, .int .i64 s, .int .i64 l, .int .i64 a] 23)) (.slice x.A (D + 1 : Nat) x.c) 26
  rw [s1] at TT
  have hw := kal (anc.bl w (.cells #[.int .i64 z, .int .i64 D, .int .i64 s, .int .i64 l, .int .i64 a] 23)) (.cells #[.slice x.A (D + 1 : Nat) x.c] 26)
  have lT : w.heap.size + 1 < ((w.alloc (.cells #[.int .i64 z, .int .i64 D, .int .i64 s, .int .i64 l, .int .i64 a] 23)).alloc (.cells #[.slice x.A (D + 1 : Nat) x.c] 26)).heap.size := by simp
  have HC := Lib.hid hc
  have HAI := Lib.hid (ha.next hw)
  have HAM := Lib.hid hm
  have HBI := Lib.hid (hb.next hw)
  have HBK := Lib.hid hk
  have HHI := Lib.hid (hh.next hw)
  have HHn := Lib.hid hn
  have HXI := Lib.hid (hx.next hw)
  have HNE := Lib.hid hN
  clear hc hm ha hk hb hn hh hN hx s1 hx2
  go_enter Try.func5, Try.ntmps5
  go_upto_region 1 with fail
  generalize ((w.alloc (.cells #[.int .i64 z, .int .i64 D, .int .i64 s, .int .i64 l, .int .i64 a] 23)).alloc (.cells #[.slice x.A (D + 1 : Nat) x.c] 26)) = w2 at *
  obtain ⟨g0, g1', g2, g3, g4⟩ := id GG
  have t0 := TT.c0
  have HH1 := Lib.hid (heavy_c false x.A hA (D + 1) x.c n hq hr w2 HHn.out HHI.out.h HHI.out.r (iff_of_false Bool.false_ne_true h1))
  have HH2 := Lib.hid (show ∀ W, Below w2.heap.size w2 W → Calls Try.prog 8 #[.agg #[.slice x.A (D + 1 : Nat) x.c], .slice bA k bc] W fun e w' => e = .returned (.bool false) ∧ Below W.heap.size W w' from fun W hW => heavy_c false x.A bA (D + 1) x.c k bc br W HBK.out (HBI.out.next hW).h (HBI.out.next hW).r (iff_of_false Bool.false_ne_true h2))
  have h4 : ¬ (20 : Int) < (k : Int) := by omega
  have HG := Lib.hid hg
  have HAT := Lib.hid hat
  have HBO := Lib.hid hbo.2
  have HWR := Lib.hid (show ∀ W, Below w2.heap.size w2 W → Calls Try.prog 11 #[.agg #[.int .i64 z, .int .i64 D, .int .i64 s, .int .i64 l, .int .i64 a], .agg #[.slice x.A (D + 1 : Nat) x.c], .slice hA n hq, .slice aA k ac, .slice bA k bc, .int .i64 st] W fun e w' => WrZ W.heap.size D (newT D x.es (lists hr) ats (lists br) st) (newP D x.es (lists hr) ats (lists br) st D) e w' ∧ Below W.heap.size W w' from fun W hW => HC.out.write z s l a st D x (D + 1) ⟨hA, hq, hr⟩ n ⟨aA, ac, ats⟩ k ⟨bA, bc, br⟩ W (bt hw hW) ho (HXI.out.next hW) HNE.out HG.out (HHI.out.next hW) HHn.out hd (HAI.out.next hW) HAM.out (by omega) HAT.out hst (HBI.out.next hW) HBK.out HBO.out)
  have HP8 := Lib.hid (newP_length (D := D) (es := x.es) (st := st) hat.2.2 hd (hbo.1.trans HAM.out.symm) hbo.2 D)
  have hD4 : D ≤ 4 ∧ 1 ≤ D := by have := ho.2.1; omega
  clear h1 h2 h3 ho hg hd hat hst hbo
  have HMG := Lib.hid (show ∀ W, Below w2.heap.size w2 W → (W.cell? ⟨w.heap.size, 0, none⟩ = some (.int .i64 z) ∧ W.cell? ⟨w.heap.size, 1, none⟩ = some (.int .i64 D) ∧ W.cell? ⟨w.heap.size, 2, none⟩ = some (.int .i64 s) ∧ W.cell? ⟨w.heap.size, 3, none⟩ = some (.int .i64 l) ∧ W.cell? ⟨w.heap.size, 4, none⟩ = some (.int .i64 a)) ∧ W.cell? ⟨w.heap.size + 1, 0, none⟩ = some (.slice x.A (D + 1 : Nat) x.c) from fun W h => ⟨⟨kst h (by omega) g0, kst h (by omega) g1', kst h (by omega) g2, kst h (by omega) g3, kst h (by omega) g4⟩, kst h lT t0⟩)
  go_upto_region 4 with (first
    | (go_at_call 8; (with_reducible refine HH1.out.mono ?_); rintro e w3 ⟨rfl, hb3⟩; clear g0 g1' g2 g3 g4 t0; obtain ⟨⟨g0, g1', g2, g3, g4⟩, t0⟩ := HMG.out _ hb3)
    | (go_at_call 8; (with_reducible refine (HH2.out _ hb3).mono ?_); rintro e w3' ⟨rfl, hb3'⟩; replace hb3 := bt hb3 hb3'; clear g0 g1' g2 g3 g4 t0; obtain ⟨⟨g0, g1', g2, g3, g4⟩, t0⟩ := HMG.out _ hb3)
    | (go_at_call 11; (with_reducible refine (HWR.out _ hb3).mono ?_); rintro e w4 ⟨⟨t, X, c, rfl, hte, hto, hpo⟩, hb4⟩; have hb34 := bt hb3 hb4))
  replace GG := GG.keep hb34 (by omega)
  replace TT := TT.keep hb34 lT
  replace lT := Nat.lt_of_lt_of_le lT hb34.size
  replace hw := bt hw hb34
  replace HAI := Lib.hid (HAI.out.next hb34)
  replace HBI := Lib.hid (HBI.out.next hb34)
  replace HHI := Lib.hid (HHI.out.next hb34)
  replace HXI := Lib.hid (HXI.out.next hb34)
  have hxU := anc.bl w4 (.cells #[.slice t.A (D + 1 : Nat) t.c] 26)
  have UU := c1_new w4 (.slice t.A (D + 1 : Nat) t.c) 26
  have lU : w4.heap.size < (w4.alloc (.cells #[.slice t.A (D + 1 : Nat) t.c] 26)).heap.size := by simp
  have HTE := Lib.hid hte
  have HTI := Lib.hid ((tbl.TV.Own.inn hto).next hxU)
  have HPO := Lib.hid (hpo.below hxU)
  replace GG := GG.keep hxU (by omega)
  replace TT := TT.keep hxU lT
  replace lT := Nat.lt_of_lt_of_le lT hxU.size
  replace hw := bt hw hxU
  replace HAI := Lib.hid (HAI.out.next hxU)
  replace HBI := Lib.hid (HBI.out.next hxU)
  replace HHI := Lib.hid (HHI.out.next hxU)
  replace HXI := Lib.hid (HXI.out.next hxU)
  clear hxU hte hto hpo hb34 hb3 hb3' hb4 HWR HH1 HH2 g0 g1' g2 g3 g4 t0 HMG
  generalize hgU : w4.heap.size = gU at *
  clear hgU
  generalize w4.alloc (.cells #[.slice t.A (D + 1 : Nat) t.c] 26) = w5 at *
  have htl : t.es.length = D + 1 := by rw [HTE.out, newT_length]
  obtain ⟨bu, ou, -, hUA, hbu, -⟩ := tbl.ent_at HTI.out.h (show 0 < t.es.length by omega)
  obtain ⟨bx, ox, -, hXA, hbx, -⟩ := tbl.ent_at HXI.out.h (show 0 < x.es.length by rw [HNE.out]; omega)
  rw [hUA] at UU
  rw [hXA] at TT
  have HUA := Lib.hid hUA
  have HXA := Lib.hid hXA
  clear hUA hXA
  obtain ⟨g0, g1', g2, g3, g4⟩ := id GG
  have t0 := TT.c0
  have u0 := UU.c0
  have q1 : ((D : Int) + 1 != (D : Int) + 1) = false := bne_self_eq_false _
  have q2 : ((k : Int) != (k : Int)) = false := bne_self_eq_false _
  have lG : w.heap.size < w5.heap.size := by omega
  have HM5 := Lib.hid (show ∀ W, Below w5.heap.size w5 W → W.cell? ⟨w.heap.size, 1, none⟩ = some (.int .i64 D) ∧ W.cell? ⟨w.heap.size + 1, 0, none⟩ = some (.slice (some ⟨bx, ox, none⟩) (D + 1 : Nat) x.c) ∧ W.cell? ⟨gU, 0, none⟩ = some (.slice (some ⟨bu, ou, none⟩) (D + 1 : Nat) t.c) from fun W h => ⟨kst h lG g1', kst h lT t0, kst h lU u0⟩)
  have HWK := Lib.hid (show ∀ W, Below w5.heap.size w5 W → Calls Try.prog 17 #[] W fun e w' => e = .returned (.bool true) ∧ Below W.heap.size W w' from fun W hW => wk_stp W (HC.out.next (bt hw hW)))
  go_upto_region 9 with fail
  clear g0 g1' g2 g3 g4 t0 u0 q1 q2
  go_loopw [16] (fun i w' => ∃ j : Nat, j ≤ D + 1 ∧ i = .int .i64 j ∧ Below w5.heap.size w5 w') (fun i _ => D + 1 - (RowKit.intOf i).toNat)
  case atStart => exact ⟨0, by omega, rfl, Below.refl _ _⟩
  case round =>
    obtain ⟨w6, rfl⟩ : ∃ y, y = wr := ⟨wr, rfl⟩
    obtain ⟨j, hj, rfl, hbr⟩ := hrel
    obtain ⟨g1', t0, u0⟩ := HM5.out _ hbr
    by_cases hlt : j < D + 1
    · have j1 : (j : Int) < (D : Int) + 1 := by omega
      obtain ⟨b0, hb0⟩ : ∃ b0 : Bool, b0 = decide (j = D) := ⟨_, rfl⟩
      have q1 : ((j : Int) == (D : Int)) = b0 := by
        rw [hb0]
        by_cases h : j = D
        · rw [decide_eq_true h]; exact beq_iff_eq.2 (by omega)
        · rw [decide_eq_false h]; exact beq_eq_false_iff_ne.2 (by omega)
      have HB0 := Lib.hid hb0
      clear hb0
      go_upto_region 14 with fail
      clear g1' t0 u0 q1
      go_loopw [17, 18, 19] (fun y u i w' => ∃ (i2 : Nat) (B : Option Addr) (cb : Nat), i2 ≤ k ∧ i = .int .i64 i2 ∧ y = .bool (look ats (lists br) j b0 (newP D x.es (lists hr) ats (lists br) st D) i2).1 ∧ u = .slice B 8 cb ∧ Sl w' w'.heap.size B (look ats (lists br) j b0 (newP D x.es (lists hr) ats (lists br) st D) i2).2 ∧ Below w5.heap.size w5 w') (fun _ _ i _ => k - (RowKit.intOf i).toNat)
      case atStart => exact ⟨0, X, c, by omega, rfl, rfl, rfl, (own_at (HPO.out)).2.2.2.next hbr, hbr⟩
      case round =>
        obtain ⟨w7, rfl⟩ : ∃ y, y = wr := ⟨wr, rfl⟩
        obtain ⟨i2, B, cb, hi2, rfl, rfl, rfl, hsl, hb7⟩ := hrel
        have HSL := Lib.hid hsl
        clear hsl hbr
        by_cases hlt2 : i2 < k
        · have j2 : (i2 : Int) < (k : Int) := by omega
          obtain ⟨bn, on, hN', hbn, hcs⟩ := (HAI.out.next hb7).h (by rw [ints_length]; show 0 < ats.length; rw [HAM.out]; exact hm0)
          change aA = _ at hN'
          subst hN'
          have ga := hcs i2 (by rw [ints_length]; show i2 < ats.length; rw [HAM.out]; exact hlt2)
          rw [ints_get] at ga
          have hei : ats[i2]? = some (ats[i2]'(by rw [HAM.out]; exact hlt2)) := List.getElem?_eq_getElem (by rw [HAM.out]; exact hlt2)
          change w7.cell? _ = some (.int .i64 (ats[i2]'(by rw [HAM.out]; exact hlt2))) at ga
          generalize (ats[i2]'(by rw [HAM.out]; exact hlt2)) = y at *
          clear hcs
          by_cases hyk : y = (j : Int)
          case neg =>
            have q3 : (y == (j : Int)) = false := beq_eq_false_iff_ne.2 hyk
            have HL := Lib.hid (look_miss (bs := lists br) (a := b0) (b := newP D x.es (lists hr) ats (lists br) st D) (show ats[i2]? ≠ some (j : Int) from fun h => hyk (by rw [hei] at h; exact Option.some.inj h)))
            clear hyk hei
            go_wp2_with fail
            go_roundw
            case rel => exact ⟨i2 + 1, B, cb, by omega, by go_num, by rw [HL.out], rfl, by rw [HL.out]; exact HSL.out, hb7⟩
            case measure => simp [RowKit.intOf]; omega
          case pos =>
            subst hyk
            have q3 : ((j : Int) == (j : Int)) = true := beq_self_eq_true _
            obtain ⟨b2, o2, r, hB, hb2, gr, hrs, -, -, r1⟩ := row_at (HBI.out.next hb7).h (HBI.out.next hb7).r (show i2 < br.length by rw [HBK.out]; exact hlt2)
            change bA = _ at hB
            subst hB
            have h8 := HBO.out r.l (List.mem_of_getElem? r1)
            rw [h8] at gr
            have HL := Lib.hid (show look ats (lists br) j b0 (newP D x.es (lists hr) ats (lists br) st D) (i2 + 1) = (true, r.l) by rw [look_hit hei, hadK_get r1])
            have HRS := Lib.hid hrs
            clear hei r1 hrs h8
            go_upto_region 17 with fail
            go_quiet (fail)
            have hbq := below_dn hb7 nq
            have hsq := HRS.out.next (below_dn (Below.refl w7.heap.size w7) nq)
            generalize w7.drewN nq = wq at *
            go_wp2_with fail
            go_roundw
            case rel => exact ⟨i2 + 1, r.A, r.c, by omega, by go_num, by rw [HL.out], rfl, by rw [HL.out]; exact hsq, hbq⟩
            case measure => simp [RowKit.intOf]; omega
        · have j2 : ¬ (i2 : Int) < (k : Int) := by omega
          obtain rfl : i2 = k := by omega
          obtain ⟨e1, he1, hyes, hno⟩ := stay_at (hs := lists hr) (st := st) HAT.out (show (lists br).length = ats.length by rw [lists_length, HBK.out, HAM.out]) HBO.out HNE.out (show j ≤ D by omega)
          rw [HAM.out, ← HB0.out] at hyes hno
          have hl8 := look_length (i := j) (a := b0) HP8.out HBO.out (show (lists br).length = ats.length by rw [lists_length, HBK.out, HAM.out]) i2
          generalize look ats (lists br) j b0 (newP D x.es (lists hr) ats (lists br) st D) i2 = P at *
          obtain ⟨ya, yb⟩ := P
          dsimp only at hyes hno HSL hl8 ⊢
          obtain ⟨g1', t0, u0⟩ := HM5.out _ hb7
          obtain ⟨bu', ou', e1', hUA', -, c0, c1, c2, -, e1e⟩ := tbl.ent_at (HTI.out.next hb7).h (show j < t.es.length by omega)
          rw [HUA.out] at hUA'
          simp only [Option.some.injEq, Addr.mk.injEq, and_true] at hUA'
          obtain ⟨rfl, rfl⟩ := hUA'
          obtain rfl : e1 = e1' := by
            rw [HTE.out, he1] at e1e
            exact Option.some.inj e1e
          obtain ⟨bx', ox', e0, hXA', -, x0, x1, x2, -, e0e⟩ := tbl.ent_at (HXI.out.next hb7).h (show j < x.es.length by rw [HNE.out]; omega)
          rw [HXA.out] at hXA'
          simp only [Option.some.injEq, Addr.mk.injEq, and_true] at hXA'
          obtain ⟨rfl, rfl⟩ := hXA'
          have hbe := anc.bl w7 (.cells #[.int .i64 e1.st, .int .i64 e1.sm, .bool e1.ls] 61)
          have tr0 : (w7.alloc (.cells #[.int .i64 e1.st, .int .i64 e1.sm, .bool e1.ls] 61)).cell? ⟨w7.heap.size, 0, none⟩ = some (.int .i64 e1.st) := by rw [cell_of_row _ _ 0 _ _ _ (heap_alloc_new w7 _)]; rfl
          have tr1 : (w7.alloc (.cells #[.int .i64 e1.st, .int .i64 e1.sm, .bool e1.ls] 61)).cell? ⟨w7.heap.size, 1, none⟩ = some (.int .i64 e1.sm) := by rw [cell_of_row _ _ 1 _ _ _ (heap_alloc_new w7 _)]; rfl
          have tr2 : (w7.alloc (.cells #[.int .i64 e1.st, .int .i64 e1.sm, .bool e1.ls] 61)).cell? ⟨w7.heap.size, 2, none⟩ = some (.bool e1.ls) := by rw [cell_of_row _ _ 2 _ _ _ (heap_alloc_new w7 _)]; rfl
          have hb8 := bt hb7 hbe
          have lx7 : bx < w7.heap.size := Nat.lt_of_lt_of_le hbx hb7.size
          have x0' := kst hbe lx7 x0
          have x1' := kst hbe lx7 x1
          have x2' := kst hbe lx7 x2
          have lT7 := Nat.lt_of_lt_of_le lT hb7.size
          have t0' := kst hbe lT7 t0
          have hsl8 := HSL.out.next hbe
          go_upto_region 19 with fail
          clear c0 c1 c2 x0 x1 x2 t0 u0 g1' he1 e1e
          generalize w7.alloc (.cells #[.int .i64 e1.st, .int .i64 e1.sm, .bool e1.ls] 61) = w8 at *
          cases ya with
          | true =>
            have he := hyes rfl
            have q4 : (e1.st != st) = false := by rw [he]; exact bne_self_eq_false _
            obtain ⟨S, hS⟩ : ∃ S : Int, S = ((crc.sum yb : Nat) : Int) := ⟨_, rfl⟩
            have HF := Lib.hid (show ∀ m, Calls Try.prog 28 #[.slice B (8 : Nat) cb] (w8.drewN m) fun e w' => e = .returned (.int .i64 S) ∧ ∃ m, w' = w8.drewN m from fun m => by
              have h9 := crc.ref_sum B cb _ yb (w8.drewN m) (hsl8.below (below_dn (Below.refl _ _) m)) (by rw [hl8]; decide)
              rw [hl8, ← hS] at h9
              exact h9.mono fun e w' h => ⟨h.1, m, h.2.symm⟩)
            have q5 : (e1.sm != S) = false := by rw [hS, he]; exact bne_self_eq_false _
            rw [show e1.ls = false by rw [he]; rfl] at tr2
            clear hyes hno he hS hsl8 hl8 HSL
            go_upto_region 20 with fail
            go_quiet (exact HF.out _)
            have hbq := below_dn hb8 nq
            generalize w8.drewN nq = wq at *
            go_wp2_with fail
            go_roundw
            case rel => exact ⟨j + 1, by omega, by go_num, hbq⟩
            case measure => simp [RowKit.intOf]; omega
          | false =>
            obtain ⟨e0', he0, hst1, hsm1, hls1⟩ := hno rfl
            obtain rfl : e0 = e0' := by
              rw [e0e] at he0
              exact Option.some.inj he0
            have q4 : (e1.st != e0.st) = false := by rw [hst1]; exact bne_self_eq_false _
            have q5 : (e1.sm != e0.sm) = false := by rw [hsm1]; exact bne_self_eq_false _
            cases hl0 : e0.ls with
            | true =>
              rw [hls1 hl0] at tr2
              rw [hl0] at x2'
              clear hyes hno hst1 hsm1 hls1 hl0 he0 e0e hsl8 hl8 HSL
              go_upto_region 22 with fail
              go_quiet (fail)
              have hbq := below_dn hb8 nq
              generalize w8.drewN nq = wq at *
              go_wp2_with fail
              go_roundw
              case rel => exact ⟨j + 1, by omega, by go_num, hbq⟩
              case measure => simp [RowKit.intOf]; omega
            | false =>
              rw [hl0] at x2'
              clear hyes hno hst1 hsm1 hls1 hl0 he0 e0e hsl8 hl8 HSL
              go_upto_region 22 with fail
              go_quiet (fail)
              have hbq := below_dn hb8 nq
              generalize w8.drewN nq = wq at *
              go_wp2_with fail
              go_roundw
              case rel => exact ⟨j + 1, by omega, by go_num, hbq⟩
              case measure => simp [RowKit.intOf]; omega
    · have j1 : ¬ (j : Int) < (D : Int) + 1 := by omega
      go_wp2_with (go_at_call 17; (with_reducible refine (HWK.out _ hbr).mono ?_); rintro e w9 ⟨rfl, hb9⟩)
      go_ret
      exact ⟨rfl, bt hw (bt hbr hb9)⟩
/-- The law. -/
theorem stays_law (z s l a st : Int) (d : Int) (x : tbl.TV) (N : Nat) (hA : Option Addr) (hq : Nat) (hr : List Row) (n : Nat) (aA : Option Addr) (ac : Nat) (ats : List Int) (m : Nat) (bA : Option Addr) (bc : Nat) (br : List Row) (k : Nat) (w : World) (hc : Cst w) (hN : x.es.length = N) (hx : x.In w w.heap.size) (hn : hr.length = n) (hh : LV.In w w.heap.size ⟨hA, hq, hr⟩) (hm : ats.length = m) (ha : NV.In w w.heap.size ⟨aA, ac, ats⟩) (hk : br.length = k) (hb : LV.In w w.heap.size ⟨bA, bc, br⟩) :
    Calls Try.prog 5 #[.agg #[.int .i64 z, .int .i64 d, .int .i64 s, .int .i64 l, .int .i64 a], .agg #[.slice x.A N x.c], .slice hA n hq, .slice aA m ac, .slice bA k bc, .int .i64 st] w fun e w' => e = .returned (.bool true) ∧ Below w.heap.size w w' := by
  by_cases h1 : 20 < N ∨ 20 < n ∨ ∃ y ∈ lists hr, 100 < y.length
  · exact st_heavy1 z s l a st d x N hA hq hr n aA ac ats m bA bc br k w hc hN hx hn hh hm ha hk hb h1
  by_cases h2 : 20 < N ∨ 20 < k ∨ ∃ y ∈ lists br, 100 < y.length
  · exact st_heavy2 z s l a st d x N hA hq hr n aA ac ats m bA bc br k w hc hN hx hn hh hm ha hk hb h1 h2
  by_cases h3 : 20 < m
  · exact st_heavy3 z s l a st d x N hA hq hr n aA ac ats m bA bc br k w hc hN hx hn hh hm ha hk hb h1 h2 h3
  by_cases hog : Ok z d s l a ∧ tbl.Good d x.es
  case neg => exact st_no 1 z s l a st d x N hA hq hr n aA ac ats m bA bc br k w hc hN hx hn hh hm ha hk hb h1 h2 h3 (.inl ⟨hog, rfl⟩) (by decide)
  by_cases hd : HadOk (d.toNat + 1) (lists hr)
  case neg => exact st_no 2 z s l a st d x N hA hq hr n aA ac ats m bA bc br k w hc hN hx hn hh hm ha hk hb h1 h2 h3 (.inr (.inl ⟨hog, hd, rfl⟩)) (by decide)
  by_cases hat : AtsOk d ats ∧ StOk st
  case neg => exact st_no 1 z s l a st d x N hA hq hr n aA ac ats m bA bc br k w hc hN hx hn hh hm ha hk hb h1 h2 h3 (.inr (.inr (.inl ⟨hog, hd, hat, rfl⟩))) (by decide)
  by_cases hbo : BlkOk ats.length (lists br)
  case neg => exact st_no 2 z s l a st d x N hA hq hr n aA ac ats m bA bc br k w hc hN hx hn hh hm ha hk hb h1 h2 h3 (.inr (.inr (.inr ⟨hog, hd, hat, hbo, rfl⟩))) (by decide)
  obtain ⟨D, rfl⟩ : ∃ D : Nat, d = D := ⟨d.toNat, by have := hog.1.2.1; omega⟩
  rw [Int.toNat_natCast] at hd
  exact st_main z s l a st D x N hA hq hr n aA ac ats m bA bc br k w hc hN hx hn hh hm ha hk hb h1 h2 h3 hog.1 hog.2 hd hat.1 hat.2 (by rw [← hm]; exact hbo)
theorem stays_said (z s l a d st : Int) (x : tbl.TV) (hA : Option Addr) (hq : Nat) (hr : List Row) (aA : Option Addr) (ac : Nat) (ats : List Int) (bA : Option Addr) (bc : Nat) (br : List Row) (w : World) (hc : Cst w) (hx : x.In w w.heap.size) (hh : LV.In w w.heap.size ⟨hA, hq, hr⟩) (ha : NV.In w w.heap.size ⟨aA, ac, ats⟩) (hb : LV.In w w.heap.size ⟨bA, bc, br⟩) :
    Calls Try.prog 5 #[.agg #[.int .i64 z, .int .i64 d, .int .i64 s, .int .i64 l, .int .i64 a], x.v, .slice hA hr.length hq, .slice aA ats.length ac, .slice bA br.length bc, .int .i64 st] w fun e w' => e = .returned (.bool true) ∧ Below w.heap.size w w' :=
  stays_law z s l a st d x _ hA hq hr _ aA ac ats _ bA bc br _ w hc rfl hx rfl hh rfl ha rfl hb
end Go.Proofs.Ythdahdopejapmaa.stp
