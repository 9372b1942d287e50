/-
  The law ZoneSums, walked. Conditions: 'Czn'.
-/
import Derived.Test.YtajjmllolaajoaaZnP
import Derived.Test.YtajjmllolaajoaaDkQ
namespace Go.Proofs.Ytajjmllolaajoaa.zon
open Go.RowKit Go.Lib
open Go.Proofs.Ytajjmllolaajoaa.gmt (Ok)
open Go.Proofs.Ytajjmllolaajoaa.anc (bl kal kst ks bm ka)
open Go.Proofs.Ytajjmllolaajoaa.tbl (Ent EntOk C1 c1_new G5 g5_new OwnE)
open Go.Proofs.Ytajjmllolaajoaa.par (zx zeros zeros_length zx_length)

theorem not_empty {l : List UInt8} (h : l ≠ []) : l.isEmpty = false := by
  cases l with
  | nil => exact absurd rfl h
  | cons x xs => rfl
set_option maxRecDepth 100000 in
set_option maxHeartbeats 8000000 in
theorem zs_heavy (data : Int) (x : tbl.TV) (N : Nat) (hA : Option Addr) (hq : Nat) (hr : List Row) (n : Nat) (w : World) (hc : Czn w) (hN : x.es.length = N) (hx : x.In w w.heap.size) (hn : hr.length = n) (hh : LV.In w w.heap.size ⟨hA, hq, hr⟩) (hv : 20 < N ∨ 20 < n ∨ ∃ y ∈ lists hr, 100 < y.length) :
    Calls Try.prog 8 #[.int .i64 data, .agg #[.slice x.A N x.c], .slice hA n hq] w fun e w' => e = .returned (.bool true) ∧ Below w.heap.size w w' := by
  have TT := c1_new w (.slice x.A N x.c) 26
  have hb0 := bl w (.cells #[.slice x.A N x.c] 26)
  have lT : w.heap.size < (w.alloc (.cells #[.slice x.A N x.c] 26)).heap.size := by simp
  have HC := Lib.hid hc
  have HNE := Lib.hid hN
  have HXI := Lib.hid (hx.next hb0)
  have HHI := Lib.hid (hh.next hb0)
  have HHn := Lib.hid hn
  clear hc hN hx hh hn
  go_enter Try.func8, Try.ntmps8
  go_upto_region 1 with fail
  generalize w.alloc (.cells #[.slice x.A N x.c] 26) = w0 at *
  have HSO := Lib.hid (gmt.some_any 0 data 0 0 0 w0)
  go_upto_region 2 with (go_at_call 24; (with_reducible refine HSO.out.mono ?_); rintro e w1 ⟨⟨z, d0, s, l, a, ho, rfl⟩, hb1⟩)
  obtain ⟨D, rfl⟩ : ∃ D : Nat, d0 = D := ⟨d0.toNat, by have := ho.2.1; omega⟩
  have hxG := bl w1 (.cells #[.int .i64 z, .int .i64 D, .int .i64 s, .int .i64 l, .int .i64 a] 23)
  have GG := g5_new w1 z D s l a
  have l1 : w1.heap.size < (w1.alloc (.cells #[.int .i64 z, .int .i64 D, .int .i64 s, .int .i64 l, .int .i64 a] 23)).heap.size := by simp
  have b1 := bt hb1 hxG
  have hw := bt hb0 b1
  replace TT := TT.keep b1 lT
  replace lT := Nat.lt_of_lt_of_le lT b1.size
  replace HXI := Lib.hid (HXI.out.next b1)
  replace HHI := Lib.hid (HHI.out.next b1)
  have HO := Lib.hid ho
  have hD := ho.2.1
  have HD1 : Hid (1 ≤ D ∧ D ≤ 4) := Lib.hid (by omega)
  clear hb0 hb1 hxG b1 ho hD HSO
  generalize hg1 : w1.heap.size = g1 at *
  clear hg1
  generalize w1.alloc (.cells #[.int .i64 z, .int .i64 D, .int .i64 s, .int .i64 l, .int .i64 a] 23) = w2 at *
  obtain ⟨g0, g1', g2, g3, g4⟩ := id GG
  have t0 := TT.c0
  have HHV := Lib.hid (heavy_c true x.A hA N x.c n hq hr w2 HHn.out HHI.out.h HHI.out.r (iff_of_true rfl hv))
  clear hv
  go_wp2_with (go_at_call 9; (with_reducible refine HHV.out.mono ?_); rintro e w3 ⟨rfl, hb3⟩)
  go_ret
  exact ⟨rfl, bt hw hb3⟩
set_option maxRecDepth 100000 in
set_option maxHeartbeats 8000000 in
theorem zs_main (data : Int) (x : tbl.TV) (N : Nat) (hA : Option Addr) (hq : Nat) (hr : List Row) (n : Nat) (w : World) (hc : Czn w) (hN : x.es.length = N) (hx : x.In w w.heap.size) (hn : hr.length = n) (hh : LV.In w w.heap.size ⟨hA, hq, hr⟩) (hv : ¬ (20 < N ∨ 20 < n ∨ ∃ y ∈ lists hr, 100 < y.length)) :
    Calls Try.prog 8 #[.int .i64 data, .agg #[.slice x.A N x.c], .slice hA n hq] w fun e w' => e = .returned (.bool true) ∧ Below w.heap.size w w' := by
  have TT := c1_new w (.slice x.A N x.c) 26
  have hb0 := bl w (.cells #[.slice x.A N x.c] 26)
  have lT : w.heap.size < (w.alloc (.cells #[.slice x.A N x.c] 26)).heap.size := by simp
  have HC := Lib.hid hc
  have HNE := Lib.hid hN
  have HXI := Lib.hid (hx.next hb0)
  have HHI := Lib.hid (hh.next hb0)
  have HHn := Lib.hid hn
  clear hc hN hx hh hn
  go_enter Try.func8, Try.ntmps8
  go_upto_region 1 with fail
  generalize w.alloc (.cells #[.slice x.A N x.c] 26) = w0 at *
  have HSO := Lib.hid (gmt.some_any 0 data 0 0 0 w0)
  go_upto_region 2 with (go_at_call 24; (with_reducible refine HSO.out.mono ?_); rintro e w1 ⟨⟨z, d0, s, l, a, ho, rfl⟩, hb1⟩)
  obtain ⟨D, rfl⟩ : ∃ D : Nat, d0 = D := ⟨d0.toNat, by have := ho.2.1; omega⟩
  have hxG := bl w1 (.cells #[.int .i64 z, .int .i64 D, .int .i64 s, .int .i64 l, .int .i64 a] 23)
  have GG := g5_new w1 z D s l a
  have l1 : w1.heap.size < (w1.alloc (.cells #[.int .i64 z, .int .i64 D, .int .i64 s, .int .i64 l, .int .i64 a] 23)).heap.size := by simp
  have b1 := bt hb1 hxG
  have hw := bt hb0 b1
  replace TT := TT.keep b1 lT
  replace lT := Nat.lt_of_lt_of_le lT b1.size
  replace HXI := Lib.hid (HXI.out.next b1)
  replace HHI := Lib.hid (HHI.out.next b1)
  have HO := Lib.hid ho
  have hD := ho.2.1
  have HD1 : Hid (1 ≤ D ∧ D ≤ 4) := Lib.hid (by omega)
  clear hb0 hb1 hxG b1 ho hD HSO
  generalize hg1 : w1.heap.size = g1 at *
  clear hg1
  generalize w1.alloc (.cells #[.int .i64 z, .int .i64 D, .int .i64 s, .int .i64 l, .int .i64 a] 23) = w2 at *
  obtain ⟨g0, g1', g2, g3, g4⟩ := id GG
  have t0 := TT.c0
  have HHV := Lib.hid (heavy_c false x.A hA N x.c n hq hr w2 HHn.out HHI.out.h HHI.out.r (iff_of_false Bool.false_ne_true hv))
  have hN20 : N ≤ 20 := by omega
  have hn20 : n ≤ 20 := by omega
  have HN20 := Lib.hid hN20
  have Hn20 := Lib.hid hn20
  have HSH := Lib.hid (show ∀ y ∈ lists hr, y.length ≤ 100 from fun y hy => Nat.le_of_not_lt fun k => hv (.inr (.inr ⟨y, hy, k⟩)))
  clear hv hN20 hn20
  obtain ⟨cg, hcg⟩ : ∃ c : Bool, c = true ↔ tbl.Good (D : Int) x.es := by
    by_cases k : tbl.Good (D : Int) x.es
    · exact ⟨true, iff_of_true rfl k⟩
    · exact ⟨false, iff_of_false Bool.false_ne_true k⟩
  have HCG := Lib.hid hcg
  clear hcg
  have HRT := Lib.hid (show ∀ W, Below w2.heap.size w2 W → Calls Try.prog 17 #[.agg #[.int .i64 z, .int .i64 D, .int .i64 s, .int .i64 l, .int .i64 a], .agg #[.slice x.A N x.c]] W fun e w' => e = .returned (.bool cg) ∧ Below W.heap.size W w' from fun W hW => by
    have h9 := tbl.rtable_any cg z D s l a x W HO.out (HXI.out.next hW) (by rw [HNE.out]; have := HN20.out; omega) HCG.out
    rw [tbl.TV.v, HNE.out] at h9
    exact h9)
  obtain ⟨ch, hch⟩ : ∃ c : Bool, c = true ↔ HadOk (D + 1) (lists hr) := by
    by_cases k : HadOk (D + 1) (lists hr)
    · exact ⟨true, iff_of_true rfl k⟩
    · exact ⟨false, iff_of_false Bool.false_ne_true k⟩
  have HCH := Lib.hid hch
  clear hch
  have HRH := Lib.hid (show ∀ W, Below w2.heap.size w2 W → Calls Try.prog 19 #[.agg #[.int .i64 z, .int .i64 D, .int .i64 s, .int .i64 l, .int .i64 a], .slice hA n hq] W fun e w' => e = .returned (.bool ch) ∧ Below W.heap.size W w' from fun W hW => had_c ch z s l a D hA n hq hr W HO.out HHn.out (HHI.out.next hW).h (HHI.out.next hW).r HCH.out)
  have HMG := Lib.hid (show ∀ W, Below w2.heap.size w2 W → (W.cell? ⟨g1, 0, none⟩ = some (.int .i64 z) ∧ W.cell? ⟨g1, 1, none⟩ = some (.int .i64 D) ∧ W.cell? ⟨g1, 2, none⟩ = some (.int .i64 s) ∧ W.cell? ⟨g1, 3, none⟩ = some (.int .i64 l) ∧ W.cell? ⟨g1, 4, none⟩ = some (.int .i64 a)) ∧ W.cell? ⟨w.heap.size, 0, none⟩ = some (.slice x.A N x.c) from fun W h => ⟨⟨kst h l1 g0, kst h l1 g1', kst h l1 g2, kst h l1 g3, kst h l1 g4⟩, kst h lT t0⟩)
  by_cases hok : cg = true ∧ ch = true
  case neg =>
    have q : cg = false ∨ cg = true ∧ ch = false := by
      cases cg
      · exact .inl rfl
      · cases ch
        · exact .inr ⟨rfl, rfl⟩
        · exact absurd ⟨rfl, rfl⟩ hok
    clear hok
    rcases q with rfl | ⟨rfl, rfl⟩
    · go_wp2_with (first
        | (go_at_call 9; (with_reducible refine HHV.out.mono ?_); rintro e w3 ⟨rfl, hb3⟩; clear g0 g1' g2 g3 g4 t0; obtain ⟨⟨g0, g1', g2, g3, g4⟩, t0⟩ := HMG.out _ hb3)
        | (go_at_call 17; (with_reducible refine (HRT.out _ hb3).mono ?_); rintro e w4 ⟨rfl, hb4⟩))
      go_ret
      exact ⟨rfl, bt hw (bt hb3 hb4)⟩
    · go_wp2_with (first
        | (go_at_call 9; (with_reducible refine HHV.out.mono ?_); rintro e w3 ⟨rfl, hb3⟩; clear g0 g1' g2 g3 g4 t0; obtain ⟨⟨g0, g1', g2, g3, g4⟩, t0⟩ := HMG.out _ hb3)
        | (go_at_call 17; (with_reducible refine (HRT.out _ hb3).mono ?_); rintro e w4 ⟨rfl, hb4⟩; have hb34 := bt hb3 hb4; clear g0 g1' g2 g3 g4 t0; obtain ⟨⟨g0, g1', g2, g3, g4⟩, t0⟩ := HMG.out _ hb34)
        | (go_at_call 19; (with_reducible refine (HRH.out _ hb34).mono ?_); rintro e w5 ⟨rfl, hb5⟩))
      go_ret
      exact ⟨rfl, bt hw (bt hb34 hb5)⟩
  obtain ⟨rfl, rfl⟩ := hok
  have HG := Lib.hid (HCG.out.1 rfl)
  have HH := Lib.hid (HCH.out.1 rfl)
  go_upto_region 4 with (first
    | (go_at_call 9; (with_reducible refine HHV.out.mono ?_); rintro e w3 ⟨rfl, hb3⟩; clear g0 g1' g2 g3 g4 t0; obtain ⟨⟨g0, g1', g2, g3, g4⟩, t0⟩ := HMG.out _ hb3)
    | (go_at_call 17; (with_reducible refine (HRT.out _ hb3).mono ?_); rintro e w4 ⟨rfl, hb4⟩; have hb34 := bt hb3 hb4; clear g0 g1' g2 g3 g4 t0; obtain ⟨⟨g0, g1', g2, g3, g4⟩, t0⟩ := HMG.out _ hb34)
    | (go_at_call 19; (with_reducible refine (HRH.out _ hb34).mono ?_); rintro e w5 ⟨rfl, hb5⟩))
  have hb25 := bt hb34 hb5
  replace GG := GG.keep hb25 l1
  replace TT := TT.keep hb25 lT
  replace l1 := Nat.lt_of_lt_of_le l1 hb25.size
  replace lT := Nat.lt_of_lt_of_le lT hb25.size
  replace HXI := Lib.hid (HXI.out.next hb25)
  replace HHI := Lib.hid (HHI.out.next hb25)
  replace hw := bt hw hb25
  clear hb25 hb34 hb3 hb4 hb5 g0 g1' g2 g3 g4 t0 HMG HRT HRH HHV HCG HCH
  have HAL := Lib.hid (HC.out.all z s l a D x N ⟨hA, hq, hr⟩ n w5 hw HO.out HXI.out HNE.out HG.out HHI.out HHn.out HH.out)
  obtain ⟨g0, g1', g2, g3, g4⟩ := id GG
  have t0 := TT.c0
  go_upto_region 5 with (go_at_call 13; (with_reducible refine HAL.out.mono ?_); rintro e w6 ⟨⟨Y, yc, yr, K, kc, rfl, hyl, hyi, hks⟩, hb6⟩)
  replace GG := GG.keep hb6 l1
  replace TT := TT.keep hb6 lT
  replace l1 := Nat.lt_of_lt_of_le l1 hb6.size
  replace lT := Nat.lt_of_lt_of_le lT hb6.size
  replace HXI := Lib.hid (HXI.out.next hb6)
  replace HHI := Lib.hid (HHI.out.next hb6)
  replace hw := bt hw hb6
  have HYL := Lib.hid hyl
  have HYI := Lib.hid hyi
  have HKS := Lib.hid hks
  have HeN : Hid (N = D + 1) := Lib.hid (by have := HG.out.1; rw [HNE.out] at this; omega)
  have Hen : Hid (n = D + 1) := Lib.hid (by have := HH.out.1; rw [lists_length, HHn.out] at this; exact this)
  clear hyl hyi hks hb6 g0 g1' g2 g3 g4 t0 HAL
  have hDb : D ≤ 4 := HD1.out.2
  have q9 : (((D + 1 : Nat) : Int) != (D : Int) + 1) = false := by rw [show ((D + 1 : Nat) : Int) = (D : Int) + 1 by omega]; exact bne_self_eq_false _
  obtain ⟨g0, g1', g2, g3, g4⟩ := id GG
  go_upto_region 8 with fail
  clear g0 g1' g2 g3 g4 q9
  go_loopw [11] (fun i w' => ∃ k : Nat, k ≤ D + 1 ∧ i = .int .i64 k ∧ Below w6.heap.size w6 w') (fun i _ => D + 1 - (RowKit.intOf i).toNat)
  case atStart => exact ⟨0, by omega, rfl, Below.refl _ _⟩
  case round =>
    obtain ⟨w9, rfl⟩ : ∃ q, q = wr := ⟨wr, rfl⟩
    obtain ⟨k, hk, rfl, hbr⟩ := hrel
    have t9 := (TT.keep hbr lT).c0
    have hx9 := bt hw hbr
    obtain ⟨g0, g1', g2, g3, g4⟩ := id (GG.keep hbr l1)
    by_cases hlt : k ≤ D
    · have i4 : (k : Int) ≤ (D : Int) := by omega
      have hkl : k < (knowns (D + 1) x.es (lists hr)).length := by rw [knowns_length]; omega
      obtain ⟨b1, of1, ek, hE, hb1, c0, c1, c2, -, e1⟩ := tbl.ent_at (HXI.out.next hbr).h (show k < x.es.length by rw [HNE.out, HeN.out]; omega)
      obtain ⟨b2, of2, ry, hY, hb2, r2, hry, -, -, e2⟩ := row_at (HYI.out.next hbr).h (HYI.out.next hbr).r (show k < yr.length by have h9 := congrArg List.length HYL.out; rw [lists_length, knowns_length] at h9; omega)
      obtain ⟨b3, of3, rh, hRH, hb3, r3, hrh, -, -, e3⟩ := row_at (HHI.out.next hbr).h (HHI.out.next hbr).r (show k < hr.length by rw [HHn.out, Hen.out]; omega)
      obtain ⟨b4, of4, hK, hb4, c4, e4⟩ := bool_at (HKS.out.next hbr) (show k < (kn (knowns (D + 1) x.es (lists hr))).length by rw [kn_length]; exact hkl)
      have hlk : lostK x.es k = ek.ls := lostK_get e1
      have hsk : sumK x.es k = ek.sm := sumK_get e1
      have hhk : hadK (lists hr) k = rh.l := hadK_get e3
      have hyk : ry.l = known (D + 1) x.es (lists hr) k := by
        rw [HYL.out, knowns_get _ _ (by omega)] at e2
        exact (Option.some.inj e2).symm
      have hbk : (kn (knowns (D + 1) x.es (lists hr)))[k]'(by rw [kn_length]; exact hkl) = !(ry.l).isEmpty := by
        have h9 := kn_get (knowns_get (n := D + 1) x.es (lists hr) (show k < D + 1 by omega))
        rw [e4] at h9
        rw [hyk]
        exact Option.some.inj h9
      rw [hbk] at c4
      rw [hE] at t9
      have j1 : (k : Int) < ((D + 1 : Nat) : Int) := by omega
      have j2 : (k : Int) < (N : Int) := by have := HeN.out; omega
      have j3 : (k : Int) < (n : Int) := by have := Hen.out; omega
      have j0 : (0 : Int) ≤ (k : Int) := by omega
      subst hRH hY hK
      by_cases hkn : ry.l = []
      case pos =>
        -- it is not known
        have c5 : w9.cell? ⟨b4, of4 + k, none⟩ = some (.bool false) := by rw [c4, hkn]; rfl
        rw [hkn, List.length_nil] at r2
        have hqq : ek.ls = true ∨ ek.ls = false ∧ rh.l = [] := by
          cases hl : ek.ls
          · refine .inr ⟨rfl, ?_⟩
            by_cases hr0 : rh.l = []
            · exact hr0
            · exact absurd (hyk.symm.trans hkn) (by rw [known_had (hlk.trans hl) (by rw [hhk]; exact hr0), hhk]; exact hr0)
          · exact .inl rfl
        clear hkn c4 hyk hlk hsk hhk hbk hkl hE e1 e2 e3 e4 hry hrh c0 c1
        rcases hqq with hl | ⟨hl, hr0⟩
        · rw [hl] at c2
          clear hl
          go_wp2_with fail
          go_roundw
          case rel => exact ⟨k + 1, by omega, by go_num, hbr⟩
          case measure => simp [RowKit.intOf]; omega
        · rw [hl] at c2
          rw [hr0, List.length_nil] at r3
          clear hl hr0
          go_wp2_with fail
          go_roundw
          case rel => exact ⟨k + 1, by omega, by go_num, hbr⟩
          case measure => simp [RowKit.intOf]; omega
      -- it is known: not lost
      have hlf : ek.ls = false := by
        cases hl : ek.ls
        · rfl
        · exact absurd (hyk.trans (known_lost (hlk.trans hl))) hkn
      have c5 : w9.cell? ⟨b4, of4 + k, none⟩ = some (.bool true) := by rw [c4, not_empty hkn]; rfl
      rw [hlf] at c2
      by_cases hr0 : rh.l = []
      · -- not had
        obtain ⟨h8, hsm⟩ := known_sum HH.out (hlk.trans hlf) (hhk.trans hr0) (by rw [← hyk]; exact hkn)
        rw [← hyk] at h8 hsm
        rw [hsk] at hsm
        rw [hr0, List.length_nil] at r3
        have q3 : ((ry.l.length : Int) != 8) = false := by rw [h8]; rfl
        obtain ⟨S, hS⟩ : ∃ S : Nat, S = crc.sum ry.l := ⟨_, rfl⟩
        rw [← hS] at hsm
        rw [← hsm] at c1
        have q4 : ((S : Int) != (S : Int)) = false := bne_self_eq_false _
        have HSU := Lib.hid (show ∀ q, Calls Try.prog 27 #[.slice ry.A ry.l.length ry.c] (w9.drewN q) fun e w' => e = .returned (.int .i64 S) ∧ ∃ m, w' = (w9.drewN q).drewN m from fun q => by
          have h9 := crc.ref_sum ry.A ry.c _ ry.l (w9.drewN q) (hry.below (below_dn (Below.refl _ _) q)) (by rw [h8]; decide)
          rw [← hS] at h9
          exact h9.mono fun e w' k => ⟨k.1, 0, k.2.symm⟩)
        clear hS hsm hkn c4 hyk hlk hsk hhk hbk hkl hE e1 e2 e3 e4 hry hrh c0 hlf hr0 h8
        go_wp2_with fail
        go_quiet (exact Calls.quiet_of (HSU.out _))
        have hbq := below_dn hbr nq
        generalize w9.drewN nq = wq at *
        go_wp2_with fail
        go_roundw
        case rel => exact ⟨k + 1, by omega, by go_num, hbq⟩
        case measure => simp [RowKit.intOf]; omega
      · -- had
        have hyr : ry.l = rh.l := by rw [hyk, known_had (hlk.trans hlf) (by rw [hhk]; exact hr0), hhk]
        have q2 : (0 : Int) < (rh.l.length : Int) := by have := List.length_pos_iff.2 hr0; omega
        have HKB := Lib.hid (show ∀ q, Calls Try.prog 21 #[.slice ry.A ry.l.length ry.c, .slice rh.A rh.l.length rh.c] (w9.drewN q) fun e w' => e = .returned (.bool true) ∧ ∃ m, w' = (w9.drewN q).drewN m from fun q => by
          have h9 := keep_any_q ry.A rh.A ry.c rh.c _ _ ry.l rh.l (w9.drewN q) (hry.below (below_dn (Below.refl _ _) q)) (hrh.below (below_dn (Below.refl _ _) q)) (Nat.le_refl _) (Nat.le_refl _) (by rw [hyr]; exact Nat.le_trans (HSH.out _ (List.mem_of_getElem? e3)) (by decide))
          rw [decide_eq_true hyr] at h9
          exact h9)
        clear hyr hkn c4 hyk hlk hsk hhk hbk hkl hE e1 e2 e3 e4 hry hrh c0 c1 hlf hr0
        go_wp2_with fail
        go_quiet (exact Calls.quiet_of (HKB.out _))
        have hbq := below_dn hbr nq
        generalize w9.drewN nq = wq at *
        go_wp2_with fail
        go_roundw
        case rel => exact ⟨k + 1, by omega, by go_num, hbq⟩
        case measure => simp [RowKit.intOf]; omega
    · have i4 : ¬ (k : Int) ≤ (D : Int) := by omega
      have HWK := Lib.hid (wk_zn w9 (HC.out.next hx9))
      clear t9
      go_wp2_with (go_at_call 18; (with_reducible refine HWK.out.mono ?_); rintro e w10 ⟨rfl, hb10⟩)
      go_ret
      exact ⟨rfl, bt hx9 hb10⟩
/-- The law. -/
theorem sums_law (data : Int) (x : tbl.TV) (N : Nat) (hA : Option Addr) (hq : Nat) (hr : List Row) (n : Nat) (w : World) (hc : Czn w) (hN : x.es.length = N) (hx : x.In w w.heap.size) (hn : hr.length = n) (hh : LV.In w w.heap.size ⟨hA, hq, hr⟩) :
    Calls Try.prog 8 #[.int .i64 data, .agg #[.slice x.A N x.c], .slice hA n hq] w fun e w' => e = .returned (.bool true) ∧ Below w.heap.size w w' := by
  by_cases hv : 20 < N ∨ 20 < n ∨ ∃ y ∈ lists hr, 100 < y.length
  · exact zs_heavy data x N hA hq hr n w hc hN hx hn hh hv
  · exact zs_main data x N hA hq hr n w hc hN hx hn hh hv
/-- The law as its row calls it. -/
theorem sums_said (data : Int) (x : tbl.TV) (hA : Option Addr) (hq : Nat) (hr : List Row) (w : World) (hc : Czn w) (hx : x.In w w.heap.size) (hh : LV.In w w.heap.size ⟨hA, hq, hr⟩) :
    Calls Try.prog 8 #[.int .i64 data, x.v, .slice hA hr.length hq] w fun e w' => e = .returned (.bool true) ∧ Below w.heap.size w w' := by
  unfold tbl.TV.v
  exact sums_law data x _ hA hq hr _ w hc rfl hx rfl hh
end Go.Proofs.Ytajjmllolaajoaa.zon
