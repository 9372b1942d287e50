/-
  The law ZoneOne, walked. Conditions: 'Czn'.
-/
import Derived.Test.YtajjmllolaajoaaZnP
import Derived.Test.YtajjmllolaajoaaDkQ
import Derived.IntWalk
namespace Go.Proofs.Ytajjmllolaajoaa.zon
open Go.RowKit Go.Lib
open Go.Proofs.Ytajjmllolaajoaa.gmt (Ok)
open Go.Proofs.Ytajjmllolaajoaa.anc (bl kal kst ks bm ka)
open Go.Proofs.Ytajjmllolaajoaa.tbl (Ent EntOk C1 c1_new G5 g5_new OwnE)
open Go.Proofs.Ytajjmllolaajoaa.par (zx zeros zeros_length zx_length)

/-- With one missed, each that is not lost is known as it was. -/
theorem one_known {st : Int} {bs : List (List UInt8)} {ls : List Bool} {D j k : Nat} (hk : k ≤ D) (hj : j ≤ D) (hl : lostK (fullE st bs ls D) k = false) : known (D + 1) (fullE st bs ls D) ((fullH bs ls D).set j []) k = hadK (fullH bs ls D) k := by
  have h8 : ∀ i, i ≤ D → lostK (fullE st bs ls D) i = false → hadK (fullH bs ls D) i ≠ [] := fun i hi h => by
    rcases full_each (st := st) (bs := bs) (ls := ls) hi with ⟨h1, -⟩ | ⟨-, h1, -⟩
    · rw [h] at h1; cases h1
    · intro h0; rw [h0] at h1; cases h1
  by_cases hkj : k = j
  · subst hkj
    exact known_full (missed_set (missed_refl _) (by rw [fullH_length]; omega)) hk (fun i hi hne hli => by
      rw [hadK_set [] (by rw [fullH_length]; omega) i, if_neg hne]
      exact h8 i hi hli) hl
  · have h9 : hadK ((fullH bs ls D).set j []) k = hadK (fullH bs ls D) k := by rw [hadK_set [] (by rw [fullH_length]; omega) k, if_neg hkj]
    rw [known_had hl (by rw [h9]; exact h8 k hk hl), h9]
theorem full_some {st : Int} {bs : List (List UInt8)} {ls : List Bool} {D k : Nat} (hk : k ≤ D) (hl : lostK (fullE st bs ls D) k = false) : (hadK (fullH bs ls D) k).length = 8 := by
  rcases full_each (st := st) (bs := bs) (ls := ls) hk with ⟨h1, -⟩ | ⟨-, h1, -⟩
  · rw [hl] at h1; cases h1
  · exact h1
set_option maxRecDepth 100000 in
set_option maxHeartbeats 8000000 in
theorem zo_long (zones data stamp miss : Int) (A B : Option Addr) (n c m d : Nat) (w : World) (h : ¬ (n ≤ 10 ∧ m ≤ 10)) :
    Calls Try.prog 4 #[.int .i64 zones, .int .i64 data, .slice A n c, .slice B m d, .int .i64 stamp, .int .i64 miss] w fun e w' => e = .returned (.bool true) ∧ Below w.heap.size w w' := by
  have q : (10 : Int) < (n : Int) ∨ ¬ (10 : Int) < (n : Int) ∧ (10 : Int) < (m : Int) := by omega
  clear h
  have HSO := Lib.hid (gmt.some_any zones data 1 0 0 w)
  go_enter Try.func4, Try.ntmps4
  go_upto_region 2 with (go_at_call 24; (with_reducible refine HSO.out.mono ?_); rintro e w1 ⟨⟨z, d0, s, l, a, -, rfl⟩, hb1⟩)
  have hx := bt hb1 (anc.bl w1 (.cells #[.int .i64 z, .int .i64 d0, .int .i64 s, .int .i64 l, .int .i64 a] 23))
  rcases q with q | ⟨q, q2⟩
  all_goals
    go_wp2
    go_ret
    exact ⟨rfl, hx⟩
set_option maxRecDepth 100000 in
set_option maxHeartbeats 8000000 in
theorem zo_main (zones data stamp miss : Int) (A B : Option Addr) (n c m d : Nat) (rs : List Row) (bl : List Bool) (w : World) (hc : Czn w) (hn : rs.length = n) (hm : bl.length = m) (hA : SlV w w.heap.size A (vals rs)) (hR : Rws w w.heap.size rs) (hB : SlV w w.heap.size B (bools bl)) (hn10 : n ≤ 10) (hm10 : m ≤ 10) :
    Calls Try.prog 4 #[.int .i64 zones, .int .i64 data, .slice A n c, .slice B m d, .int .i64 stamp, .int .i64 miss] w fun e w' => e = .returned (.bool true) ∧ Below w.heap.size w w' := by
  have HC := Lib.hid hc
  have HN := Lib.hid hn
  have HM := Lib.hid hm
  have HA := Lib.hid hA
  have HR := Lib.hid hR
  have HB := Lib.hid hB
  clear hc hn hm hA hR hB
  have HSO := Lib.hid (gmt.some_any zones data 1 0 0 w)
  go_enter Try.func4, Try.ntmps4
  go_upto_region 2 with (go_at_call 24; (with_reducible refine HSO.out.mono ?_); rintro e w1 ⟨⟨z, d0, s, l, a, ho, rfl⟩, hb1⟩)
  obtain ⟨D, rfl⟩ : ∃ D : Nat, d0 = D := ⟨d0.toNat, by have := ho.2.1; omega⟩
  have hxG := anc.bl w1 (.cells #[.int .i64 z, .int .i64 D, .int .i64 s, .int .i64 l, .int .i64 a] 23)
  have GG := g5_new w1 z D s l a
  have l1 : w1.heap.size < (w1.alloc (.cells #[.int .i64 z, .int .i64 D, .int .i64 s, .int .i64 l, .int .i64 a] 23)).heap.size := by simp
  have hx := bt hb1 hxG
  have HO := Lib.hid ho
  have hD := ho.2.1
  have HD1 : Hid (1 ≤ D ∧ D ≤ 4) := Lib.hid (by omega)
  have lg1 := hb1.size
  clear hb1 hxG ho hD HSO
  generalize hg1 : w1.heap.size = g1 at *
  clear hg1
  generalize w1.alloc (.cells #[.int .i64 z, .int .i64 D, .int .i64 s, .int .i64 l, .int .i64 a] 23) = w2 at *
  have i1 : ¬ (10 : Int) < (n : Int) := by omega
  have i2 : ¬ (10 : Int) < (m : Int) := by omega
  have HN10 := Lib.hid hn10
  clear hn10 hm10
  have hs := gmt.wrap_mod stamp 100000 (by omega)
  have hj := gmt.wrap_mod miss ((D : Int) + 1) (by omega)
  generalize hS0 : (IntKind.u64.wrap stamp).tmod 100000 = s0 at *
  generalize hJ0 : (IntKind.u64.wrap miss).tmod ((D : Int) + 1) = j0 at *
  obtain ⟨J, rfl⟩ : ∃ J : Nat, j0 = J := ⟨j0.toNat, by omega⟩
  have HJ : Hid (J ≤ D) := Lib.hid (by omega)
  have HS : Hid (0 ≤ s0 ∧ s0 ≤ 4294967295) := Lib.hid (by omega)
  have hw1 : IntKind.u64.wrap ((D : Int) + 1) = (D : Int) + 1 := IntWalk.u64_in _ (by have := HD1.out; omega)
  have hm0 : ((D : Int) + 1 == 0) = false := beq_eq_false_iff_ne.2 (by omega)
  have hm1 : ¬ (D : Int) + 1 = 0 := by omega
  have hDb : D ≤ 4 := HD1.out.2
  obtain ⟨g0, g1', g2, g3, g4⟩ := id GG
  go_upto_region 4 with fail
  go_quiet (fail)
  clear g0 g1' g2 g3 g4 hw1 hm0 hm1 i1 i2
  have b2 := below_dn (Below.refl w2.heap.size w2) nq
  replace GG := GG.keep b2 l1
  replace hx := bt hx b2
  replace l1 := Nat.lt_of_lt_of_le l1 b2.size
  clear b2
  generalize w2.drewN nq = w3 at *
  go_upto_region 5 with fail
  clear hS0 hJ0
  obtain ⟨g0, g1', g2, g3, g4⟩ := id GG
  have HFU := Lib.hid (full_z z s l a s0 D A B n c m d rs bl w3 HO.out HN.out HM.out (by have := HN10.out; omega) (HA.out.next hx) (HR.out.next hx) (HB.out.next hx))
  go_upto_region 6 with (go_at_call 25; (with_reducible refine HFU.out.mono ?_); rintro e w4 ⟨⟨t, ga, ca, ra, rfl, hte0, hto, hor, hga1, hga2, hcap⟩, hb4⟩; have HTE := Lib.hid hte0; clear hte0)
  have hxT := anc.bl w4 (.cells #[.slice t.A (D + 1 : Nat) t.c] 26)
  have TT := c1_new w4 (.slice t.A (D + 1 : Nat) t.c) 26
  have lT : w4.heap.size < (w4.alloc (.cells #[.slice t.A (D + 1 : Nat) t.c] 26)).heap.size := by simp
  have b4 := bt hb4 hxT
  have HTI := Lib.hid (tbl.TV.Own.inn (tbl.TV.Own.below hto hxT))
  have hor2 := hor.below hxT
  have HAI := Lib.hid (rows_in hor2)
  have HAL := Lib.hid hor2.2.1
  have HALn := Lib.hid (hor2.len.trans (fullH_length _ _ _))
  replace GG := GG.keep b4 l1
  replace l1 := Nat.lt_of_lt_of_le l1 b4.size
  replace hx := bt hx b4
  clear b4 hb4 hxT hto hor hor2 g0 g1' g2 g3 g4 HFU hga1 hga2 hcap
  generalize hgT : w4.heap.size = gT at *
  clear hgT
  generalize w4.alloc (.cells #[.slice t.A (D + 1 : Nat) t.c] 26) = w5 at *
  have HTW := Lib.hid (twins_any (some ⟨ga, 0, none⟩) ca (D + 1) ra w5 HALn.out HAI.out.h HAI.out.r (by have := HD1.out; omega) (fun r hr => by
    have h9 : r.l ∈ lists ra := List.mem_map_of_mem hr
    rw [HAL.out] at h9
    have := (full_had (lists rs) bl D).2 r.l h9
    rcases this with h | h
    · rw [h]; exact Nat.zero_le _
    · omega))
  go_upto_region 7 with (go_at_call 11; (with_reducible refine HTW.out.mono ?_); rintro e w6 ⟨⟨v, rh, rfl, hrh⟩, hb6⟩)
  rw [HAL.out] at hrh
  obtain ⟨gh, ch, hv, hch1, hch2, hgh1, hgh2⟩ := hrh.at (fullH_length _ _ _) (by omega)
  subst hv
  replace GG := GG.keep hb6 l1
  replace TT := TT.keep hb6 lT
  have HTI6 := Lib.hid (HTI.out.below hb6)
  have HAI6 := Lib.hid (HAI.out.below hb6)
  have hx6 := bt hx hb6
  have lg : g1 < gh := Nat.lt_of_lt_of_le l1 hgh1
  have lTg : gT < gh := Nat.lt_of_lt_of_le lT hgh1
  have lw : w.heap.size ≤ gh := Nat.le_trans lg1 (Nat.le_of_lt lg)
  obtain ⟨⟨u1, c1⟩, f1⟩ := rows_frozen hrh (fullH_length _ _ _) J (by have := HJ.out; omega)
  have HRH := Lib.hid hrh
  have HB0 := Lib.hid hgh1
  have j1 : (J : Int) < ((D + 1 : Nat) : Int) := by have := HJ.out; omega
  have HLH := Lib.hid hgh2
  clear hrh hb6 HTW hch1 hch2 hx hgh1 hgh2 HTI HAI
  generalize w5.heap.size = B0 at *
  go_upto_region 8 with fail
  obtain ⟨hor7, hg7⟩ := rows_nil HRH.out (fullH_length _ _ _) J
  have b7 : Below gh w6 (w6.setCell ⟨gh, J, none⟩ (.slice none 0 0)) := (Below.refl gh w6).setCell (p := ⟨gh, J, none⟩) (Nat.le_refl gh) _
  have lsz : (w6.setCell ⟨gh, J, none⟩ (.slice none 0 0)).heap.size = w6.heap.size := by simp
  have HTI7 := Lib.hid ((HTI6.out.below (b7.mono HB0.out)).more (show B0 ≤ (w6.setCell ⟨gh, J, none⟩ (.slice none 0 0)).heap.size by rw [lsz]; exact Nat.le_trans HB0.out (Nat.le_of_lt HLH.out)))
  have HAI7 := Lib.hid ((HAI6.out.below (b7.mono HB0.out)).more (show B0 ≤ (w6.setCell ⟨gh, J, none⟩ (.slice none 0 0)).heap.size by rw [lsz]; exact Nat.le_trans HB0.out (Nat.le_of_lt HLH.out)))
  have T7 := TT.keep b7 lTg
  have G7 := GG.keep b7 lg
  have hx7 := hx6.trans (b7.mono lw)
  have HL7 := Lib.hid hor7.2.1
  have HH7 := Lib.hid (rows_in hor7)
  have HHn : Hid ((rh.set J ⟨none, 0, []⟩).length = D + 1) := Lib.hid (hor7.len.trans (by rw [List.length_set, fullH_length]))
  have l17 : g1 < (w6.setCell ⟨gh, J, none⟩ (.slice none 0 0)).heap.size := by rw [lsz]; exact Nat.lt_trans lg HLH.out
  have lT7 : gT < (w6.setCell ⟨gh, J, none⟩ (.slice none 0 0)).heap.size := by rw [lsz]; exact Nat.lt_trans lTg HLH.out
  clear hor7 hg7 b7 lsz HTI6 HAI6 TT GG hx6 HRH c1 f1 l1 lT
  generalize w6.setCell ⟨gh, J, none⟩ (.slice none 0 0) = w7 at *
  have HAL7 := Lib.hid (HC.out.all z s l a D t (D + 1) ⟨some ⟨gh, 0, none⟩, ch, rh.set J ⟨none, 0, []⟩⟩ (D + 1) w7 hx7 HO.out HTI7.out (by rw [HTE.out, fullE_length]) (by rw [HTE.out]; exact full_good _ _ _ _ HS.out) HH7.out HHn.out (by show HadOk _ (lists (rh.set J _)); rw [HL7.out]; exact had_set (full_had _ _ _) J))
  obtain ⟨g0, g1', g2, g3, g4⟩ := id G7
  have t0 := T7.c0
  go_upto_region 9 with (go_at_call 13; (with_reducible refine HAL7.out.mono ?_); rintro e w8 ⟨⟨Y, yc, yr, K, kc, rfl, hyl, hyi, hks⟩, hb8⟩)
  replace hyl : lists yr = knowns (D + 1) (fullE s0 (lists rs) bl D) ((fullH (lists rs) bl D).set J []) := by
    rw [hyl, HTE.out]
    show knowns _ _ (lists (rh.set J _)) = _
    rw [HL7.out]
  have HKS : Hid (SlV w8 w8.heap.size K (bools (kn (knowns (D + 1) (fullE s0 (lists rs) bl D) ((fullH (lists rs) bl D).set J []))))) := by
    have h9 : lists (rh.set J ⟨none, 0, []⟩) = (fullH (lists rs) bl D).set J [] := HL7.out
    rw [HTE.out] at hks
    change SlV w8 w8.heap.size K (bools (kn (knowns (D + 1) (fullE s0 (lists rs) bl D) (lists (rh.set J ⟨none, 0, []⟩))))) at hks
    rw [h9] at hks
    exact Lib.hid hks
  have HYL := Lib.hid hyl
  have HYI := Lib.hid hyi
  have G8 := G7.keep hb8 l17
  have T8 := T7.keep hb8 lT7
  have HTI8 := Lib.hid (HTI7.out.next hb8)
  have HAI8 := Lib.hid (HAI7.out.next hb8)
  have hx8 := bt hx7 hb8
  have l18 := Nat.lt_of_lt_of_le l17 hb8.size
  have lT8 := Nat.lt_of_lt_of_le lT7 hb8.size
  clear hyl hyi hks hb8 g0 g1' g2 g3 g4 t0 G7 T7 HTI7 HAI7 HAL7 HH7 HHn HL7 l17 lT7
  have q9 : (((D + 1 : Nat) : Int) != (D : Int) + 1) = false := by rw [show ((D + 1 : Nat) : Int) = (D : Int) + 1 by omega]; exact bne_self_eq_false _
  obtain ⟨g0, g1', g2, g3, g4⟩ := id G8
  go_upto_region 12 with fail
  clear g0 g1' g2 g3 g4 q9
  go_loopw [20] (fun i w' => ∃ k : Nat, k ≤ D + 1 ∧ i = .int .i64 k ∧ Below w8.heap.size w8 w') (fun i _ => D + 1 - (RowKit.intOf i).toNat)
  case atStart => exact ⟨0, by omega, rfl, Below.refl _ _⟩
  case round =>
    obtain ⟨w9, rfl⟩ : ∃ q, q = wr := ⟨wr, rfl⟩
    obtain ⟨k, hk, rfl, hbr⟩ := hrel
    have G9 := G8.keep hbr l18
    have t9 := (T8.keep hbr lT8).c0
    have hx9 := bt hx8 hbr
    obtain ⟨g0, g1', g2, g3, g4⟩ := id G9
    by_cases hlt : k ≤ D
    · have i4 : (k : Int) ≤ (D : Int) := by omega
      have hkl : k < (knowns (D + 1) (fullE s0 (lists rs) bl D) ((fullH (lists rs) bl D).set J [])).length := by rw [knowns_length]; omega
      obtain ⟨b1, of1, ek, hE, hb1, c0, c1, c2, -, e1⟩ := tbl.ent_at (HTI8.out.next hbr).h (show k < t.es.length by rw [HTE.out, fullE_length]; omega)
      obtain ⟨b2, of2, ry, hY, hb2, r2, hry, -, -, e2⟩ := row_at (HYI.out.next hbr).h (HYI.out.next hbr).r (show k < yr.length by have h9 := congrArg List.length HYL.out; rw [lists_length, knowns_length] at h9; omega)
      obtain ⟨b3, of3, ra', hRA, hb3, r3, hra, -, -, e3⟩ := row_at (HAI8.out.next hbr).h (HAI8.out.next hbr).r (show k < ra.length by rw [HALn.out]; omega)
      obtain ⟨b4, of4, hK, hb4, c4, e4⟩ := bool_at (HKS.out.next hbr) (show k < (kn (knowns (D + 1) (fullE s0 (lists rs) bl D) ((fullH (lists rs) bl D).set J []))).length by rw [kn_length]; exact hkl)
      have hlk : lostK (fullE s0 (lists rs) bl D) k = ek.ls := by rw [HTE.out] at e1; exact lostK_get e1
      have hyk : ry.l = known (D + 1) (fullE s0 (lists rs) bl D) ((fullH (lists rs) bl D).set J []) k := by
        rw [HYL.out, knowns_get _ _ (by omega)] at e2
        exact (Option.some.inj e2).symm
      have hrk : ra'.l = hadK (fullH (lists rs) bl D) k := by
        rw [HAL.out] at e3
        exact (hadK_get e3).symm
      have hbk : (kn (knowns (D + 1) (fullE s0 (lists rs) bl D) ((fullH (lists rs) bl D).set J [])))[k]'(by rw [kn_length]; exact hkl) = !(known (D + 1) (fullE s0 (lists rs) bl D) ((fullH (lists rs) bl D).set J []) k).isEmpty := by
        have h9 := kn_get (knowns_get (n := D + 1) (fullE s0 (lists rs) bl D) ((fullH (lists rs) bl D).set J []) (show k < D + 1 by omega))
        rw [e4] at h9
        exact Option.some.inj h9
      rw [hbk] at c4
      rw [hE] at t9
      subst hY hK
      simp only [Option.some.injEq, Addr.mk.injEq, and_true] at hRA
      obtain ⟨hga, hof3⟩ := hRA
      subst hga hof3
      rw [Nat.zero_add] at r3
      have j1 : (k : Int) < ((D + 1 : Nat) : Int) := by omega
      have j2 : (0 : Int) ≤ (k : Int) := by omega
      by_cases hl : ek.ls = true
      · have hk0 : known (D + 1) (fullE s0 (lists rs) bl D) ((fullH (lists rs) bl D).set J []) k = [] := known_lost (hlk.trans hl)
        rw [hk0] at c4
        rw [hl] at c2
        clear hk0 hl hlk hyk hrk hbk hkl hE e1 e2 e3 e4 hry hra c0 c1
        go_wp2_with fail
        go_quiet (fail)
        have hbq := below_dn hbr nq
        generalize w9.drewN nq = wq at *
        go_wp2_with fail
        go_roundw
        case rel => exact ⟨k + 1, by omega, by go_num, hbq⟩
        case measure => simp [RowKit.intOf]; omega
      · have hlf : ek.ls = false := by cases h : ek.ls; rfl; exact absurd h hl
        have hk1 := one_known (st := s0) (bs := lists rs) (ls := bl) hlt HJ.out (hlk.trans hlf)
        have hk8 := full_some (st := s0) (bs := lists rs) (ls := bl) hlt (hlk.trans hlf)
        have hne : (hadK (fullH (lists rs) bl D) k).isEmpty = false := by
          cases h : hadK (fullH (lists rs) bl D) k with
          | nil => rw [h] at hk8; cases hk8
          | cons x xs => rfl
        rw [hk1, hne] at c4
        change World.cell? _ _ = some (Value.bool true) at c4
        rw [hlf] at c2
        have HKB := Lib.hid (show ∀ q, Calls Try.prog 21 #[.slice ry.A ry.l.length ry.c, .slice ra'.A ra'.l.length ra'.c] (w9.drewN q) fun e w' => e = .returned (.bool true) ∧ ∃ m, w' = (w9.drewN q).drewN m from fun q => by
          have h9 := keep_any_q ry.A ra'.A ry.c ra'.c _ _ ry.l ra'.l (w9.drewN q) (hry.below (below_dn (Below.refl _ _) q)) (hra.below (below_dn (Below.refl _ _) q)) (Nat.le_refl _) (Nat.le_refl _) (by rw [hyk, hk1, hk8]; decide)
          rw [decide_eq_true (by rw [hyk, hk1, hrk])] at h9
          exact h9)
        clear hk1 hk8 hne hl hlf hlk hyk hrk hbk hkl hE e1 e2 e3 e4 hry hra c0 c1
        go_wp2_with fail
        go_quiet (exact Calls.quiet_of (HKB.out _))
        have hbq := below_dn hbr nq
        generalize w9.drewN nq = wq at *
        go_wp2_with fail
        go_roundw
        case rel => exact ⟨k + 1, by omega, by go_num, hbq⟩
        case measure => simp [RowKit.intOf]; omega
    · have i4 : ¬ (k : Int) ≤ (D : Int) := by omega
      have HWK := Lib.hid (wk_zn w9 (HC.out.next hx9))
      clear t9
      go_wp2_with (go_at_call 18; (with_reducible refine HWK.out.mono ?_); rintro e w10 ⟨rfl, hb10⟩)
      go_ret
      exact ⟨rfl, bt hx9 hb10⟩
/-- The law. -/
theorem one_law (zones data stamp miss : Int) (A B : Option Addr) (n c m d : Nat) (rs : List Row) (bl : List Bool) (w : World) (hc : Czn w) (hn : rs.length = n) (hm : bl.length = m) (hA : SlV w w.heap.size A (vals rs)) (hR : Rws w w.heap.size rs) (hB : SlV w w.heap.size B (bools bl)) :
    Calls Try.prog 4 #[.int .i64 zones, .int .i64 data, .slice A n c, .slice B m d, .int .i64 stamp, .int .i64 miss] w fun e w' => e = .returned (.bool true) ∧ Below w.heap.size w w' := by
  by_cases h : n ≤ 10 ∧ m ≤ 10
  · exact zo_main zones data stamp miss A B n c m d rs bl w hc hn hm hA hR hB h.1 h.2
  · exact zo_long zones data stamp miss A B n c m d w h
end Go.Proofs.Ytajjmllolaajoaa.zon
