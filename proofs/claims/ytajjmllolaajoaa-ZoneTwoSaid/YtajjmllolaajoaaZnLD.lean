/-
  The law ZoneTwo, walked. Conditions: 'Czn'.
-/
import Derived.Test.YtajjmllolaajoaaZnQ
import Derived.Test.YtajjmllolaajoaaZnLA
namespace Go.Proofs.Ytajjmllolaajoaa.zon
open Go.RowKit Go.Lib
open Go.Proofs.Ytajjmllolaajoaa.gmt (Ok)
open Go.Proofs.Ytajjmllolaajoaa.anc (kal kst ks bm ka)
open Go.Proofs.Ytajjmllolaajoaa.tbl (Ent EntOk C1 c1_new G5 g5_new OwnE)
open Go.Proofs.Ytajjmllolaajoaa.par (zx zeros zeros_length zx_length)

set_option maxRecDepth 100000 in
set_option maxHeartbeats 8000000 in
theorem zt_long (zones data stamp : Int) (A B E : Option Addr) (n c m d p f : Nat) (w : World) (h : ¬ (n ≤ 10 ∧ m ≤ 10 ∧ p ≤ 10)) :
    Calls Try.prog 5 #[.int .i64 zones, .int .i64 data, .slice A n c, .slice B m d, .int .i64 stamp, .slice E p f] w fun e w' => e = .returned (.bool true) ∧ Below w.heap.size w w' := by
  have q : (10 : Int) < (n : Int) ∨ (¬ (10 : Int) < (n : Int) ∧ (10 : Int) < (m : Int)) ∨ (¬ (10 : Int) < (n : Int) ∧ ¬ (10 : Int) < (m : Int) ∧ (10 : Int) < (p : Int)) := by omega
  clear h
  have HSO := Lib.hid (gmt.some_any zones data 1 0 0 w)
  go_enter Try.func5, Try.ntmps5
  go_upto_region 2 with (go_at_call 24; (with_reducible refine HSO.out.mono ?_); rintro e w1 ⟨⟨z, d0, s, l, a, -, rfl⟩, hb1⟩)
  have hx := bt hb1 (anc.bl w1 (.cells #[.int .i64 z, .int .i64 d0, .int .i64 s, .int .i64 l, .int .i64 a] 23))
  rcases q with q | ⟨q, q2⟩ | ⟨q, q2, q3⟩
  all_goals
    go_wp2
    go_ret
    exact ⟨rfl, hx⟩
set_option maxRecDepth 100000 in
set_option maxHeartbeats 8000000 in
theorem zt_main (zones data stamp : Int) (A B E : Option Addr) (n c m d p f : Nat) (rs : List Row) (bl ms : List Bool) (w : World) (hc : Czn w) (hn : rs.length = n) (hm : bl.length = m) (hp : ms.length = p) (hA : SlV w w.heap.size A (vals rs)) (hR : Rws w w.heap.size rs) (hB : SlV w w.heap.size B (bools bl)) (hE : SlV w w.heap.size E (bools ms)) (hn10 : n ≤ 10) (hm10 : m ≤ 10) (hp10 : p ≤ 10) :
    Calls Try.prog 5 #[.int .i64 zones, .int .i64 data, .slice A n c, .slice B m d, .int .i64 stamp, .slice E p f] w fun e w' => e = .returned (.bool true) ∧ Below w.heap.size w w' := by
  have HC := Lib.hid hc
  have HN := Lib.hid hn
  have HM := Lib.hid hm
  have HA := Lib.hid hA
  have HR := Lib.hid hR
  have HB := Lib.hid hB
  have HE := Lib.hid hE
  have HP := Lib.hid hp
  clear hc hn hm hA hR hB hE hp
  have HSO := Lib.hid (gmt.some_any zones data 1 0 0 w)
  go_enter Try.func5, Try.ntmps5
  go_upto_region 2 with (go_at_call 24; (with_reducible refine HSO.out.mono ?_); rintro e w1 ⟨⟨z, d0, s, l, a, ho, rfl⟩, hb1⟩)
  obtain ⟨D, rfl⟩ : ∃ D : Nat, d0 = D := ⟨d0.toNat, by have := ho.2.1; omega⟩
  have hxG := anc.bl w1 (.cells #[.int .i64 z, .int .i64 D, .int .i64 s, .int .i64 l, .int .i64 a] 23)
  have GG := g5_new w1 z D s l a
  have l1 : w1.heap.size < (w1.alloc (.cells #[.int .i64 z, .int .i64 D, .int .i64 s, .int .i64 l, .int .i64 a] 23)).heap.size := by simp
  have hx := bt hb1 hxG
  have HO := Lib.hid ho
  have hD := ho.2.1
  have HD1 : Hid (1 ≤ D ∧ D ≤ 4) := Lib.hid (by omega)
  have lg1 := hb1.size
  clear hb1 hxG ho hD HSO
  generalize hg1 : w1.heap.size = g1 at *
  clear hg1
  generalize w1.alloc (.cells #[.int .i64 z, .int .i64 D, .int .i64 s, .int .i64 l, .int .i64 a] 23) = w3 at *
  have i1 : ¬ (10 : Int) < (n : Int) := by omega
  have i2 : ¬ (10 : Int) < (m : Int) := by omega
  have i3 : ¬ (10 : Int) < (p : Int) := by omega
  have HN10 := Lib.hid hn10
  clear hn10 hm10 hp10
  have hs := gmt.wrap_mod stamp 100000 (by omega)
  generalize hS0 : (IntKind.u64.wrap stamp).tmod 100000 = s0 at *
  have HS : Hid (0 ≤ s0 ∧ s0 ≤ 4294967295) := Lib.hid (by omega)
  have hDb : D ≤ 4 := HD1.out.2
  obtain ⟨g0, g1', g2, g3, g4⟩ := id GG
  have HFU := Lib.hid (full_z z s l a s0 D A B n c m d rs bl w3 HO.out HN.out HM.out (by have := HN10.out; omega) (HA.out.next hx) (HR.out.next hx) (HB.out.next hx))
  go_upto_region 5 with (go_at_call 25; (with_reducible refine HFU.out.mono ?_); rintro e w4 ⟨⟨t, ga, ca, ra, rfl, hte0, hto, hor, hga1, hga2, hcap⟩, hb4⟩; have HTE := Lib.hid hte0; clear hte0)
  clear hS0 hs i1 i2 i3
  have hxT := anc.bl w4 (.cells #[.slice t.A (D + 1 : Nat) t.c] 26)
  have TT := c1_new w4 (.slice t.A (D + 1 : Nat) t.c) 26
  have lT : w4.heap.size < (w4.alloc (.cells #[.slice t.A (D + 1 : Nat) t.c] 26)).heap.size := by simp
  have b4 := bt hb4 hxT
  have HTI := Lib.hid (tbl.TV.Own.inn (tbl.TV.Own.below hto hxT))
  have hor2 := hor.below hxT
  have HAI := Lib.hid (rows_in hor2)
  have HAL := Lib.hid hor2.2.1
  have HALn := Lib.hid (hor2.len.trans (fullH_length _ _ _))
  replace GG := GG.keep b4 l1
  replace l1 := Nat.lt_of_lt_of_le l1 b4.size
  replace hx := bt hx b4
  clear b4 hb4 hxT hto hor hor2 g0 g1' g2 g3 g4 HFU hga1 hga2 hcap
  generalize hgT : w4.heap.size = gT at *
  clear hgT
  generalize w4.alloc (.cells #[.slice t.A (D + 1 : Nat) t.c] 26) = w5 at *
  have HTW := Lib.hid (twins_any (some ⟨ga, 0, none⟩) ca (D + 1) ra w5 HALn.out HAI.out.h HAI.out.r (by have := HD1.out; omega) (fun r hr => by
    have h9 : r.l ∈ lists ra := List.mem_map_of_mem hr
    rw [HAL.out] at h9
    have := (full_had (lists rs) bl D).2 r.l h9
    rcases this with h | h
    · rw [h]; exact Nat.zero_le _
    · omega))
  go_upto_region 6 with (go_at_call 11; (with_reducible refine HTW.out.mono ?_); rintro e w6 ⟨⟨v, rh, rfl, hrh⟩, hb6⟩)
  rw [HAL.out] at hrh
  obtain ⟨gh, ch, hv, hch1, hch2, hgh1, hgh2⟩ := hrh.at (fullH_length _ _ _) (by omega)
  subst hv
  replace GG := GG.keep hb6 l1
  replace TT := TT.keep hb6 lT
  have HTI6 := Lib.hid (HTI.out.below hb6)
  have HAI6 := Lib.hid (HAI.out.below hb6)
  have hx6 := bt hx hb6
  have lg : g1 < gh := Nat.lt_of_lt_of_le l1 hgh1
  have lTg : gT < gh := Nat.lt_of_lt_of_le lT hgh1
  have lw : w.heap.size ≤ gh := Nat.le_trans lg1 (Nat.le_of_lt lg)
  have HLH := Lib.hid hgh2
  have HB0 := Lib.hid hgh1
  have HRH := Lib.hid hrh
  clear hrh hb6 HTW hch1 hch2 hx hgh1 hgh2 HTI HAI
  generalize w5.heap.size = B0 at *
  go_upto_region 8 with fail
  go_loopw [17, 18] (fun nn i w' => ∃ (k : Nat) (rows : List Row), k ≤ D + 1 ∧ k ≤ p ∧ nn = .int .i64 (cnt ms (fullH (lists rs) bl D) k : Nat) ∧ i = .int .i64 k ∧ OwnRows w' B0 (.slice (some ⟨gh, 0, none⟩) (D + 1 : Nat) ch) rows (left ms (fullH (lists rs) bl D) k) ∧ Below gh w6 w') (fun _ i _ => D + 1 - (RowKit.intOf i).toNat)
  case atStart => exact ⟨0, rh, by omega, Nat.zero_le _, rfl, rfl, HRH.out, Below.refl _ _⟩
  case round =>
    obtain ⟨w7, rfl⟩ : ∃ q, q = wr := ⟨wr, rfl⟩
    obtain ⟨k, rows, hk, hkp, rfl, rfl, hor, hbr⟩ := hrel
    have G7 := GG.keep hbr lg
    have T7 := TT.keep hbr lTg
    have hx7 := hx6.trans (hbr.mono lw)
    have lgh7 : gh < w7.heap.size := (World.ownsRow.lt hor.1 gh rfl).2
    have hll : (left ms (fullH (lists rs) bl D) k).length = D + 1 := (left_length k).trans (fullH_length _ _ _)
    have HOR := Lib.hid hor
    obtain ⟨Nc, hNc⟩ : ∃ Nc : Nat, Nc = cnt ms (fullH (lists rs) bl D) k := ⟨_, rfl⟩
    have hNk : Nc ≤ k := by rw [hNc]; exact cnt_le k
    rw [← hNc]
    have HNc := Lib.hid hNc
    clear hor hNc
    obtain ⟨g0, g1', g2, g3, g4⟩ := id G7
    by_cases hlt : k < p ∧ k ≤ D
    · obtain ⟨h1, h2⟩ := hlt
      have i1 : (k : Int) < (p : Int) := by omega
      have i2 : (k : Int) ≤ (D : Int) := by omega
      have hNb : Nc ≤ 4 := by omega
      obtain ⟨b1, of1, hE1, hb1, c1, e1⟩ := bool_at (HE.out.below hx7) (show k < ms.length by rw [HP.out]; exact h1)
      have hin := rows_in HOR.out
      obtain ⟨b2, of2, rk, hG2, hb2, c2, -, -, -, e2⟩ := row_at hin.h hin.r (show k < rows.length by rw [HOR.out.len, hll]; omega)
      simp only [Option.some.injEq, Addr.mk.injEq, and_true] at hG2
      obtain ⟨hg2, hof2⟩ := hG2
      subst hg2 hof2 hE1
      rw [Nat.zero_add] at c2
      have hrk : rk.l = hadK (fullH (lists rs) bl D) k := by
        have h9 := hadK_get e2
        rw [HOR.out.2.1] at h9
        rw [← h9, left_same (by rw [fullH_length]; omega)]
      have hil : isLost ms k = ms[k]'(by rw [HP.out]; exact h1) := by unfold isLost; rw [e1]; rfl
      obtain ⟨mb, hmb⟩ : ∃ mb, mb = ms[k]'(by rw [HP.out]; exact h1) := ⟨_, rfl⟩
      rw [← hmb] at c1 hil
      have j1 : (k : Int) < ((D + 1 : Nat) : Int) := by omega
      have j0 : (0 : Int) ≤ (k : Int) := by omega
      clear e1 e2 hin hmb
      by_cases hmi : mis ms (fullH (lists rs) bl D) k
      case neg =>
        have HLE : Hid (left ms (fullH (lists rs) bl D) (k + 1) = left ms (fullH (lists rs) bl D) k ∧ cnt ms (fullH (lists rs) bl D) (k + 1) = Nc) := Lib.hid ⟨by rw [left, if_neg hmi], by rw [cnt, if_neg hmi, HNc.out]; rfl⟩
        have q : mb = false ∨ mb = true ∧ rk.l = [] := by
          cases mb
          · exact .inl rfl
          · refine .inr ⟨rfl, ?_⟩
            by_cases h0 : rk.l = []
            · exact h0
            · exact absurd ⟨hil, by rw [← hrk]; exact h0⟩ hmi
        clear hmi hil
        rcases q with rfl | ⟨rfl, q⟩
        · clear hrk
          go_wp2_with fail
          go_roundw
          case rel => exact ⟨k + 1, rows, by omega, by omega, by rw [HLE.out.2], by go_num, by rw [HLE.out.1]; exact HOR.out, hbr⟩
          case measure => simp [RowKit.intOf]; omega
        · rw [q, List.length_nil] at c2
          clear hrk q
          go_wp2_with fail
          go_roundw
          case rel => exact ⟨k + 1, rows, by omega, by omega, by rw [HLE.out.2], by go_num, by rw [HLE.out.1]; exact HOR.out, hbr⟩
          case measure => simp [RowKit.intOf]; omega
      case pos =>
        have HLE : Hid (left ms (fullH (lists rs) bl D) (k + 1) = (left ms (fullH (lists rs) bl D) k).set k [] ∧ cnt ms (fullH (lists rs) bl D) (k + 1) = Nc + 1) := Lib.hid ⟨by rw [left, if_pos hmi], by rw [cnt, if_pos hmi, HNc.out]⟩
        obtain rfl : mb = true := by rw [← hil]; exact hmi.1
        have q : (0 : Int) < (rk.l.length : Int) := by have := List.length_pos_iff.2 hmi.2; rw [← hrk] at this; omega
        obtain ⟨-, fz⟩ := rows_frozen HOR.out hll k (by omega)
        obtain ⟨hor8, hg8⟩ := rows_nil HOR.out hll k
        have HO8 := Lib.hid hor8
        have hb8 : Below gh w6 (w7.setCell ⟨gh, k, none⟩ (.slice none 0 0)) := hbr.setCell (p := ⟨gh, k, none⟩) (Nat.le_refl gh) _
        clear hrk hmi hil hor8 hg8
        go_wp2_with fail
        go_roundw
        case rel => exact ⟨k + 1, rows.set k ⟨none, 0, []⟩, by omega, by omega, by rw [HLE.out.2]; go_num, by go_num, by rw [HLE.out.1]; exact HO8.out, hb8⟩
        case measure => simp [RowKit.intOf]; omega
    · have q : ¬ (k : Int) < (p : Int) ∨ (k : Int) < (p : Int) ∧ ¬ (k : Int) ≤ (D : Int) := by omega
      clear hlt
      have hK : k ≤ D + 1 := hk
      have HK := Lib.hid hK
      have HTI7 := Lib.hid ((HTI6.out.below (hbr.mono HB0.out)).more (Nat.le_trans HB0.out (Nat.le_of_lt lgh7)))
      have HAI7 := Lib.hid ((HAI6.out.below (hbr.mono HB0.out)).more (Nat.le_trans HB0.out (Nat.le_of_lt lgh7)))
      have HRn : Hid (rows.length = D + 1) := Lib.hid (by rw [HOR.out.len, hll])
      have HRL := Lib.hid HOR.out.2.1
      have HRI := Lib.hid (rows_in HOR.out)
      have HHK := Lib.hid (left_had (ms := ms) (full_had (lists rs) bl D) k)
      have HAL7 := Lib.hid (HC.out.all z s l a D t (D + 1) ⟨some ⟨gh, 0, none⟩, ch, rows⟩ (D + 1) w7 hx7 HO.out HTI7.out (by rw [HTE.out, fullE_length]) (by rw [HTE.out]; exact full_good _ _ _ _ HS.out) HRI.out HRn.out (by show HadOk _ (lists rows); rw [HRL.out]; exact HHK.out))
      have l17 : g1 < w7.heap.size := Nat.lt_trans lg lgh7
      have lT7 : gT < w7.heap.size := Nat.lt_trans lTg lgh7
      have t0 := T7.c0
      have hNk2 : Nc ≤ 5 := by omega
      clear hk hkp hll hNk HOR hK
      have ha : True := trivial
      rcases q with q | ⟨q, q2⟩
      all_goals
        go_upto_region 14 with (go_at_call 13; (with_reducible refine HAL7.out.mono ?_); rintro e w8 ⟨⟨Y, yc, yr, K, kc, rfl, hyl, hyi, hks⟩, hb8⟩)
        clear q ha
        try clear q2
        replace hyl : lists yr = knowns (D + 1) (fullE s0 (lists rs) bl D) (left ms (fullH (lists rs) bl D) k) := by
          rw [hyl, HTE.out]
          show knowns _ _ (lists rows) = _
          rw [HRL.out]
        have HKS : Hid (SlV w8 w8.heap.size K (bools (kn (knowns (D + 1) (fullE s0 (lists rs) bl D) (left ms (fullH (lists rs) bl D) k))))) := by
          rw [HTE.out] at hks
          change SlV w8 w8.heap.size K (bools (kn (knowns (D + 1) (fullE s0 (lists rs) bl D) (lists rows)))) at hks
          rw [HRL.out] at hks
          exact Lib.hid hks
        have HYL := Lib.hid hyl
        have HYI := Lib.hid hyi
        have G8 := G7.keep hb8 l17
        have T8 := T7.keep hb8 lT7
        have HTI8 := Lib.hid (HTI7.out.next hb8)
        have HAI8 := Lib.hid (HAI7.out.next hb8)
        have HRI8 := Lib.hid (HRI.out.next hb8)
        have hx8 := bt hx7 hb8
        have l18 := Nat.lt_of_lt_of_le l17 hb8.size
        have lT8 := Nat.lt_of_lt_of_le lT7 hb8.size
        clear hyl hyi hks hb8 g0 g1' g2 g3 g4 t0 G7 T7 HTI7 HAI7 HAL7 HRI l17 lT7
        have q9 : (((D + 1 : Nat) : Int) != (D : Int) + 1) = false := by rw [show ((D + 1 : Nat) : Int) = (D : Int) + 1 by omega]; exact bne_self_eq_false _
        obtain ⟨g0, g1', g2, g3, g4⟩ := id G8
        go_upto_region 17 with fail
        clear g0 g1' g2 g3 g4 q9
        go_loopw [22, 23] (fun i b w' => ∃ (j : Nat), j ≤ D + 1 ∧ i = .int .i64 j ∧ Below w8.heap.size w8 w') (fun i _ _ => D + 1 - (RowKit.intOf i).toNat)
        case atStart => exact ⟨0, by omega, rfl, Below.refl _ _⟩
        case round =>
          obtain ⟨w9, rfl⟩ : ∃ q, q = wr := ⟨wr, rfl⟩
          obtain ⟨j, hj, rfl, hbr2⟩ := hrel
          have t9 := (T8.keep hbr2 lT8).c0
          have hx9 := bt hx8 hbr2
          obtain ⟨g0, g1', g2, g3, g4⟩ := id (G8.keep hbr2 l18)
          by_cases hlt : j ≤ D
          · have i4 : (j : Int) ≤ (D : Int) := by omega
            have hkl : j < (knowns (D + 1) (fullE s0 (lists rs) bl D) (left ms (fullH (lists rs) bl D) k)).length := by rw [knowns_length]; omega
            obtain ⟨b1, of1, ek, hEE, hb1, c0, c1, c2, -, e1⟩ := tbl.ent_at (HTI8.out.next hbr2).h (show j < t.es.length by rw [HTE.out, fullE_length]; omega)
            obtain ⟨b2, of2, ry, hY, hb2, r2, hry, -, -, e2⟩ := row_at (HYI.out.next hbr2).h (HYI.out.next hbr2).r (show j < yr.length by have h9 := congrArg List.length HYL.out; rw [lists_length, knowns_length] at h9; omega)
            obtain ⟨b3, of3, ra', hRA, hb3, r3, hra, -, -, e3⟩ := row_at (HAI8.out.next hbr2).h (HAI8.out.next hbr2).r (show j < ra.length by rw [HALn.out]; omega)
            obtain ⟨b5, of5, rh', hRH, hb5, r5, -, -, -, e5⟩ := row_at (HRI8.out.next hbr2).h (HRI8.out.next hbr2).r (show j < rows.length by rw [HRn.out]; omega)
            obtain ⟨b4, of4, hK, hb4, c4, e4⟩ := bool_at (HKS.out.next hbr2) (show j < (kn (knowns (D + 1) (fullE s0 (lists rs) bl D) (left ms (fullH (lists rs) bl D) k))).length by rw [kn_length]; exact hkl)
            have hlk : lostK (fullE s0 (lists rs) bl D) j = ek.ls := by rw [HTE.out] at e1; exact lostK_get e1
            have hyk : ry.l = known (D + 1) (fullE s0 (lists rs) bl D) (left ms (fullH (lists rs) bl D) k) j := by
              rw [HYL.out, knowns_get _ _ (by omega)] at e2
              exact (Option.some.inj e2).symm
            have hrk : ra'.l = hadK (fullH (lists rs) bl D) j := by
              rw [HAL.out] at e3
              exact (hadK_get e3).symm
            have hhk : rh'.l = hadK (left ms (fullH (lists rs) bl D) k) j := by
              rw [HRL.out] at e5
              exact (hadK_get e5).symm
            have hbk : (kn (knowns (D + 1) (fullE s0 (lists rs) bl D) (left ms (fullH (lists rs) bl D) k)))[j]'(by rw [kn_length]; exact hkl) = !(ry.l).isEmpty := by
              have h9 := kn_get (knowns_get (n := D + 1) (fullE s0 (lists rs) bl D) (left ms (fullH (lists rs) bl D) k) (show j < D + 1 by omega))
              rw [e4] at h9
              rw [hyk]
              exact Option.some.inj h9
            rw [hbk] at c4
            rw [hEE] at t9
            subst hY hK
            simp only [Option.some.injEq, Addr.mk.injEq, and_true] at hRA hRH
            obtain ⟨hga, hof3⟩ := hRA
            obtain ⟨hgh, hof5⟩ := hRH
            subst hga hof3 hgh hof5
            rw [Nat.zero_add] at r3 r5
            have j1 : (j : Int) < ((D + 1 : Nat) : Int) := by omega
            have j0 : (0 : Int) ≤ (j : Int) := by omega
            by_cases hl : ek.ls = true
            · have hk0 : ry.l = [] := hyk.trans (known_lost (hlk.trans hl))
              have c6 : w9.cell? ⟨b4, of4 + j, none⟩ = some (.bool false) := by rw [c4, hk0]; rfl
              rw [hl] at c2
              clear hk0 hl hlk hyk hrk hbk hkl hEE e1 e2 e3 e4 e5 hry hra c0 c1 c4 hhk
              go_upto_region 19 with fail
              go_quiet (fail)
              revert nq; intro q1
              go_upto_region 22 with fail
              go_quiet (fail)
              have hbq := below_dn (below_dn hbr2 q1) nq
              generalize (w9.drewN q1).drewN nq = wq at *
              go_wp2_with fail
              go_roundw
              case rel => exact ⟨j + 1, by omega, by go_num, hbq⟩
              case measure => simp [RowKit.intOf]; omega
            · have hlf : ek.ls = false := by cases h : ek.ls; rfl; exact absurd h hl
              have h2k := two_known (ms := ms) (st := s0) (bs := lists rs) (ls := bl) HK.out hlt (hlk.trans hlf)
              have h8 := full_some (st := s0) (bs := lists rs) (ls := bl) hlt (hlk.trans hlf)
              rw [hlf] at c2
              by_cases hgap : hadK (left ms (fullH (lists rs) bl D) k) j = [] ∧ 2 ≤ cnt ms (fullH (lists rs) bl D) k
              · rw [if_pos hgap] at h2k
                have c6 : w9.cell? ⟨b4, of4 + j, none⟩ = some (.bool false) := by rw [c4, hyk, h2k]; rfl
                have hrl : rh'.l = [] := hhk.trans hgap.1
                rw [hrl, List.length_nil] at r5
                have hn2 : ¬ (Nc : Int) < 2 := by have := hgap.2; rw [← HNc.out] at this; omega
                clear hl hlf h2k h8 hgap hrl hlk hyk hrk hbk hkl hEE e1 e2 e3 e4 e5 hry hra c0 c1 c4 hhk
                go_upto_region 19 with fail
                go_quiet (fail)
                revert nq; intro q1
                go_upto_region 22 with fail
                go_quiet (fail)
                have hbq := below_dn (below_dn hbr2 q1) nq
                generalize (w9.drewN q1).drewN nq = wq at *
                go_wp2_with fail
                go_roundw
                case rel => exact ⟨j + 1, by omega, by go_num, hbq⟩
                case measure => simp [RowKit.intOf]; omega
              · rw [if_neg hgap] at h2k
                have hne : ry.l ≠ [] := fun h0 => by
                  have h9 := h2k
                  rw [← hyk, h0] at h9
                  rw [← h9] at h8
                  cases h8
                have c6 : w9.cell? ⟨b4, of4 + j, none⟩ = some (.bool true) := by
                  rw [c4]
                  cases h : ry.l with
                  | nil => exact absurd h hne
                  | cons _ _ => rfl
                have hyr : ry.l = ra'.l := by rw [hyk, h2k, hrk]
                have HKB := Lib.hid (show ∀ q, Calls Try.prog 21 #[.slice ry.A ry.l.length ry.c, .slice ra'.A ra'.l.length ra'.c] (w9.drewN q) fun e w' => e = .returned (.bool true) ∧ ∃ m, w' = (w9.drewN q).drewN m from fun q => by
                  have h9 := keep_any_q ry.A ra'.A ry.c ra'.c _ _ ry.l ra'.l (w9.drewN q) (hry.below (below_dn (Below.refl _ _) q)) (hra.below (below_dn (Below.refl _ _) q)) (Nat.le_refl _) (Nat.le_refl _) (by rw [hyr, hrk, h8]; decide)
                  rw [decide_eq_true hyr] at h9
                  exact h9)
                by_cases hr0 : rh'.l = []
                · rw [hr0, List.length_nil] at r5
                  have hn2 : (Nc : Int) < 2 := by
                    have h9 : ¬ 2 ≤ Nc := fun h => hgap ⟨hhk.symm.trans hr0, by rw [← HNc.out]; exact h⟩
                    omega
                  clear hl hlf h2k h8 hgap hr0 hne hyr hlk hyk hrk hbk hkl hEE e1 e2 e3 e4 e5 hry hra c0 c1 c4 hhk
                  go_upto_region 19 with fail
                  go_quiet (exact Calls.quiet_of (HKB.out _))
                  revert nq; intro q1
                  go_upto_region 22 with fail
                  go_quiet (fail)
                  have hbq := below_dn (below_dn hbr2 q1) nq
                  generalize (w9.drewN q1).drewN nq = wq at *
                  go_wp2_with fail
                  go_roundw
                  case rel => exact ⟨j + 1, by omega, by go_num, hbq⟩
                  case measure => simp [RowKit.intOf]; omega
                · have q5 : ((rh'.l.length : Int) == 0) = false := beq_eq_false_iff_ne.2 fun h => hr0 (List.eq_nil_of_length_eq_zero (by omega))
                  clear hl hlf h2k h8 hgap hr0 hne hyr hlk hyk hrk hbk hkl hEE e1 e2 e3 e4 e5 hry hra c0 c1 c4 hhk
                  go_upto_region 19 with fail
                  go_quiet (exact Calls.quiet_of (HKB.out _))
                  revert nq; intro q1
                  go_upto_region 22 with fail
                  go_quiet (fail)
                  have hbq := below_dn (below_dn hbr2 q1) nq
                  generalize (w9.drewN q1).drewN nq = wq at *
                  go_wp2_with fail
                  go_roundw
                  case rel => exact ⟨j + 1, by omega, by go_num, hbq⟩
                  case measure => simp [RowKit.intOf]; omega
          · have i4 : ¬ (j : Int) ≤ (D : Int) := by omega
            have HWK := Lib.hid (wk_zn w9 (HC.out.next hx9))
            clear t9
            go_wp2_with (go_at_call 18; (with_reducible refine HWK.out.mono ?_); rintro e w10 ⟨rfl, hb10⟩)
            go_ret
            exact ⟨rfl, bt hx9 hb10⟩
/-- The law. -/
theorem two_law (zones data stamp : Int) (A B E : Option Addr) (n c m d p f : Nat) (rs : List Row) (bl ms : List Bool) (w : World) (hc : Czn w) (hn : rs.length = n) (hm : bl.length = m) (hp : ms.length = p) (hA : SlV w w.heap.size A (vals rs)) (hR : Rws w w.heap.size rs) (hB : SlV w w.heap.size B (bools bl)) (hE : SlV w w.heap.size E (bools ms)) :
    Calls Try.prog 5 #[.int .i64 zones, .int .i64 data, .slice A n c, .slice B m d, .int .i64 stamp, .slice E p f] w fun e w' => e = .returned (.bool true) ∧ Below w.heap.size w w' := by
  by_cases h : n ≤ 10 ∧ m ≤ 10 ∧ p ≤ 10
  · exact zt_main zones data stamp A B E n c m d p f rs bl ms w hc hn hm hp hA hR hB hE h.1 h.2.1 h.2.2
  · exact zt_long zones data stamp A B E n c m d p f w h
end Go.Proofs.Ytajjmllolaajoaa.zon
