/-
  The law StripeKnown, walked. Conditions: 'Cst'.
-/
import Derived.Test.YthdahdopejapmaaStQ
import Derived.Test.YthdahdopejapmaaDkQ
import Derived.Deep.RegionHeld3
import Derived.Test.YthdahdopejapmaaStT
import Derived.Test.YthdahdopejapmaaStK
import Derived.Test.YthdahdopejapmaaZnY
import Derived.Deep.QuietTactic
import Derived.BigQuiet
import Derived.Deep.CutRange
import Derived.Deep.CutBlock
import Derived.IntWalk
namespace Go.Proofs.Ythdahdopejapmaa.stp
open Go.RowKit Go.Lib
open Go.Proofs.Ythdahdopejapmaa.gmt (Ok)
open Go.Proofs.Ythdahdopejapmaa.anc (bl kal kst ks bm ka)
open Go.Proofs.Ythdahdopejapmaa.tbl (Ent EntOk C1 c1_new G5 g5_new OwnE)
open Go.Proofs.Ythdahdopejapmaa.par (zx zeros zeros_length zx_length)
open Go.Proofs.Ythdahdopejapmaa.zon
open Go.Proofs.Ythdahdopejapmaa.img
/-- What is missed: the first j looked at. -/
def lft (ms : List Bool) (hs : List (List UInt8)) : Nat → List (List UInt8)
  | 0 => hs
  | j + 1 => if isLost ms j = true then (lft ms hs j).set j [] else lft ms hs j
theorem lft_length (ms : List Bool) (hs : List (List UInt8)) : ∀ j, (lft ms hs j).length = hs.length
  | 0 => rfl
  | j + 1 => by
    rw [lft]
    split
    · rw [List.length_set]; exact lft_length ms hs j
    · exact lft_length ms hs j
theorem lft_had {n : Nat} {ms : List Bool} {hs : List (List UInt8)} (h : HadOk n hs) : ∀ j, HadOk n (lft ms hs j)
  | 0 => h
  | j + 1 => by
    rw [lft]
    split
    · exact had_set (lft_had h j) j
    · exact lft_had h j
theorem lft_missed {ms : List Bool} {hs : List (List UInt8)} : ∀ {j : Nat}, j ≤ hs.length → Missed hs (lft ms hs j)
  | 0, _ => missed_refl hs
  | j + 1, hj => by
    rw [lft]
    split
    · exact missed_set (lft_missed (by omega)) (by rw [lft_length]; omega)
    · exact lft_missed (by omega)
set_option maxRecDepth 100000 in
set_option maxHeartbeats 16000000 in
theorem kn_law (da st mi : Int) (bA : Option Addr) (bc : Nat) (br : List Row) (n : Nat) (lA : Option Addr) (lc : Nat) (ll : List Bool) (p1 : Nat) (eA : Option Addr) (ec : Nat) (ms : List Bool) (p2 : Nat) (aA : Option Addr) (ac : Nat) (ats : List Int) (m : Nat) (yA : Option Addr) (yc : Nat) (yr : List Row) (k : Nat) (w : World) (hc : Cst w) (hn : br.length = n) (hb : LV.In w w.heap.size ⟨bA, bc, br⟩) (hl : ll.length = p1) (hlA : SlV w w.heap.size lA (bools ll)) (he : ms.length = p2) (heA : SlV w w.heap.size eA (bools ms)) (hm : ats.length = m) (ha : NV.In w w.heap.size ⟨aA, ac, ats⟩) (hk : yr.length = k) (hy : LV.In w w.heap.size ⟨yA, yc, yr⟩) :
    Calls Try.prog 4 #[.int .i64 da, .slice bA n bc, .slice lA p1 lc, .slice eA p2 ec, .slice aA m ac, .slice yA k yc, .int .i64 st, .int .i64 mi] w fun e w' => e = .returned (.bool true) ∧ Below w.heap.size w w' := by
  have HC := Lib.hid hc
  have HN := Lib.hid hn
  have HB := Lib.hid hb
  have HL := Lib.hid hl
  have HLA := Lib.hid hlA
  have HE := Lib.hid he
  have HEA := Lib.hid heA
  have HM := Lib.hid hm
  have HA := Lib.hid ha
  have HK := Lib.hid hk
  have HY := Lib.hid hy
  clear hc hn hb hl hlA he heA hm ha hk hy
  have HSO := Lib.hid (gmt.some_any 1 da 1 0 0 w)
  have hs := gmt.wrap_mod st 100000 (by omega)
  generalize hS0 : (IntKind.u64.wrap st).tmod 100000 = s0 at *
  go_enter Try.func4, Try.ntmps4
  go_upto_region 2 with (go_at_call 25; (with_reducible refine HSO.out.mono ?_); rintro e w1 ⟨⟨z, d0, s, l, a, ho, rfl⟩, hb1⟩)
  obtain ⟨D, rfl⟩ : ∃ D : Nat, d0 = D := ⟨d0.toNat, by have := ho.2.1; omega⟩
  have hxG := anc.bl w1 (.cells #[.int .i64 z, .int .i64 D, .int .i64 s, .int .i64 l, .int .i64 a] 23)
  have GG := g5_new w1 z D s l a
  have l1 : w1.heap.size < (w1.alloc (.cells #[.int .i64 z, .int .i64 D, .int .i64 s, .int .i64 l, .int .i64 a] 23)).heap.size := by simp
  have hx := bt hb1 hxG
  have HO := Lib.hid ho
  have hD := ho.2.1
  have HD1 : Hid (1 ≤ D ∧ D ≤ 4) := Lib.hid (by omega)
  have lg1 := hb1.size
  clear hb1 hxG ho hD HSO
  generalize hg1 : w1.heap.size = g1 at *
  clear hg1
  generalize w1.alloc (.cells #[.int .i64 z, .int .i64 D, .int .i64 s, .int .i64 l, .int .i64 a] 23) = w3 at *
  obtain ⟨g0, g1', g2, g3, g4⟩ := id GG
  by_cases h1 : 10 < n
  · have i1 : (10 : Int) < (n : Int) := by omega
    clear h1 hS0 hs
    go_wp2_with fail
    go_ret
    exact ⟨rfl, hx⟩
  have i1 : ¬ (10 : Int) < (n : Int) := by omega
  by_cases h2 : 10 < p1
  · have i2 : (10 : Int) < (p1 : Int) := by omega
    clear h1 h2 hS0 hs
    go_wp2_with fail
    go_ret
    exact ⟨rfl, hx⟩
  have i2 : ¬ (10 : Int) < (p1 : Int) := by omega
  by_cases h3 : 10 < p2
  · have i3 : (10 : Int) < (p2 : Int) := by omega
    clear h1 h2 h3 hS0 hs
    go_wp2_with fail
    go_ret
    exact ⟨rfl, hx⟩
  have i3 : ¬ (10 : Int) < (p2 : Int) := by omega
  by_cases h4 : 10 < k
  · have i4 : (10 : Int) < (k : Int) := by omega
    clear h1 h2 h3 h4 hS0 hs
    go_wp2_with fail
    go_ret
    exact ⟨rfl, hx⟩
  have i4 : ¬ (10 : Int) < (k : Int) := by omega
  have hm9 : m ≤ 9223372036854775807 := by have := HA.out.k; rw [show (NV.mk aA ac ats).l.length = m from HM.out] at this; have h2 := this.2; unfold maxLen at h2; have h3 := this.1; omega
  by_cases hat : AtsOk (D : Int) ats
  case neg =>
    have HAT := Lib.hid (ats_c false aA m ac ats D w3 HM.out hm9 (HA.out.h.next hx) (by have := HD1.out; omega) (iff_of_false Bool.false_ne_true hat))
    clear h1 h2 h3 h4 hm9 hat hS0 hs
    go_wp2_with (go_at_call 18; (with_reducible refine HAT.out.mono ?_); rintro e w4 ⟨rfl, hb4⟩)
    go_ret
    exact ⟨rfl, bt hx hb4⟩
  have HAT := Lib.hid (ats_c true aA m ac ats D w3 HM.out hm9 (HA.out.h.next hx) (by have := HD1.out; omega) (iff_of_true rfl hat))
  have HATS := Lib.hid hat
  by_cases hkm : k = m
  case neg =>
    have q1 : ((k : Int) != (m : Int)) = true := bne_iff_ne.2 (by omega)
    clear h1 h2 h3 h4 hm9 hat hkm hS0 hs
    go_wp2_with (go_at_call 18; (with_reducible refine HAT.out.mono ?_); rintro e w4 ⟨rfl, hb4⟩)
    go_ret
    exact ⟨rfl, bt hx hb4⟩
  subst hkm
  have q1 : ((k : Int) != (k : Int)) = false := bne_self_eq_false _
  by_cases h8 : ∀ y ∈ lists yr, y.length = 8
  case neg =>
    have HBR := Lib.hid (show ∀ W, Below w3.heap.size w3 W → Calls Try.prog 19 #[.slice yA k yc] W fun e w' => e = .returned (.bool false) ∧ Below W.heap.size W w' from fun W hW => blocks_c false yA k yc yr W HK.out (by omega) ((HY.out.next hx).next hW).h ((HY.out.next hx).next hW).r (iff_of_false Bool.false_ne_true h8))
    clear h1 h2 h3 h4 hm9 hat h8 hS0 hs
    go_wp2_with (first
      | (go_at_call 18; (with_reducible refine HAT.out.mono ?_); rintro e w4 ⟨rfl, hb4⟩)
      | (go_at_call 19; (with_reducible refine (HBR.out _ hb4).mono ?_); rintro e w5 ⟨rfl, hb5⟩))
    go_ret
    exact ⟨rfl, bt hx (bt hb4 hb5)⟩
  have HBR := Lib.hid (show ∀ W, Below w3.heap.size w3 W → Calls Try.prog 19 #[.slice yA k yc] W fun e w' => e = .returned (.bool true) ∧ Below W.heap.size W w' from fun W hW => blocks_c true yA k yc yr W HK.out (by omega) ((HY.out.next hx).next hW).h ((HY.out.next hx).next hW).r (iff_of_true rfl h8))
  have H8 := Lib.hid h8
  have HN10 := Lib.hid (show n ≤ 10 ∧ k ≤ 10 ∧ p2 ≤ 10 by omega)
  clear h1 h2 h3 h4 hm9 hat h8
  go_upto_region 4 with (first
    | (go_at_call 18; (with_reducible refine HAT.out.mono ?_); rintro e w4 ⟨rfl, hb4⟩)
    | (go_at_call 19; (with_reducible refine (HBR.out _ hb4).mono ?_); rintro e w5 ⟨rfl, hb5⟩))
  have hb35 := bt hb4 hb5
  replace GG := GG.keep hb35 l1
  replace l1 := Nat.lt_of_lt_of_le l1 hb35.size
  replace hx := bt hx hb35
  clear hb35 hb4 hb5 HAT HBR g0 g1' g2 g3 g4 q1 i1 i2 i3 i4
  obtain ⟨g0, g1', g2, g3, g4⟩ := id GG
  go_upto_region 5 with fail
  clear hS0
  have hs1 : 1 ≤ 1 + s0 ∧ 1 + s0 ≤ 100000 := by omega
  generalize 1 + s0 = S at *
  have n1 : IntKind.i64.wrap (S - 1) = S - 1 := gmt.w6 _ (by omega) (by omega)
  have HS := Lib.hid (show 0 ≤ S - 1 ∧ S - 1 ≤ 4294967295 by omega)
  have HFU := Lib.hid (show ∀ W, Below w5.heap.size w5 W → Calls Try.prog 26 #[.agg #[.int .i64 z, .int .i64 D, .int .i64 s, .int .i64 l, .int .i64 a], .slice bA n bc, .slice lA p1 lc, .int .i64 (S - 1)] W fun e w' => FullZ W.heap.size D (S - 1) (lists br) ll e w' ∧ Below W.heap.size W w' from fun W hW => full_z z s l a (S - 1) D bA lA n bc p1 lc br ll W HO.out HN.out HL.out (by have := HN10.out; omega) ((HB.out.next hx).next hW).h ((HB.out.next hx).next hW).r ((HLA.out.next hx).next hW))
  clear hs
  go_upto_region 6 with (go_at_call 26; (with_reducible refine (HFU.out _ (Below.refl _ _)).mono ?_); rintro e w6 ⟨⟨t, gh, hc, rows, rfl, hte, hto, hor, hgh1, hgh2, hcap⟩, hb6⟩; have HTE := Lib.hid hte; clear hte)
  clear n1
  have hxT := anc.bl w6 (.cells #[.slice t.A (D + 1 : Nat) t.c] 26)
  have TT := c1_new w6 (.slice t.A (D + 1 : Nat) t.c) 26
  have lT : w6.heap.size < (w6.alloc (.cells #[.slice t.A (D + 1 : Nat) t.c] 26)).heap.size := by simp
  have b6 := bt hb6 hxT
  have HTI := Lib.hid ((tbl.TV.Own.inn hto).next hxT)
  have HOR := Lib.hid (hor.below hxT)
  replace GG := GG.keep b6 l1
  replace l1 := Nat.lt_of_lt_of_le l1 b6.size
  replace hx := bt hx b6
  clear b6 hb6 hxT hto hor HFU hgh1 hgh2 g0 g1' g2 g3 g4
  generalize hgT : w6.heap.size = gT at *
  clear hgT
  generalize w6.alloc (.cells #[.slice t.A (D + 1 : Nat) t.c] 26) = w7 at *
  have HRL := Lib.hid (show rows.length = D + 1 from HOR.out.len.trans (fullH_length _ _ _))
  have HLR := Lib.hid (show lists rows = fullH (lists br) ll D from HOR.out.2.1)
  have HTW := Lib.hid (show Calls Try.prog 10 #[.slice (some ⟨gh, 0, none⟩) (D + 1 : Nat) hc] w7 fun e w' => (∃ (gq qc : Nat) (rs : List Row), e = .returned (.slice (some ⟨gq, 0, none⟩) (D + 1 : Nat) qc) ∧ OwnRows w' w7.heap.size (.slice (some ⟨gq, 0, none⟩) (D + 1 : Nat) qc) rs (fullH (lists br) ll D) ∧ w7.heap.size ≤ gq ∧ gq < w'.heap.size) ∧ Below w7.heap.size w7 w' from by
    have hi := rows_in HOR.out
    refine (twins_any _ hc (D + 1) rows w7 HRL.out hi.h hi.r (by have := HD1.out; omega) (fun r hr => by have h9 : r.l ∈ lists rows := List.mem_map.2 ⟨r, hr, rfl⟩; rw [HLR.out] at h9; exact (full_had (lists br) ll D).2 _ h9 |>.elim (fun h => by rw [h]; exact Nat.zero_le _) (fun h => by omega))).mono ?_
    rintro e w' ⟨⟨v, rs, rfl, ho⟩, hb⟩
    rw [HLR.out] at ho
    obtain ⟨g, gc, hv, h1, h2, h3, h4⟩ := ho.at (fullH_length _ _ _) (by omega)
    subst hv
    exact ⟨⟨g, gc, rs, rfl, ho, h3, h4⟩, hb⟩)
  go_upto_region 8 with (go_at_call 10; (with_reducible refine HTW.out.mono ?_); rintro e w8 ⟨⟨gq, qc, rs, rfl, hro, hq1, hq2⟩, hb8⟩)
  have HRO := Lib.hid hro
  clear HTW HOR HRL HLR hro
  go_loopw [21] (fun i w' => ∃ (j : Nat) (rs : List Row), j ≤ D + 1 ∧ j ≤ p2 ∧ i = .int .i64 j ∧ OwnRows w' w7.heap.size (.slice (some ⟨gq, 0, none⟩) (D + 1 : Nat) qc) rs (lft ms (fullH (lists br) ll D) j) ∧ gq < w'.heap.size ∧ Below w7.heap.size w7 w') (fun i _ => D + 1 - (RowKit.intOf i).toNat)
  case atStart => exact ⟨0, rs, by omega, by omega, rfl, HRO.out, hq2, hb8⟩
  case round =>
    obtain ⟨w9, rfl⟩ : ∃ y, y = wr := ⟨wr, rfl⟩
    obtain ⟨j, rs, hj, hjp, rfl, hor, hq2, hb9⟩ := hrel
    clear HRO
    have G9 := GG.keep hb9 l1
    obtain ⟨g0, g1', g2, g3, g4⟩ := id G9
    have hx9 := bt hx hb9
    have hll : (lft ms (fullH (lists br) ll D) j).length = D + 1 := (lft_length _ _ _).trans (fullH_length _ _ _)
    have HOR := Lib.hid hor
    clear hor
    by_cases hlt : j < p2 ∧ j ≤ D
    · obtain ⟨h1, h2⟩ := hlt
      have i1 : (j : Int) < (p2 : Int) := by omega
      have i2 : (j : Int) ≤ (D : Int) := by omega
      have hD4 := HD1.out.2
      obtain ⟨b1, of1, hE1, hb1, c1, e1⟩ := bool_at (HEA.out.below hx9) (show j < ms.length by rw [HE.out]; exact h1)
      subst hE1
      have hil : isLost ms j = ms[j]'(by rw [HE.out]; exact h1) := by unfold isLost; rw [e1]; rfl
      generalize (ms[j]'(by rw [HE.out]; exact h1)) = mb at *
      clear e1
      cases mb with
      | false =>
        have HLE := Lib.hid (show lft ms (fullH (lists br) ll D) (j + 1) = lft ms (fullH (lists br) ll D) j by rw [lft, hil, if_neg Bool.false_ne_true])
        clear hil
        go_wp2_with fail
        go_roundw
        case rel => exact ⟨j + 1, rs, by omega, by omega, by go_num, by rw [HLE.out]; exact HOR.out, hq2, hb9⟩
        case measure => simp [RowKit.intOf]; omega
      | true =>
        have HLE := Lib.hid (show lft ms (fullH (lists br) ll D) (j + 1) = (lft ms (fullH (lists br) ll D) j).set j [] by rw [lft, hil, if_pos rfl])
        obtain ⟨⟨u1, cu1⟩, fz⟩ := rows_frozen HOR.out hll j (by omega)
        obtain ⟨hor8, -⟩ := rows_nil HOR.out hll j
        have HO8 := Lib.hid hor8
        have hb10 := hb9.setCell (p := ⟨gq, j, none⟩) hq1 (.slice none 0 0)
        have lq : gq < (w9.setCell ⟨gq, j, none⟩ (.slice none 0 0)).heap.size := by rw [World.size_setCell]; exact hq2
        have j1 : (j : Int) < (D : Int) + 1 := by omega
        clear hil hor8
        go_wp2_with fail
        go_roundw
        case rel => exact ⟨j + 1, rs.set j ⟨none, 0, []⟩, by omega, by omega, by go_num, by rw [HLE.out]; exact HO8.out, lq, hb10⟩
        case measure => simp [RowKit.intOf]; omega
    · have q : ¬ (j : Int) < (p2 : Int) ∨ (j : Int) < (p2 : Int) ∧ ¬ (j : Int) ≤ (D : Int) := by omega
      have HHD := Lib.hid (lft_had (ms := ms) (full_had (lists br) ll D) j)
      have HMS := Lib.hid (lft_missed (ms := ms) (hs := fullH (lists br) ll D) (j := j) (by rw [fullH_length]; exact hj))
      have HRL := Lib.hid (show rs.length = D + 1 from HOR.out.len.trans hll)
      clear hlt hll
      have HLR := Lib.hid HOR.out.2.1
      have HRI := Lib.hid (rows_in HOR.out)
      generalize lft ms (fullH (lists br) ll D) j = hs at *
      have T9 := TT.keep hb9 lT
      have t0 := T9.c0
      have HTI9 := Lib.hid (HTI.out.next hb9)
      have l19 := Nat.lt_of_lt_of_le l1 hb9.size
      have lT9 := Nat.lt_of_lt_of_le lT hb9.size
      have hGood := full_good (S - 1) (lists br) ll D HS.out
      have HAL := Lib.hid (show Calls Try.prog 27 #[.agg #[.int .i64 z, .int .i64 D, .int .i64 s, .int .i64 l, .int .i64 a], .agg #[.slice t.A (D + 1 : Nat) t.c], .slice (some ⟨gq, 0, none⟩) (D + 1 : Nat) qc] w9 fun e w' => AllZ (D + 1) (knowns (D + 1) (fullE (S - 1) (lists br) ll D) hs) e w' ∧ Below w9.heap.size w9 w' from by
        have h9 := zn_all z s l a D t (D + 1) ⟨some ⟨gq, 0, none⟩, qc, rs⟩ (D + 1) w9 HO.out HTI9.out (by rw [HTE.out, fullE_length]) (by rw [HTE.out]; exact hGood) HRI.out HRL.out (by show HadOk _ (lists rs); rw [HLR.out]; exact HHD.out)
        rw [HTE.out] at h9
        change Calls _ _ _ _ (fun e w' => AllZ _ (knowns _ _ (lists rs)) e w' ∧ _) at h9
        rw [HLR.out] at h9
        exact h9)
      have HWR := Lib.hid (show ∀ W, Below w9.heap.size w9 W → Calls Try.prog 11 #[.agg #[.int .i64 z, .int .i64 D, .int .i64 s, .int .i64 l, .int .i64 a], .agg #[.slice t.A (D + 1 : Nat) t.c], .slice (some ⟨gq, 0, none⟩) (D + 1 : Nat) qc, .slice aA k ac, .slice yA k yc, .int .i64 S] W fun e w' => WrZ W.heap.size D (newT D (fullE (S - 1) (lists br) ll D) hs ats (lists yr) S) (newP D (fullE (S - 1) (lists br) ll D) hs ats (lists yr) S D) e w' ∧ Below W.heap.size W w' from fun W hW => by
        have h9 := HC.out.write z s l a S D t (D + 1) ⟨some ⟨gq, 0, none⟩, qc, rs⟩ (D + 1) ⟨aA, ac, ats⟩ k ⟨yA, yc, yr⟩ W (bt hx9 hW) HO.out (HTI9.out.next hW) (by rw [HTE.out, fullE_length]) (by rw [HTE.out]; exact hGood) (HRI.out.next hW) HRL.out (by show HadOk _ (lists rs); rw [HLR.out]; exact HHD.out) ((HA.out.next hx9).next hW) HM.out (by have := HN10.out; omega) HATS.out ⟨by omega, by omega⟩ ((HY.out.next hx9).next hW) HK.out H8.out
        rw [HTE.out] at h9
        change Calls _ _ _ _ (fun e w' => WrZ _ _ (newT _ _ (lists rs) _ _ _) (newP _ _ (lists rs) _ _ _ _) e w' ∧ _) at h9
        rw [HLR.out] at h9
        exact h9)
      have HGD := Lib.hid hGood
      clear hGood HOR
      have hyl : (lists yr).length = ats.length := by rw [lists_length, HK.out, HM.out]
      have HKK := Lib.hid (show ∀ i, i < D → known (D + 1) (fullE (S - 1) (lists br) ll D) hs i ≠ [] → (entK (fullE (S - 1) (lists br) ll D) i).ls = false ∧ ((crc.sum (known (D + 1) (fullE (S - 1) (lists br) ll D) hs i) : Nat) : Int) = (entK (fullE (S - 1) (lists br) ll D) i).sm from fun i hi h0 => by
        obtain ⟨h1, h2⟩ := full_known HMS.out HHD.out (show i ≤ D by omega) h0
        rw [lostK_get (fullE_get hi)] at h1
        rw [sumK_get (fullE_get hi)] at h2
        rw [entK_get (fullE_get hi)]
        exact ⟨h1, h2⟩)
      have HBL := Lib.hid (fun i => newB_length (D := D) (es := (fullE (S - 1) (lists br) ll D)) (st := S) HATS.out.2.2 HHD.out hyl H8.out i)
      have HP8 := Lib.hid (newP_length (D := D) (es := (fullE (S - 1) (lists br) ll D)) (st := S) HATS.out.2.2 HHD.out hyl H8.out D)
      have HYL := Lib.hid hyl
      clear hyl
      have hD4 : D ≤ 4 := HD1.out.2
      go_upto_region 8 with fail
      go_cut [101] from 300 (fun v wx => v = .bool false ∧ wx = w9)
      case first =>
        clear HAL HWR HKK HBL HP8
        rcases q with q | ⟨q, q2⟩
        all_goals
          go_wp2_with fail
          go_meet
          exact ⟨rfl, rfl⟩
      case rest =>
        obtain ⟨rfl, rfl⟩ := hcut
        go_upto_region 13 with (go_at_call 27; (with_reducible refine HAL.out.mono ?_); rintro e w10 ⟨⟨Y, yc', yr', K, kc, rfl, hyk, hyi, hks⟩, hb10⟩)
        clear q
        have HYK := Lib.hid hyk
        have HYI := Lib.hid hyi
        clear g0 g1' g2 g3 g4 t0 hyk hyi hks HAL
        have G10 := G9.keep hb10 l19
        have t0 := (T9.keep hb10 lT9).c0
        obtain ⟨g0, g1', g2, g3, g4⟩ := id G10
        go_upto_region 14 with (go_at_call 11; (with_reducible refine (HWR.out _ hb10).mono ?_); rintro e w11 ⟨⟨u, X, c, rfl, hue, huo, hpo⟩, hb11⟩)
        have HUE := Lib.hid hue
        have hxU := anc.bl w11 (.cells #[.slice u.A (D + 1 : Nat) u.c] 26)
        have UU := c1_new w11 (.slice u.A (D + 1 : Nat) u.c) 26
        have lU : w11.heap.size < (w11.alloc (.cells #[.slice u.A (D + 1 : Nat) u.c] 26)).heap.size := by simp
        have b12 := bt hb11 hxU
        have l10 := Nat.lt_of_lt_of_le l19 hb10.size
        have G12 := G10.keep b12 l10
        have l12 := Nat.lt_of_lt_of_le l10 b12.size
        have hx12 := bt hx9 (bt hb10 b12)
        have HUI := Lib.hid ((tbl.TV.Own.inn huo).next hxU)
        have HPS := Lib.hid ((own_at hpo).2.2.2.next hxU)
        have HPC := Lib.hid (show 8 ≤ c ∧ c ≤ maxLen from ⟨(own_at hpo).2.1, (own_at hpo).2.2.1⟩)
        have HYI12 := Lib.hid (HYI.out.next b12)
        clear hue huo hpo hxU b12 hb11 hb10 g0 g1' g2 g3 g4 t0 HWR HYI G10 l10
        generalize hgU : w11.heap.size = gU at *
        clear hgU
        generalize w11.alloc (.cells #[.slice u.A (D + 1 : Nat) u.c] 26) = w12 at *
        obtain ⟨g0, g1', g2, g3, g4⟩ := id G12
        have u0 := UU.c0
        have qd : ((D : Int) + 1 != (D : Int) + 1) = false := bne_self_eq_false _
        go_upto_region 18 with fail
        clear qd u0
        have hul : u.es.length = D + 1 := by rw [HUE.out, newT_length]
        obtain ⟨bu, ou, -, hUA, hbu, -⟩ := tbl.ent_at HUI.out.h (show 0 < u.es.length by omega)
        rw [hUA] at UU
        have HUA := Lib.hid hUA
        clear hUA
        have HM12 := Lib.hid (show ∀ W, Below w12.heap.size w12 W → W.cell? ⟨g1, 1, none⟩ = some (.int .i64 D) ∧ W.cell? ⟨gU, 0, none⟩ = some (.slice (some ⟨bu, ou, none⟩) (D + 1 : Nat) u.c) from fun W h => ⟨kst h l12 g1', kst h lU UU.c0⟩)
        have HAT2 := HATS.out
        have hk0 : 0 < k := by
          rcases Nat.eq_zero_or_pos k with h | h
          · exact absurd (List.eq_nil_of_length_eq_zero (HM.out.trans h)) HAT2.1
          · exact h
        clear HAT2 g0 g1' g2 g3 g4
        go_loopw [28, 29] (fun v i w' => ∃ (j : Nat) (ws : List Row), j ≤ D ∧ i = .int .i64 j ∧ OwnV w' w12.heap.size 29 v (vals ws) ∧ Rws w' w12.heap.size ws ∧ Caps ws ∧ lists ws = newW D (fullE (S - 1) (lists br) ll D) hs ats (lists yr) S j ∧ Below w12.heap.size w12 w') (fun _ i _ => D - (RowKit.intOf i).toNat)
        case atStart => exact ⟨0, [], by omega, rfl, ownV_nil _ _ _, Rws.nil _ _, (fun r hr => by cases hr), rfl, Below.refl _ _⟩
        case round =>
          obtain ⟨w13, rfl⟩ : ∃ y, y = wr := ⟨wr, rfl⟩
          obtain ⟨j, ws, hj, rfl, hov, hrw, hcp, hlw, hb13⟩ := hrel
          obtain ⟨g1', u0⟩ := HM12.out _ hb13
          have hwl : ws.length = j := by
            have := congrArg List.length hlw
            rw [lists_length, newW_length] at this
            exact this
          have HOV := Lib.hid hov
          have HRW := Lib.hid hrw
          have HCP := Lib.hid hcp
          have HLW := Lib.hid hlw
          clear hov hrw hcp hlw
          have lw13 := hb13.size
          by_cases hlt : j < D
          · have j1 : (j : Int) < (D : Int) := by omega
            have j2 : (j : Int) < (D : Int) + 1 := by omega
            obtain ⟨b3, o3, ry, hYA, hb3, r3, hry, hrm, -, e3⟩ := row_at (HYI12.out.h.below hb13) (HYI12.out.r.below hb13) (show j < yr'.length by have h9 := congrArg List.length HYK.out; rw [lists_length, knowns_length] at h9; omega)
            change Y = _ at hYA
            subst hYA
            have hrk : ry.l = (pickK D (fullE (S - 1) (lists br) ll D) hs ats (lists yr) S j 0).1 := by
              rw [HYK.out, knowns_get _ _ (by omega)] at e3
              exact (Option.some.inj e3).symm
            have hrc := HYI12.out.k ry hrm
            have HRY := Lib.hid hry
            have HRK := Lib.hid hrk
            have hk10 : k ≤ 10 := HN10.out.2.1
            clear e3 hry hrk
            go_upto_region 22 with fail
            clear g1' u0 r3
            go_loop [30, 31] (fun b i => ∃ (i2 : Nat) (B : Option Addr) (L : List UInt8) (cb : Nat), i2 ≤ k ∧ i = .int .i64 i2 ∧ b = .slice B L.length cb ∧ L = (pickK D (fullE (S - 1) (lists br) ll D) hs ats (lists yr) S j i2).1 ∧ Sl w13 w12.heap.size B L ∧ L.length ≤ cb ∧ cb ≤ maxLen) (fun _ i => k - (RowKit.intOf i).toNat)
            case atStart => exact ⟨0, ry.A, ry.l, ry.c, by omega, rfl, rfl, HRK.out, HRY.out, hrc.1, hrc.2⟩
            case round =>
              obtain ⟨i2, B, L, cb, hi2, rfl, rfl, hL, hsl, hc1, hc2⟩ := hrel
              have HLL := Lib.hid hL
              have HSL := Lib.hid hsl
              clear hL hsl HRK HRY
              by_cases hlt2 : i2 < k
              · have k1 : (i2 : Int) < (k : Int) := by omega
                obtain ⟨bn, on, hN', hbn, hcs⟩ := ((HA.out.next hx12).next hb13).h (by rw [ints_length]; show 0 < ats.length; rw [HM.out]; exact hk0)
                change aA = _ at hN'
                subst hN'
                have ga := hcs i2 (by rw [ints_length]; show i2 < ats.length; rw [HM.out]; exact hlt2)
                rw [ints_get] at ga
                have hei : ats[i2]? = some (ats[i2]'(by rw [HM.out]; exact hlt2)) := List.getElem?_eq_getElem (by rw [HM.out]; exact hlt2)
                change w13.cell? _ = some (.int .i64 (ats[i2]'(by rw [HM.out]; exact hlt2))) at ga
                generalize (ats[i2]'(by rw [HM.out]; exact hlt2)) = y at *
                clear hcs
                by_cases hyk : y = (j : Int)
                case neg =>
                  have q3 : (y == (j : Int)) = false := beq_eq_false_iff_ne.2 hyk
                  have HPM := Lib.hid (pickK_miss (D := D) (es := (fullE (S - 1) (lists br) ll D)) (hs := hs) (bs := lists yr) (st := S) (show ats[i2]? ≠ some (j : Int) from fun h => hyk (by rw [hei] at h; exact Option.some.inj h)))
                  clear hyk hei
                  go_wp2_with fail
                  go_round
                  case rel => exact ⟨i2 + 1, B, L, cb, by omega, by go_num, rfl, by rw [HPM.out]; exact HLL.out, HSL.out, hc1, hc2⟩
                  case measure => simp [RowKit.intOf]; omega
                case pos =>
                  subst hyk
                  have q3 : ((j : Int) == (j : Int)) = true := beq_self_eq_true _
                  obtain ⟨b2, o2, r, hB, hb2, gr, hrs, hrm2, -, r1⟩ := row_at ((HY.out.next hx12).h.below hb13) ((HY.out.next hx12).r.below hb13) (show i2 < yr.length by rw [HK.out]; exact hlt2)
                  change yA = _ at hB
                  subst hB
                  have HPH := Lib.hid (show r.l = (pickK D (fullE (S - 1) (lists br) ll D) hs ats (lists yr) S j (i2 + 1)).1 by rw [pickK_hit hei, hadK_get r1])
                  have hrc2 := HY.out.k r hrm2
                  have HRS := Lib.hid hrs
                  clear hei r1 hrs
                  go_wp2_with fail
                  go_round
                  case rel => exact ⟨i2 + 1, r.A, r.l, r.c, by omega, by go_num, rfl, HPH.out, HRS.out, hrc2.1, hrc2.2⟩
                  case measure => simp [RowKit.intOf]; omega
              · have k1 : ¬ (i2 : Int) < (k : Int) := by omega
                obtain rfl : i2 = k := by omega
                have HLB := Lib.hid (show L = newB D (fullE (S - 1) (lists br) ll D) hs ats (lists yr) S j by rw [newB_pick, HM.out]; exact HLL.out)
                obtain ⟨hE1, -⟩ := newE_tells (st := S) HATS.out HYL.out H8.out HKK.out hlt
                obtain ⟨bu', ou', e1, hUA', -, c0, c1, c2, -, e1e⟩ := tbl.ent_at (HUI.out.next hb13).h (show j < u.es.length by omega)
                rw [HUA.out] at hUA'
                simp only [Option.some.injEq, Addr.mk.injEq, and_true] at hUA'
                obtain ⟨rfl, rfl⟩ := hUA'
                have hls : e1.ls = L.isEmpty := by
                  rw [HUE.out, newT_get hlt] at e1e
                  rw [← Option.some.inj e1e, hE1, HLB.out]
                have hl08 : L = [] ∨ L.length = 8 := by rw [HLB.out]; exact HBL.out j
                rw [hls] at c2
                obtain ⟨g1', u0⟩ := HM12.out _ hb13
                have hv1 : (vals ws).length = j := by rw [vals_length, hwl]
                have HON := Lib.hid (HOV.out.alloc (.cells #[.slice B L.length cb] 29))
                clear hE1 e1e hls c0 c1
                rcases hl08 with hl0 | hl8
                · have q5 : ((L.length : Int) == 0) = true := by rw [hl0]; rfl
                  rw [show L.isEmpty = true by rw [hl0]; rfl] at c2
                  clear hl0
                  go_wp2_with (at_builtin; refine wpList_appV _ rfl (.tmp 197) (.tmp 199) _ _ rfl w12.heap.size 29 tv _ (vals ws) rfl HON.out _ [Row.v ⟨B, cb, L⟩] rfl (srcV_one w13 Try.underlying27 _ rfl _) (by rw [hv1]; unfold maxLen; simp; omega) (by rw [hv1]; simp; omega) (by simp; omega) ?_; intro v2 w2 hown3 hg3 hat3)
                  have hb14 : Below w12.heap.size w12 w2 := (hb13.alloc lw13 (.cells #[.slice B L.length cb] 29)).grown hg3 (by simp; omega) (fun q hq => (World.ownsRow.lt HON.out q hq).1)
                  have hb132 : Below w12.heap.size w13 w2 := ((Below.refl _ w13).alloc lw13 (.cells #[.slice B L.length cb] 29)).grown hg3 (by simp; omega) (fun q hq => (World.ownsRow.lt HON.out q hq).1)
                  have HO3 := Lib.hid hown3
                  clear hown3 hg3 hat3 HON
                  go_roundw
                  case rel => exact ⟨j + 1, ws ++ [⟨B, cb, L⟩], by omega, by go_num, by rw [vals_append]; exact HO3.out, (HRW.out.append (fun q hq => by rw [List.mem_singleton] at hq; rw [hq]; exact HSL.out)).below hb132, (fun q hq => (List.mem_append.1 hq).elim (HCP.out q) (fun h => by rw [List.mem_singleton] at h; rw [h]; exact ⟨hc1, hc2⟩)), by rw [lists_append, HLW.out, newW_next, ← HLB.out]; rfl, hb14⟩
                  case measure => simp [RowKit.intOf]; omega
                · have q5 : ((L.length : Int) == 0) = false := by rw [hl8]; rfl
                  rw [show L.isEmpty = false by cases L; cases hl8; rfl] at c2
                  clear hl8
                  go_wp2_with (at_builtin; refine wpList_appV _ rfl (.tmp 197) (.tmp 199) _ _ rfl w12.heap.size 29 tv _ (vals ws) rfl HON.out _ [Row.v ⟨B, cb, L⟩] rfl (srcV_one w13 Try.underlying27 _ rfl _) (by rw [hv1]; unfold maxLen; simp; omega) (by rw [hv1]; simp; omega) (by simp; omega) ?_; intro v2 w2 hown3 hg3 hat3)
                  have hb14 : Below w12.heap.size w12 w2 := (hb13.alloc lw13 (.cells #[.slice B L.length cb] 29)).grown hg3 (by simp; omega) (fun q hq => (World.ownsRow.lt HON.out q hq).1)
                  have hb132 : Below w12.heap.size w13 w2 := ((Below.refl _ w13).alloc lw13 (.cells #[.slice B L.length cb] 29)).grown hg3 (by simp; omega) (fun q hq => (World.ownsRow.lt HON.out q hq).1)
                  have HO3 := Lib.hid hown3
                  clear hown3 hg3 hat3 HON
                  go_roundw
                  case rel => exact ⟨j + 1, ws ++ [⟨B, cb, L⟩], by omega, by go_num, by rw [vals_append]; exact HO3.out, (HRW.out.append (fun q hq => by rw [List.mem_singleton] at hq; rw [hq]; exact HSL.out)).below hb132, (fun q hq => (List.mem_append.1 hq).elim (HCP.out q) (fun h => by rw [List.mem_singleton] at h; rw [h]; exact ⟨hc1, hc2⟩)), by rw [lists_append, HLW.out, newW_next, ← HLB.out]; rfl, hb14⟩
                  case measure => simp [RowKit.intOf]; omega
          · have j1 : ¬ (j : Int) < (D : Int) := by omega
            obtain rfl : D = j := by omega
            have hv1 : (vals ws).length = D := by rw [vals_length, hwl]
            have HON := Lib.hid (HOV.out.alloc (.cells #[.slice X 8 c] 29))
            have hm := gmt.wrap_mod mi ((D : Int) + 1) (by omega)
            generalize hJ0 : (IntKind.u64.wrap mi).tmod ((D : Int) + 1) = j0 at *
            obtain ⟨J, rfl⟩ : ∃ J : Nat, j0 = J := ⟨j0.toNat, by omega⟩
            have hJD : J ≤ D := by omega
            have hw1 : IntKind.u64.wrap ((D : Int) + 1) = (D : Int) + 1 := IntWalk.u64_in _ (by omega)
            have hm0 : ((D : Int) + 1 == 0) = false := beq_eq_false_iff_ne.2 (by omega)
            have hm1 : ¬ (D : Int) + 1 = 0 := by omega
            clear hm u0 j1 hlt hj
            have HJ0 := Lib.hid hJ0
            have HW1 := Lib.hid hw1
            have HM0 := Lib.hid hm0
            have HM1 := Lib.hid hm1
            clear hJ0 hw1 hm0 hm1 g1'
            obtain ⟨g1', u0⟩ := HM12.out _ hb13
            go_upto_region 30 with (at_builtin; refine wpList_appV _ rfl (.tmp 201) (.tmp 203) _ _ rfl w12.heap.size 29 tv _ (vals ws) rfl HON.out _ [.slice X 8 c] rfl (srcV_one w13 Try.underlying27 _ rfl _) (by rw [hv1]; unfold maxLen; simp; omega) (by rw [hv1]; simp; omega) (by simp; omega) ?_; intro v2 w14 hown3 hg3 hat3)
            have hb14 : Below w12.heap.size w12 w14 := (hb13.alloc lw13 (.cells #[.slice X 8 c] 29)).grown hg3 (by simp; omega) (fun q hq => (World.ownsRow.lt HON.out q hq).1)
            have hb134 : Below w12.heap.size w13 w14 := ((Below.refl _ w13).alloc lw13 (.cells #[.slice X 8 c] 29)).grown hg3 (by simp; omega) (fun q hq => (World.ownsRow.lt HON.out q hq).1)
            have HWV := Lib.hid (show vals (ws ++ [⟨X, c, newP D (fullE (S - 1) (lists br) ll D) hs ats (lists yr) S D⟩]) = vals ws ++ [.slice X 8 c] by rw [vals_append]; unfold vals Row.v; simp [HP8.out])
            have HWL := Lib.hid (show lists (ws ++ [⟨X, c, newP D (fullE (S - 1) (lists br) ll D) hs ats (lists yr) S D⟩]) = newA D (fullE (S - 1) (lists br) ll D) hs ats (lists yr) S by rw [lists_append, HLW.out]; rfl)
            rw [← HWV.out] at hown3
            obtain ⟨A5, c5, hv5, h51, h52, h5s, -⟩ := id hown3.form
            have hn5 : (vals (ws ++ [⟨X, c, newP D (fullE (S - 1) (lists br) ll D) hs ats (lists yr) S D⟩])).length = D + 1 := by rw [vals_length, List.length_append, hwl]; rfl
            rw [hn5] at hv5 h51
            subst hv5
            have HRA := Lib.hid ((HRW.out.append (b := [⟨X, c, newP D (fullE (S - 1) (lists br) ll D) hs ats (lists yr) S D⟩]) (fun q hq => by rw [List.mem_singleton] at hq; rw [hq]; exact HPS.out.below hb13)).below hb134)
            have H5S := Lib.hid h5s
            have HWN := Lib.hid (show (ws ++ [(⟨X, c, newP D (fullE (S - 1) (lists br) ll D) hs ats (lists yr) S D⟩ : Row)]).length = D + 1 by rw [List.length_append, hwl]; rfl)
            obtain ⟨wa, hwa⟩ : ∃ wa : List Row, wa = ws ++ [⟨X, c, newP D (fullE (S - 1) (lists br) ll D) hs ats (lists yr) S D⟩] := ⟨_, rfl⟩
            rw [← hwa] at HWV HWL HRA H5S HWN
            clear hwa
            clear hown3 hg3 hat3 HON HOV HRW HCP HLW h51 h52 h5s hv1 hn5 hwl hb134 hb13 lw13 g1' u0
            obtain ⟨g1', u0⟩ := HM12.out _ hb14
            have lw14 := hb14.size
            have hx14 := bt hx12 hb14
            have G14 := G12.keep hb14 l12
            have U14 := UU.keep hb14 lU
            have l14 := Nat.lt_of_lt_of_le l12 lw14
            have lU14 := Nat.lt_of_lt_of_le lU lw14
            have HUI14 := Lib.hid (HUI.out.next hb14)
            have HAD := Lib.hid (show HadOk (D + 1) (newA D (fullE (S - 1) (lists br) ll D) hs ats (lists yr) S) from ⟨newA_length, fun y hy => by
              unfold newA newW at hy
              rcases List.mem_append.1 hy with h | h
              · obtain ⟨i, -, rfl⟩ := List.mem_map.1 h
                exact HBL.out i
              · rw [List.mem_singleton] at h
                rw [h]
                exact .inr HP8.out⟩)
            have HTW2 := Lib.hid (show Calls Try.prog 10 #[.slice A5 (D + 1 : Nat) c5] w14 fun e w' => (∃ (gq qc : Nat) (rs : List Row), e = .returned (.slice (some ⟨gq, 0, none⟩) (D + 1 : Nat) qc) ∧ OwnRows w' w14.heap.size (.slice (some ⟨gq, 0, none⟩) (D + 1 : Nat) qc) rs (newA D (fullE (S - 1) (lists br) ll D) hs ats (lists yr) S) ∧ w14.heap.size ≤ gq ∧ gq < w'.heap.size) ∧ Below w14.heap.size w14 w' from by
              refine (twins_any A5 c5 (D + 1) wa w14 HWN.out H5S.out (HRA.out.more lw14) (by omega) (fun r hr => by have h9 : r.l ∈ lists wa := List.mem_map.2 ⟨r, hr, rfl⟩; rw [HWL.out] at h9; exact HAD.out.2 _ h9 |>.elim (fun h => by rw [h]; exact Nat.zero_le _) (fun h => by omega))).mono ?_
              rintro e w' ⟨⟨v, rs, rfl, ho⟩, hb⟩
              rw [HWL.out] at ho
              obtain ⟨g, gc, hv, h1, h2, h3, h4⟩ := ho.at HAD.out.1 (by omega)
              subst hv
              exact ⟨⟨g, gc, rs, rfl, ho, h3, h4⟩, hb⟩)
            have hJ0 := HJ0.out
            have hw1 := HW1.out
            have hm0 := HM0.out
            have hm1 := HM1.out
            clear HJ0 HW1 HM0 HM1
            go_upto_region 31 with fail
            clear hJ0 hw1 hm0 hm1 g1' u0
            go_upto_region 32 with (go_at_call 10; (with_reducible refine HTW2.out.mono ?_); rintro e w15 ⟨⟨gC, cC, rC, rfl, hrC, hC1, hC2⟩, hb15⟩)
            obtain ⟨⟨uz, cz⟩, fz⟩ := rows_frozen hrC HAD.out.1 J (by omega)
            obtain ⟨horC, -⟩ := rows_nil hrC HAD.out.1 J
            have HRC := Lib.hid horC
            have hb16 := hb15.setCell (p := ⟨gC, J, none⟩) hC1 (.slice none 0 0)
            have jj : (J : Int) < (D : Int) + 1 := by omega
            have lC : gC < (w15.setCell ⟨gC, J, none⟩ (.slice none 0 0)).heap.size := by rw [World.size_setCell]; exact hC2
            go_upto_region 33 with fail
            clear cz fz hrC horC jj HTW2
            generalize w15.setCell ⟨gC, J, none⟩ (.slice none 0 0) = w16 at *
            have G16 := G14.keep hb16 l14
            have U16 := U14.keep hb16 lU14
            have lw16 := hb16.size
            have hx16 := bt hx14 hb16
            have HUI16 := Lib.hid (HUI14.out.next hb16)
            have H5S16 := Lib.hid (H5S.out.next hb16)
            have HRA16 := Lib.hid (HRA.out.below (hb16.mono lw14))
            have HRI16 := Lib.hid (rows_in HRC.out)
            have HRL16 := Lib.hid (show (rC.set J ⟨none, 0, []⟩).length = D + 1 by rw [HRC.out.len, List.length_set, newA_length])
            have HRE16 := Lib.hid (show lists (rC.set J ⟨none, 0, []⟩) = (newA D (fullE (S - 1) (lists br) ll D) hs ats (lists yr) S).set J [] from HRC.out.2.1)
            have HAL2 := Lib.hid (show Calls Try.prog 27 #[.agg #[.int .i64 z, .int .i64 D, .int .i64 s, .int .i64 l, .int .i64 a], .agg #[.slice u.A (D + 1 : Nat) u.c], .slice (some ⟨gC, 0, none⟩) (D + 1 : Nat) cC] w16 fun e w' => AllZ (D + 1) (knowns (D + 1) (newT D (fullE (S - 1) (lists br) ll D) hs ats (lists yr) S) ((newA D (fullE (S - 1) (lists br) ll D) hs ats (lists yr) S).set J [])) e w' ∧ Below w16.heap.size w16 w' from by
              have h9 := zn_all z s l a D u (D + 1) ⟨some ⟨gC, 0, none⟩, cC, rC.set J ⟨none, 0, []⟩⟩ (D + 1) w16 HO.out HUI16.out hul (by rw [HUE.out]; exact newT_good HGD.out HATS.out.2.2 (by omega)) HRI16.out HRL16.out (by show HadOk _ (lists (rC.set J _)); rw [HRE16.out]; exact had_set HAD.out J)
              rw [HUE.out] at h9
              change Calls _ _ _ _ (fun e w' => AllZ _ (knowns _ _ (lists (rC.set J _))) e w' ∧ _) at h9
              rw [HRE16.out] at h9
              exact h9)
            have HKW := Lib.hid (show ∀ i, i ≤ D → known (D + 1) (newT D (fullE (S - 1) (lists br) ll D) hs ats (lists yr) S) ((newA D (fullE (S - 1) (lists br) ll D) hs ats (lists yr) S).set J []) i = hadK (newA D (fullE (S - 1) (lists br) ll D) hs ats (lists yr) S) i from fun i hi => known_W HHD.out HATS.out HYL.out H8.out HKK.out hJD hi)
            obtain ⟨g0, g1', g2, g3, g4⟩ := id G16
            have u0 := U16.c0
            rw [← HUA.out] at u0
            have qd : ((D : Int) + 1 != (D : Int) + 1) = false := bne_self_eq_false _
            clear hb14 hb15 hb16 G14 U14 HRC HRA H5S HUI14
            go_upto_region 37 with (go_at_call 27; (with_reducible refine HAL2.out.mono ?_); rintro e w17 ⟨⟨Z, zc, zr, K2, kc2, rfl, hzl, hzi, hks2⟩, hb17⟩)
            clear g0 g1' g2 g3 g4 u0 qd HAL2
            have HZL := Lib.hid hzl
            have HZI := Lib.hid hzi
            have HKS2 := Lib.hid hks2
            have H5S17 := Lib.hid (H5S16.out.next hb17)
            have HRA17 := Lib.hid ((HRA16.out.more (Nat.le_trans lw14 lw16)).next hb17)
            have hx17 := bt hx16 hb17
            have HWK := Lib.hid (show ∀ W, Below w17.heap.size w17 W → Calls Try.prog 17 #[] W fun e w' => e = .returned (.bool true) ∧ Below W.heap.size W w' from fun W hW => wk_stp W (HC.out.next (bt hx17 hW)))
            clear hzl hzi hks2 hb17
            go_loopw [36] (fun i w' => ∃ i2 : Nat, i2 ≤ D + 1 ∧ i = .int .i64 i2 ∧ Below w17.heap.size w17 w') (fun i _ => D + 1 - (RowKit.intOf i).toNat)
            case atStart => exact ⟨0, by omega, rfl, Below.refl _ _⟩
            case round =>
              obtain ⟨w18, rfl⟩ : ∃ y, y = wr := ⟨wr, rfl⟩
              obtain ⟨i2, hi2, rfl, hb18⟩ := hrel
              by_cases hlt2 : i2 < D + 1
              · have k1 : (i2 : Int) < (D : Int) + 1 := by omega
                have k3 : (i2 : Int) < ((D + 1 : Nat) : Int) := by omega
                obtain ⟨L, hL⟩ : ∃ L, L = hadK (newA D (fullE (S - 1) (lists br) ll D) hs ats (lists yr) S) i2 := ⟨_, rfl⟩
                have hkn : known (D + 1) (newT D (fullE (S - 1) (lists br) ll D) hs ats (lists yr) S) ((newA D (fullE (S - 1) (lists br) ll D) hs ats (lists yr) S).set J []) i2 = L := (HKW.out i2 (by omega)).trans hL.symm
                obtain ⟨b4, of4, hK4, hb4, c4, e4⟩ := bool_at (HKS2.out.next hb18) (show i2 < (kn (knowns (D + 1) (newT D (fullE (S - 1) (lists br) ll D) hs ats (lists yr) S) ((newA D (fullE (S - 1) (lists br) ll D) hs ats (lists yr) S).set J []))).length by rw [kn_length, knowns_length]; omega)
                have hbk : (kn (knowns (D + 1) (newT D (fullE (S - 1) (lists br) ll D) hs ats (lists yr) S) ((newA D (fullE (S - 1) (lists br) ll D) hs ats (lists yr) S).set J [])))[i2]'(by rw [kn_length, knowns_length]; omega) = !L.isEmpty := by
                  have h9 := kn_get (knowns_get (n := D + 1) (newT D (fullE (S - 1) (lists br) ll D) hs ats (lists yr) S) ((newA D (fullE (S - 1) (lists br) ll D) hs ats (lists yr) S).set J []) (show i2 < D + 1 by omega))
                  rw [e4] at h9
                  rw [← hkn]
                  exact Option.some.inj h9
                rw [hbk] at c4
                obtain ⟨b5, of5, rw5, hA5, hb5, c5', hr5, -, -, e5⟩ := row_at (H5S17.out.next hb18) (HRA17.out.next hb18) (show i2 < wa.length by rw [HWN.out]; omega)
                have hl5 : rw5.l = L := by
                  rw [HWL.out] at e5
                  rw [hL, hadK_get e5]
                obtain ⟨b6, of6, rz, hA6, hb6, c6, hr6, -, -, e6⟩ := row_at (HZI.out.next hb18).h (HZI.out.next hb18).r (show i2 < zr.length by have h9 := congrArg List.length HZL.out; rw [lists_length, knowns_length] at h9; omega)
                have hl6 : rz.l = L := by
                  rw [HZL.out, knowns_get _ _ (by omega), hkn] at e6
                  exact (Option.some.inj e6).symm
                change Z = _ at hA6
                subst hA5 hA6 hK4
                have hl08 : L = [] ∨ L.length = 8 := by rw [hL]; exact hadK_ok HAD.out i2
                rw [hl5] at c5' hr5
                rw [hl6] at c6 hr6
                have HKB := Lib.hid (show ∀ W, Below w18.heap.size w18 W → Calls Try.prog 24 #[.slice rz.A L.length rz.c, .slice rw5.A L.length rw5.c] W fun e w' => e = .returned (.bool true) ∧ Below W.heap.size W w' from fun W hW => keep_c true rz.A rw5.A L.length L.length rz.c rw5.c L L W rfl rfl (by rcases hl08 with h | h <;> rw [h] <;> decide) (hr6.next hW) (hr5.next hW) (iff_of_true rfl rfl))
                have HF := Lib.hid (show ∀ W, Below w18.heap.size w18 W → W.cell? ⟨b4, of4 + i2, none⟩ = some (.bool (!L.isEmpty)) ∧ W.cell? ⟨b5, of5 + i2, none⟩ = some (.slice rw5.A L.length rw5.c) ∧ W.cell? ⟨b6, of6 + i2, none⟩ = some (.slice rz.A L.length rz.c) ∧ Below w18.heap.size w18 W from fun W h => ⟨kst h hb4 c4, kst h hb5 c5', kst h hb6 c6, h⟩)
                have hq : decide (0 < L.length) = !L.isEmpty := by
                  rcases hl08 with h | h
                  · rw [h]; rfl
                  · rw [show L.isEmpty = false by cases L; cases h; rfl]
                    exact decide_eq_true (by omega)
                obtain ⟨bb, hbb⟩ : ∃ bb, bb = !L.isEmpty := ⟨_, rfl⟩
                rw [← hbb] at HF hq c4
                clear hL hkn hbk e4 e5 e6 hl5 hl6 hl08 hr5 hr6 hbb
                go_upto_region 39 with fail
                cases bb with
                | false =>
                  go_region_held3 (fun W => W.cell? ⟨b4, of4 + i2, none⟩ = some (.bool false) ∧ W.cell? ⟨b5, of5 + i2, none⟩ = some (.slice rw5.A L.length rw5.c) ∧ W.cell? ⟨b6, of6 + i2, none⟩ = some (.slice rz.A L.length rz.c) ∧ Below w18.heap.size w18 W)
                    (first
                      | with_reducible exact HF.out _ (below_dr (Below.refl _ _))
                      | with_reducible exact HF.out _ hbS
                      | fail)
                    (first
                      | (go_at_call 24; (with_reducible refine (HKB.out _ (by first | with_reducible exact hbS | with_reducible exact below_dr (Below.refl _ _))).mono ?_); rintro e wx ⟨rfl, hbx⟩; have hbS := bt (below_dr (Below.refl w18.heap.size w18)) hbx)
                      | fail)
                  have hbw := bt hb18 hbS
                  clear HF HKB hbx hbS
                  go_wp2_with fail
                  go_roundw
                  case rel => exact ⟨i2 + 1, by omega, by go_num, hbw⟩
                  case measure => simp [RowKit.intOf]; omega
                | true =>
                  go_region_held3 (fun W => W.cell? ⟨b4, of4 + i2, none⟩ = some (.bool true) ∧ W.cell? ⟨b5, of5 + i2, none⟩ = some (.slice rw5.A L.length rw5.c) ∧ W.cell? ⟨b6, of6 + i2, none⟩ = some (.slice rz.A L.length rz.c) ∧ Below w18.heap.size w18 W)
                    (first
                      | with_reducible exact HF.out _ (below_dr (Below.refl _ _))
                      | with_reducible exact HF.out _ hbS
                      | fail)
                    (first
                      | (go_at_call 24; (with_reducible refine (HKB.out _ (by first | with_reducible exact hbS | with_reducible exact below_dr (Below.refl _ _))).mono ?_); rintro e wx ⟨rfl, hbx⟩; have hbS := bt (below_dr (Below.refl w18.heap.size w18)) hbx)
                      | fail)
                  have hbw := bt hb18 hbS
                  clear HF HKB hbx hbS
                  go_wp2_with fail
                  go_roundw
                  case rel => exact ⟨i2 + 1, by omega, by go_num, hbw⟩
                  case measure => simp [RowKit.intOf]; omega
              · have k1 : ¬ (i2 : Int) < (D : Int) + 1 := by omega
                go_wp2_with (go_at_call 17; (with_reducible refine (HWK.out _ hb18).mono ?_); rintro e w19 ⟨rfl, hb19⟩)
                go_ret
                exact ⟨rfl, bt hx17 (bt hb18 hb19)⟩
theorem known_said (da st mi : Int) (bA : Option Addr) (bc : Nat) (br : List Row) (lA : Option Addr) (lc : Nat) (ll : List Bool) (eA : Option Addr) (ec : Nat) (ms : List Bool) (aA : Option Addr) (ac : Nat) (ats : List Int) (yA : Option Addr) (yc : Nat) (yr : List Row) (w : World) (hc : Cst w) (hb : LV.In w w.heap.size ⟨bA, bc, br⟩) (hlA : SlV w w.heap.size lA (bools ll)) (heA : SlV w w.heap.size eA (bools ms)) (ha : NV.In w w.heap.size ⟨aA, ac, ats⟩) (hy : LV.In w w.heap.size ⟨yA, yc, yr⟩) :
    Calls Try.prog 4 #[.int .i64 da, .slice bA br.length bc, .slice lA ll.length lc, .slice eA ms.length ec, .slice aA ats.length ac, .slice yA yr.length yc, .int .i64 st, .int .i64 mi] w fun e w' => e = .returned (.bool true) ∧ Below w.heap.size w w' :=
  kn_law da st mi bA bc br _ lA lc ll _ eA ec ms _ aA ac ats _ yA yc yr _ w hc rfl hb rfl hlA rfl heA rfl ha rfl hy
end Go.Proofs.Ythdahdopejapmaa.stp
