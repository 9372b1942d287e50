/-
  A zone as it was written (Full), by the laws' own function. Conditions: a right geometry; lists shorter than 2^20.
-/
import Derived.Test.YtajjmllolaajoaaZnK
import Derived.Test.YtajjmllolaajoaaZnO
import Derived.Deep.CutBlock
import Derived.Deep.CutRange
import Derived.Test.YtajjmllolaajoaaTail
namespace Go.Proofs.Ytajjmllolaajoaa.zon
open Go.RowKit Go.Lib
open Go.Proofs.Ytajjmllolaajoaa.gmt (Ok)
open Go.Proofs.Ytajjmllolaajoaa.anc (bl kal kst ks bm ka src_home step_row wpList_row row_form row_below)
open Go.Proofs.Ytajjmllolaajoaa.tbl (Ent EntOk C1 c1_new G5 g5_new OwnE ownE_nil ownE_tv evs evs_append rentry_any)
open Go.Proofs.Ytajjmllolaajoaa.anc (Tri tri_new)
open Go.Proofs.Ytajjmllolaajoaa.par (zx zeros zeros_length zx_length)

set_option maxRecDepth 100000 in
set_option maxHeartbeats 8000000 in
theorem full_c (z s l a st : Int) (D : Nat) (A B : Option Addr) (n c m d : Nat) (rs : List Row) (bl : List Bool) (w : World) (ho : Ok z D s l a) (hn : rs.length = n) (hm : bl.length = m) (hn1 : n ≤ 1048576) (hA : SlV w w.heap.size A (vals rs)) (hR : Rws w w.heap.size rs) (hB : SlV w w.heap.size B (bools bl)) :
    Calls Try.prog 25 #[.agg #[.int .i64 z, .int .i64 D, .int .i64 s, .int .i64 l, .int .i64 a], .slice A n c, .slice B m d, .int .i64 st] w fun e w' => (∃ (t : tbl.TV) (v : Value) (rows : List Row), e = .returned (.tuple #[t.v, v]) ∧ t.es = fullE st (lists rs) bl D ∧ t.Own w' w.heap.size ∧ OwnRows w' w.heap.size v rows (fullH (lists rs) bl D)) ∧ Below w.heap.size w w' := by
  have o2 := ho.2.1
  have hD : D ≤ 4 := by omega
  have s1 : (w.alloc (.cells #[.int .i64 z, .int .i64 D, .int .i64 s, .int .i64 l, .int .i64 a] 23)).heap.size = w.heap.size + 1 := by simp
  have s2 : ((w.alloc (.cells #[.int .i64 z, .int .i64 D, .int .i64 s, .int .i64 l, .int .i64 a] 23)).alloc (.cells #[.slice none 0 0] 26)).heap.size = w.heap.size + 2 := by simp
  have hx2 := anc.bl (w.alloc (.cells #[.int .i64 z, .int .i64 D, .int .i64 s, .int .i64 l, .int .i64 a] 23)) (.cells #[.slice none 0 0] 26)
  have hx3 := anc.bl ((w.alloc (.cells #[.int .i64 z, .int .i64 D, .int .i64 s, .int .i64 l, .int .i64 a] 23)).alloc (.cells #[.slice none 0 0] 26)) (.cells #[.slice none 0 0] 26)
  have GG := ((g5_new w z D s l a).keep hx2 (by omega)).keep hx3 (by omega)
  have PP := c1_new (w.alloc (.cells #[.int .i64 z, .int .i64 D, .int .i64 s, .int .i64 l, .int .i64 a] 23)) (.slice none 0 0) 26
  rw [s1] at PP
  replace PP := PP.keep hx3 (by omega)
  have TT := c1_new ((w.alloc (.cells #[.int .i64 z, .int .i64 D, .int .i64 s, .int .i64 l, .int .i64 a] 23)).alloc (.cells #[.slice none 0 0] 26)) (.slice none 0 0) 26
  rw [s2] at TT
  have hw := kal (kal (anc.bl w (.cells #[.int .i64 z, .int .i64 D, .int .i64 s, .int .i64 l, .int .i64 a] 23)) (.cells #[.slice none 0 0] 26)) (.cells #[.slice none 0 0] 26)
  have l3 : (((w.alloc (.cells #[.int .i64 z, .int .i64 D, .int .i64 s, .int .i64 l, .int .i64 a] 23)).alloc (.cells #[.slice none 0 0] 26)).alloc (.cells #[.slice none 0 0] 26)).heap.size = w.heap.size + 3 := by simp
  have HA := Lib.hid hA
  have HR := Lib.hid hR
  have HB := Lib.hid hB
  have HN := Lib.hid hn
  have HM := Lib.hid hm
  have HN1 := Lib.hid hn1
  clear o2 ho s1 s2 hx2 hx3 hA hR hB hn hm hn1
  go_enter Try.func25, Try.ntmps25
  go_upto_region 3 with fail
  generalize (((w.alloc (.cells #[.int .i64 z, .int .i64 D, .int .i64 s, .int .i64 l, .int .i64 a] 23)).alloc (.cells #[.slice none 0 0] 26)).alloc (.cells #[.slice none 0 0] 26)) = w0 at *
  have hmk := tbl.z8_run
  have HZ := Lib.hid (z8_own w0 w0.heap.size (Nat.le_refl _))
  have hb5 := anc.bl w0 (.cells tbl.z8cells 5)
  have hL3 : w.heap.size + 3 ≤ w0.heap.size := by omega
  have HL3 := Lib.hid l3
  clear l3
  replace GG := GG.keep hb5 (by omega)
  replace PP := PP.keep hb5 (by omega)
  replace TT := TT.keep hb5 (by omega)
  have hw1 := bt hw hb5
  have lw1 := hb5.size
  go_upto_region 5 with fail
  generalize w0.alloc (.cells tbl.z8cells 5) = w1 at *
  go_loopw [11, 12, 13] (fun h p j w' => ∃ (k : Nat) (vE : Value) (rows : List Row), k ≤ D ∧ j = .int .i64 k ∧ C1 w' (w.heap.size + 2) vE ∧ C1 w' (w.heap.size + 1) (.slice none 0 0) ∧ G5 w' w.heap.size z D s l a ∧ OwnE w' w0.heap.size vE ((List.range k).map (entF st (lists rs) bl)) ∧ OwnRows w' w0.heap.size h rows ((List.range k).map (rowF (lists rs) bl)) ∧ Own w' w0.heap.size 5 p (par8 (lists rs) bl k) ∧ Below w.heap.size w w' ∧ w0.heap.size ≤ w'.heap.size) (fun _ _ j _ => D - (RowKit.intOf j).toNat)
  case atStart => exact ⟨0, _, [], by omega, rfl, TT, PP, GG, ownE_nil _ _, ownRows_nil _ _, HZ.out, hw1, lw1⟩
  case round =>
    clear TT PP GG hw1 lw1 HZ hb5
    obtain ⟨w5, rfl⟩ : ∃ q, q = wr := ⟨wr, rfl⟩
    obtain ⟨k, vE, rows, hk, rfl, T5, P5, G5', hE, hO, hP, hb, lw5⟩ := hrel
    have HE := Lib.hid hE
    have HO := Lib.hid hO
    have HP := Lib.hid hP
    have HLK : Hid (((List.range k).map (entF st (lists rs) bl)).length = k) := Lib.hid (by simp)
    clear hE hO hP
    by_cases hlt : k < D
    · have i1 : (k : Int) < (D : Int) := by omega
      have hk5 : k + 1 ≤ 5 := by omega
      have HK5 := Lib.hid hk5
      clear hk5
      have hmk := tbl.z8_run
      have HZ := Lib.hid (z8_own w5 w0.heap.size lw5)
      have b5 := anc.bl w5 (.cells tbl.z8cells 5)
      obtain ⟨g0, g1, g2, g3, g4⟩ := id G5'
      go_upto_region 8 with fail
      replace T5 := T5.keep b5 (by omega)
      replace P5 := P5.keep b5 (by omega)
      replace G5' := G5'.keep b5 (by omega)
      replace HE := Lib.hid (OwnE.below HE.out b5)
      replace HO := Lib.hid (HO.out.below b5)
      replace HP := Lib.hid (HP.out.below b5)
      replace hb := bt hb b5
      replace lw5 := Nat.le_trans lw5 b5.size
      obtain ⟨g6, hg6⟩ : ∃ q, q = w5.heap.size := ⟨_, rfl⟩
      rw [← hg6] at HZ ⊢
      clear g0 g1 g2 g3 g4 b5 hg6
      generalize w5.alloc (.cells tbl.z8cells 5) = w6 at *
      go_cut [35] from 17 to 76 (fun v wc => (∃ q : Bool, v = .bool q ∧ (q = true ↔ k < n ∧ (hadK (lists rs) k).length = 8)) ∧ wc = w6)
      case first =>
        by_cases hkn : k < n
        · have j1 : (k : Int) < (n : Int) := by omega
          obtain ⟨b1, off, r, hRA, hb1, gr, hrs, hmem, -, r1⟩ := row_at (HA.out.below hb) (HR.out.below hb) (show k < rs.length by have := HN.out; omega)
          subst hRA
          have HHK := Lib.hid (hadK_get r1)
          by_cases h8 : r.l.length = 8
          · have q : ((r.l.length : Int) == 8) = true := by rw [h8]; rfl
            have H : Hid (k < n ∧ (hadK (lists rs) k).length = 8) := Lib.hid ⟨hkn, by rw [HHK.out]; exact h8⟩
            clear r1 hrs hmem h8 hkn
            go_wp2_with fail
            go_meet
            exact ⟨⟨true, rfl, iff_of_true rfl H.out⟩, rfl⟩
          · have q : ((r.l.length : Int) == 8) = false := beq_eq_false_iff_ne.2 (by omega)
            have H : Hid (¬ (k < n ∧ (hadK (lists rs) k).length = 8)) := Lib.hid fun h => h8 (by have := h.2; rw [HHK.out] at this; exact this)
            clear r1 hrs hmem h8 hkn
            go_wp2_with fail
            go_meet
            exact ⟨⟨false, rfl, iff_of_false Bool.false_ne_true H.out⟩, rfl⟩
        · have j1 : ¬ (k : Int) < (n : Int) := by omega
          have H : Hid (¬ (k < n ∧ (hadK (lists rs) k).length = 8)) := Lib.hid fun h => hkn h.1
          clear hkn
          go_wp2_with fail
          go_meet
          exact ⟨⟨false, rfl, iff_of_false Bool.false_ne_true H.out⟩, rfl⟩
      case rest =>
      obtain ⟨⟨q, rfl, hq⟩, hwc⟩ := hcut
      have hwc2 := hwc.symm
      clear hwc
      subst hwc2
      have HQ := Lib.hid hq
      clear hq
      go_upto_if 35 with fail
      go_cut [14] from 17 to 76 (fun v wc => (∃ (X : Option Addr) (xc : Nat), v = .slice X 8 xc ∧ Own wc w0.heap.size 5 (.slice X 8 xc) (blk (lists rs) k)) ∧ Below w6.heap.size w6 wc)
      case first =>
        cases q
        case true =>
          obtain ⟨hkn, h8'⟩ := HQ.out.1 rfl
          have j1 : (k : Int) < (n : Int) := by omega
          obtain ⟨b1, off, r, hRA, hb1, gr, hrs, hmem, -, r1⟩ := row_at (HA.out.below hb) (HR.out.below hb) (show k < rs.length by have := HN.out; omega)
          subst hRA
          rw [hadK_get r1] at h8'
          have HBK := Lib.hid (show blk (lists rs) k = r.l by unfold blk; rw [hadK_get r1, if_pos h8'])
          have HTW := Lib.hid (show Calls Try.prog 28 #[.slice r.A r.l.length r.c] w6 fun e w' => (∃ (X : Option Addr) (xc : Nat), e = .returned (.slice X 8 xc) ∧ Own w' w6.heap.size 5 (.slice X 8 xc) r.l) ∧ Below w6.heap.size w6 w' from by
            refine (twin_any r.A r.c w.heap.size r.l w6 hrs (by omega)).mono ?_
            rintro e w' ⟨⟨v, rfl, ho⟩, hb⟩
            obtain ⟨X, xc, hv, -, -, -, -⟩ := id ho.form
            rw [h8'] at hv
            subst hv
            exact ⟨⟨X, xc, rfl, ho⟩, hb⟩)
          clear r1 hrs hmem h8' hkn HQ
          go_wp2_with (go_at_call 28; (with_reducible refine HTW.out.mono ?_); rintro e w7 ⟨⟨X, xc, rfl, hov⟩, hb7⟩)
          go_meet
          exact ⟨⟨X, xc, rfl, by rw [HBK.out]; exact hov.less lw5⟩, hb7⟩
        case false =>
          have HBK := Lib.hid (show blk (lists rs) k = zeros 8 by
            by_cases hkn : k < n
            · unfold blk; rw [if_neg fun h => Bool.false_ne_true (HQ.out.2 ⟨hkn, h⟩)]
            · have h0 : hadK (lists rs) k = [] := by unfold hadK; rw [List.getElem?_eq_none (by rw [lists_length, HN.out]; omega)]; rfl
              unfold blk; rw [h0, if_neg (by simp)])
          clear HQ
          go_wp2_with fail
          go_meet
          exact ⟨⟨_, _, rfl, by rw [HBK.out]; exact HZ.out⟩, Below.refl _ _⟩
      case rest =>
      obtain ⟨⟨X, xc, rfl, hbo⟩, hb7⟩ := hcut
      obtain ⟨w7, rfl⟩ : ∃ q, q = wc := ⟨wc, rfl⟩
      replace T5 := T5.keep hb7 (by omega)
      replace P5 := P5.keep hb7 (by omega)
      replace G5' := G5'.keep hb7 (by omega)
      replace HE := Lib.hid (OwnE.below HE.out hb7)
      replace HO := Lib.hid (HO.out.below hb7)
      replace HP := Lib.hid (HP.out.below hb7)
      replace hb := bt hb hb7
      replace lw5 := Nat.le_trans lw5 hb7.size
      obtain ⟨bk, hbk⟩ : ∃ b, b = blk (lists rs) k := ⟨_, rfl⟩
      rw [← hbk] at hbo
      have bk8 : bk.length = 8 := by rw [hbk]; exact blk_length _ _
      have HBK := Lib.hid hbk
      obtain ⟨S, hS⟩ : ∃ S : Nat, S = crc.sum bk := ⟨_, rfl⟩
      have HS := Lib.hid hS
      have HBO := Lib.hid hbo
      have H8 := Lib.hid bk8
      have HEN := Lib.hid (show Calls Try.prog 35 #[.int .i64 st, .slice X (8 : Nat) xc] w7 fun e w' => e = .returned (.agg #[.int .i64 st, .int .i64 S, .bool false]) ∧ Below w7.heap.size w7 w' from by
        rw [hS]
        obtain ⟨Y, y, hv, h1, h2, h3, -⟩ := id hbo.form
        rw [bk8] at hv
        simp only [Value.slice.injEq] at hv
        obtain ⟨rfl, -, rfl⟩ := hv
        exact rentry_any st X 8 xc bk w7 bk8 (by decide) h3)
      clear hb7 hbk hS hbo bk8 HZ HQ
      go_upto_region 11 with (go_at_call 35; (with_reducible refine HEN.out.mono ?_); rintro e w8 ⟨rfl, hb8⟩)
      replace T5 := T5.keep hb8 (by omega)
      replace P5 := P5.keep hb8 (by omega)
      replace G5' := G5'.keep hb8 (by omega)
      replace HE := Lib.hid (OwnE.below HE.out hb8)
      replace HO := Lib.hid (HO.out.below hb8)
      replace HP := Lib.hid (HP.out.below hb8)
      replace HBO := Lib.hid (HBO.out.below hb8)
      replace hb := bt hb hb8
      replace lw5 := Nat.le_trans lw5 hb8.size
      have E3 := tri_new w8 (.int .i64 st) (.int .i64 S) (.bool false) 54
      have b9 := anc.bl w8 (.cells #[.int .i64 st, .int .i64 S, .bool false] 54)
      obtain ⟨gE, hgE⟩ : ∃ q, q = w8.heap.size := ⟨_, rfl⟩
      rw [← hgE] at E3 ⊢
      have lE : gE < (w8.alloc (.cells #[.int .i64 st, .int .i64 S, .bool false] 54)).heap.size := by rw [hgE]; simp
      have hbB := bt hb b9
      clear hb8 HEN
      have HGE := Lib.hid hgE
      clear hgE
      have HRL : Hid (rows.length = k) := Lib.hid (by have := HO.out.len; simpa using this)
      generalize w8.alloc (.cells #[.int .i64 st, .int .i64 S, .bool false] 54) = w9 at *
      go_cut [53] from 17 to 76 (fun v wc => (∃ q : Bool, v = .bool q ∧ q = isLost bl k) ∧ wc = w9)
      case first =>
        by_cases hkm : k < m
        · have j1 : (k : Int) < (m : Int) := by omega
          obtain ⟨b1, off, hBA, hb1, gr, e1⟩ := bool_at (HB.out.below hbB) (show k < bl.length by have := HM.out; omega)
          subst hBA
          have H : Hid (bl[k]'(by have := HM.out; omega) = isLost bl k) := Lib.hid (by unfold isLost; rw [e1]; rfl)
          generalize bl[k]'(by have := HM.out; omega) = qq at *
          clear e1 hkm
          go_wp2_with fail
          go_meet
          exact ⟨⟨qq, rfl, H.out⟩, rfl⟩
        · have j1 : ¬ (k : Int) < (m : Int) := by omega
          have H : Hid (false = isLost bl k) := Lib.hid (by unfold isLost; rw [List.getElem?_eq_none (by have := HM.out; omega)]; rfl)
          clear hkm
          go_wp2_with fail
          go_meet
          exact ⟨⟨false, rfl, H.out⟩, rfl⟩
      case rest =>
      obtain ⟨⟨q, rfl, hq⟩, hwc⟩ := hcut
      have hwc2 := hwc.symm
      clear hwc
      subst hwc2
      have HQ := Lib.hid hq
      clear hq
      go_upto_if 53 with fail
      cases q
      case true =>
        obtain ⟨e0, e1, e2, f0, f1, f2⟩ := id E3
        go_upto_region 13 with fail
        have bX : Below w8.heap.size w8 (w9.setCell ⟨gE, 2, none⟩ (.bool true)) := b9.setCell (p := ⟨gE, 2, none⟩) (by rw [← HGE.out]; exact Nat.le_refl gE) _
        have Et := E3.set2 (.bool true)
        have Tt := T5.keep bX (by omega)
        have Pt := P5.keep bX (by omega)
        have Gt := G5'.keep bX (by omega)
        have HEt := Lib.hid (OwnE.below HE.out bX)
        have HOt := Lib.hid (HO.out.below bX)
        have HPt := Lib.hid (HP.out.below bX)
        have hbt := bt hb bX
        have lwt := Nat.le_trans lw5 bX.size
        have HPN : Hid (par8 (lists rs) bl (k + 1) = par8 (lists rs) bl k) := Lib.hid (by rw [par8, if_pos HQ.out.symm])
        clear e0 e1 e2 f0 f1 f2 bX
        generalize w9.setCell ⟨gE, 2, none⟩ (.bool true) = wt at *
        clear T5 P5 G5' HE HO HP hb lw5 E3 b9
        obtain ⟨e0, e1, e2, -, -, -⟩ := id Et
        have t0 := Tt.c0
        have HT2 : Hid (w.heap.size + 2 < w0.heap.size) := Lib.hid (Nat.lt_of_lt_of_le (Nat.lt_succ_self _) hL3)
        have src1 := src_home (P := Try.prog) (heap_alloc_new wt (.cells #[.int .i64 st, .int .i64 S, .bool true] 54)) Try.underlying24 (by simp [Value.oneCell'])
        have ba := anc.bl wt (.cells #[.int .i64 st, .int .i64 S, .bool true] 54)
        have ow := OwnE.below HEt.out ba
        have lwa := ba.size
        go_wp2_with (first
          | (at_builtin
             (refine wpList_row _ rfl (.tmp 56) (.tmp 58) _ _ rfl w0.heap.size 3 24 54 (.agg #[.int .i64 0, .int .i64 0, .bool false]) Try.underlying24 tbl.e_info (by rfl) vE k (evs ((List.range k).map (entF st (lists rs) bl))) (by rfl) (by have h9 := ow; unfold OwnE at h9; rw [HLK.out] at h9; exact h9) _ 1 _ (by rfl) src1 (Nat.le_trans HK5.out (by decide)) (Nat.le_trans (Nat.mul_le_mul_right 24 HK5.out) (by decide)) (Nat.le_trans lwt lwa) ?_)
             intro v3 w3 h3 hg3
             obtain ⟨A3, c3, hv3, -, -, -⟩ := row_form h3
             subst hv3
             have HO3 := (OwnRows.kept (HOt.out.below ba) ow row_ent u8_ent hg3).alloc (.cells #[.slice none 0 0] 31)
             have bT3 : Below w0.heap.size wt w3 := (ba.mono lwt).grown hg3 (Nat.le_trans lwt lwa) (fun q hq => (World.ownsRow.lt ow q hq).1)
             have lw3 := bT3.size)
          | (at_builtin
             (refine wpList_appV _ rfl (.tmp 60) (.tmp 61) _ _ rfl w0.heap.size 31 tv u11 (vals rows) (by rfl) HO3.1 _ [.slice none 0 0] (by rfl) (srcV_one w3 Try.underlying27 _ (by rfl) _) (by rw [vals_length, HRL.out]; exact Nat.le_trans HK5.out (by decide)) (by rw [vals_length, HRL.out]; exact Nat.le_trans (Nat.mul_le_mul_right 24 HK5.out) (by decide)) (Nat.le_trans lwt (Nat.le_trans lw3 (anc.bl w3 _).size)) ?_)
             intro v4 w4 hown4 hg4 hat4
             have bT4 : Below w0.heap.size wt w4 := (bT3.alloc (Nat.le_trans lwt lw3) (.cells #[.slice none 0 0] 31)).grown hg4 (Nat.le_trans lwt (Nat.le_trans lw3 (anc.bl w3 _).size)) (fun q hq => (World.ownsRow.lt HO3.1 q hq).1)
             have T4 := Tt.keep bT4 HT2.out
             have t4c := T4.c0
             have t4f := T4.f0))
        have hE3 : OwnE w3 w0.heap.size (.slice A3 (k + 1 : Nat) c3) ((List.range (k + 1)).map (entF st (lists rs) bl)) := by
          unfold OwnE
          rw [range_next, List.length_append, HLK.out, evs_append]
          have he : evs [entF st (lists rs) bl k] = [.int .i64 st, .int .i64 S, .bool true] := by
            show [Value.int .i64 st, .int .i64 (crc.sum (blk (lists rs) k) : Nat), .bool (isLost bl k)] = _
            rw [← HBK.out, ← HS.out, ← HQ.out]
          show w3.ownsRow _ _ _ _ (k + 1) _
          rw [he]
          exact h3
        have hE4 : OwnE w4 w0.heap.size (.slice A3 (k + 1 : Nat) c3) ((List.range (k + 1)).map (entF st (lists rs) bl)) := World.ownsRow.kept (World.ownsRow.alloc hE3 (.cells #[.slice none 0 0] 31)) hg4 (rows_apart (World.ownsRow.alloc hE3 (.cells #[.slice none 0 0] 31)) HO3.1 ent_row)
        have hE5 := OwnE.cell_set (o := 0) hE4 HT2.out (.slice A3 (k + 1 : Nat) c3)
        have hO4 := HO3.more (r := ⟨none, 0, []⟩) (own_nil _ _ _) (hown4) hg4
        have hO5 := OwnRows.cell_set (o := 0) hO4 HT2.out (.slice A3 (k + 1 : Nat) c3)
        have hP4 : Own w4 w0.heap.size 5 _ _ := ((((HPt.out.below ba).kept hg3 (rows_apart (HPt.out.below ba) ow u8_ent)).alloc (.cells #[.slice none 0 0] 31)).kept hg4 (own_apart (((HPt.out.below ba).kept hg3 (rows_apart (HPt.out.below ba) ow u8_ent)).alloc (.cells #[.slice none 0 0] 31)) HO3.1 u8_other))
        have hP5 := own_set (o := 0) hP4 HT2.out (.slice A3 (k + 1 : Nat) c3)
        have hb5x : Below w.heap.size w (w4.setCell ⟨w.heap.size + 2, 0, none⟩ (.slice A3 (k + 1 : Nat) c3)) := (hbt.trans (bT4.mono (Nat.le_trans (Nat.le_add_right _ 3) hL3))).setCell (p := ⟨w.heap.size + 2, 0, none⟩) (Nat.le_add_right _ 2) _
        have hsz : w0.heap.size ≤ (w4.setCell ⟨w.heap.size + 2, 0, none⟩ (.slice A3 (k + 1 : Nat) c3)).heap.size := by rw [World.size_setCell]; exact Nat.le_trans lwt bT4.size
        have P4 := (Pt.keep bT4 (Nat.lt_of_lt_of_le (Nat.lt_succ_self _) (Nat.le_of_lt HT2.out))).apart (show w.heap.size + 1 ≠ w.heap.size + 2 by omega) (o := 0) (.slice A3 (k + 1 : Nat) c3)
        have G4 := (Gt.keep bT4 (Nat.lt_of_le_of_lt (Nat.le_add_right _ 2) HT2.out)).set (show w.heap.size ≠ w.heap.size + 2 by omega) (o := 0) (.slice A3 (k + 1 : Nat) c3)
        have T5x := T4.set (.slice A3 (k + 1 : Nat) c3)
        have hlist : (List.range (k + 1)).map (rowF (lists rs) bl) = (List.range k).map (rowF (lists rs) bl) ++ [[]] := by
          rw [range_next]
          have hr : rowF (lists rs) bl k = [] := by unfold rowF; rw [← HQ.out]; rfl
          rw [hr]
        rw [← hlist] at hO5
        go_roundw
        case rel =>
          exact ⟨k + 1, _, rows ++ [⟨none, 0, []⟩], Nat.succ_le_of_lt hlt, by go_num, T5x, P4, G4, hE5, hO5, (by rw [HPN.out]; exact hP5), hb5x, hsz⟩
        case measure => simp [RowKit.intOf]; omega
      case false =>
        have bX := b9
        have Et := E3
        have T5 := T5.keep bX (by omega)
        have P5 := P5.keep bX (by omega)
        have G5' := G5'.keep bX (by omega)
        have HE := Lib.hid (OwnE.below HE.out bX)
        have HO := Lib.hid (HO.out.below bX)
        have HP := Lib.hid (HP.out.below bX)
        have HBO := Lib.hid (HBO.out.below bX)
        have hb := bt hb bX
        have lw5 := Nat.le_trans lw5 bX.size
        clear bX b9
        obtain ⟨Y, yc, hv, -, -, hsl, hbase⟩ := id HP.out.form
        obtain ⟨X', xc', hvx, -, -, hslx, hbx⟩ := id HBO.out.form
        have p8 : (par8 (lists rs) bl k).length = 8 := par8_length _ _ _
        rw [p8] at hv
        rw [H8.out] at hvx
        simp only [Value.slice.injEq] at hvx
        obtain ⟨rfl, -, rfl⟩ := hvx
        subst hv
        have HTW := Lib.hid (two_c Y X yc xc 8 8 _ bk w9 p8 H8.out rfl hsl hslx (by decide))
        have HPN : Hid (par8 (lists rs) bl (k + 1) = zx (par8 (lists rs) bl k) bk) := Lib.hid (by rw [par8, if_neg (by rw [← HQ.out]; exact Bool.false_ne_true), HBK.out])
        clear hsl hslx p8 hbase hbx
        go_upto_region 15 with (go_at_call 34; (with_reducible refine HTW.out.mono ?_); rintro e wt ⟨⟨pv, rfl, hpo⟩, hbq⟩)
        have Et := Et.keep hbq lE
        have Tt := T5.keep hbq (by omega)
        have Pt := P5.keep hbq (by omega)
        have Gt := G5'.keep hbq (by omega)
        have HEt := Lib.hid (OwnE.below HE.out hbq)
        have HOt := Lib.hid (HO.out.below hbq)
        have HPt := Lib.hid (hpo.less lw5)
        have HBt := Lib.hid (HBO.out.below hbq)
        have hbt := bt hb hbq
        have lwt := Nat.le_trans lw5 hbq.size
        clear hpo hbq HTW HP HE HO HBO hb lw5 T5 P5 G5' E3
        obtain ⟨e0, e1, e2, -, -, -⟩ := id Et
        have t0 := Tt.c0
        have HT2 : Hid (w.heap.size + 2 < w0.heap.size) := Lib.hid (Nat.lt_of_lt_of_le (Nat.lt_succ_self _) hL3)
        have src1 := src_home (P := Try.prog) (heap_alloc_new wt (.cells #[.int .i64 st, .int .i64 S, .bool false] 54)) Try.underlying24 (by simp [Value.oneCell'])
        have ba := anc.bl wt (.cells #[.int .i64 st, .int .i64 S, .bool false] 54)
        have ow := OwnE.below HEt.out ba
        have lwa := ba.size
        go_wp2_with (first
          | (at_builtin
             (refine wpList_row _ rfl (.tmp 68) (.tmp 70) _ _ rfl w0.heap.size 3 24 54 (.agg #[.int .i64 0, .int .i64 0, .bool false]) Try.underlying24 tbl.e_info (by rfl) vE k (evs ((List.range k).map (entF st (lists rs) bl))) (by rfl) (by have h9 := ow; unfold OwnE at h9; rw [HLK.out] at h9; exact h9) _ 1 _ (by rfl) src1 (Nat.le_trans HK5.out (by decide)) (Nat.le_trans (Nat.mul_le_mul_right 24 HK5.out) (by decide)) (Nat.le_trans lwt lwa) ?_)
             intro v3 w3 h3 hg3
             obtain ⟨A3, c3, hv3, -, -, -⟩ := row_form h3
             subst hv3
             have HO3 := (OwnRows.kept (HOt.out.below ba) ow row_ent u8_ent hg3).alloc (.cells #[.slice X 8 xc] 31)
             have bT3 : Below w0.heap.size wt w3 := (ba.mono lwt).grown hg3 (Nat.le_trans lwt lwa) (fun q hq => (World.ownsRow.lt ow q hq).1)
             have lw3 := bT3.size)
          | (at_builtin
             (refine wpList_appV _ rfl (.tmp 72) (.tmp 74) _ _ rfl w0.heap.size 31 tv u11 (vals rows) (by rfl) HO3.1 _ [.slice X 8 xc] (by rfl) (srcV_one w3 Try.underlying27 _ (by rfl) _) (by rw [vals_length, HRL.out]; exact Nat.le_trans HK5.out (by decide)) (by rw [vals_length, HRL.out]; exact Nat.le_trans (Nat.mul_le_mul_right 24 HK5.out) (by decide)) (Nat.le_trans lwt (Nat.le_trans lw3 (anc.bl w3 _).size)) ?_)
             intro v4 w4 hown4 hg4 hat4
             have bT4 : Below w0.heap.size wt w4 := (bT3.alloc (Nat.le_trans lwt lw3) (.cells #[.slice X 8 xc] 31)).grown hg4 (Nat.le_trans lwt (Nat.le_trans lw3 (anc.bl w3 _).size)) (fun q hq => (World.ownsRow.lt HO3.1 q hq).1)
             have T4 := Tt.keep bT4 HT2.out
             have t4c := T4.c0
             have t4f := T4.f0))
        have hE3 : OwnE w3 w0.heap.size (.slice A3 (k + 1 : Nat) c3) ((List.range (k + 1)).map (entF st (lists rs) bl)) := by
          unfold OwnE
          rw [range_next, List.length_append, HLK.out, evs_append]
          have he : evs [entF st (lists rs) bl k] = [.int .i64 st, .int .i64 S, .bool false] := by
            show [Value.int .i64 st, .int .i64 (crc.sum (blk (lists rs) k) : Nat), .bool (isLost bl k)] = _
            rw [← HBK.out, ← HS.out, ← HQ.out]
          show w3.ownsRow _ _ _ _ (k + 1) _
          rw [he]
          exact h3
        have hE4 : OwnE w4 w0.heap.size (.slice A3 (k + 1 : Nat) c3) ((List.range (k + 1)).map (entF st (lists rs) bl)) := World.ownsRow.kept (World.ownsRow.alloc hE3 (.cells #[.slice X 8 xc] 31)) hg4 (rows_apart (World.ownsRow.alloc hE3 (.cells #[.slice X 8 xc] 31)) HO3.1 ent_row)
        have hE5 := OwnE.cell_set (o := 0) hE4 HT2.out (.slice A3 (k + 1 : Nat) c3)
        have hO4 := HO3.more (r := ⟨X, xc, bk⟩) (by have h9 := ((HBt.out.below ba).kept hg3 (rows_apart (HBt.out.below ba) ow u8_ent)).alloc (.cells #[.slice X 8 xc] 31); unfold Row.v; rw [H8.out]; exact h9) (by unfold Row.v; rw [H8.out]; exact hown4) hg4
        have hO5 := OwnRows.cell_set (o := 0) hO4 HT2.out (.slice A3 (k + 1 : Nat) c3)
        have hP4 : Own w4 w0.heap.size 5 _ _ := ((((HPt.out.below ba).kept hg3 (rows_apart (HPt.out.below ba) ow u8_ent)).alloc (.cells #[.slice X 8 xc] 31)).kept hg4 (own_apart (((HPt.out.below ba).kept hg3 (rows_apart (HPt.out.below ba) ow u8_ent)).alloc (.cells #[.slice X 8 xc] 31)) HO3.1 u8_other))
        have hP5 := own_set (o := 0) hP4 HT2.out (.slice A3 (k + 1 : Nat) c3)
        have hb5x : Below w.heap.size w (w4.setCell ⟨w.heap.size + 2, 0, none⟩ (.slice A3 (k + 1 : Nat) c3)) := (hbt.trans (bT4.mono (Nat.le_trans (Nat.le_add_right _ 3) hL3))).setCell (p := ⟨w.heap.size + 2, 0, none⟩) (Nat.le_add_right _ 2) _
        have hsz : w0.heap.size ≤ (w4.setCell ⟨w.heap.size + 2, 0, none⟩ (.slice A3 (k + 1 : Nat) c3)).heap.size := by rw [World.size_setCell]; exact Nat.le_trans lwt bT4.size
        have P4 := (Pt.keep bT4 (Nat.lt_of_lt_of_le (Nat.lt_succ_self _) (Nat.le_of_lt HT2.out))).apart (show w.heap.size + 1 ≠ w.heap.size + 2 by omega) (o := 0) (.slice A3 (k + 1 : Nat) c3)
        have G4 := (Gt.keep bT4 (Nat.lt_of_le_of_lt (Nat.le_add_right _ 2) HT2.out)).set (show w.heap.size ≠ w.heap.size + 2 by omega) (o := 0) (.slice A3 (k + 1 : Nat) c3)
        have T5x := T4.set (.slice A3 (k + 1 : Nat) c3)
        have hlist : (List.range (k + 1)).map (rowF (lists rs) bl) = (List.range k).map (rowF (lists rs) bl) ++ [bk] := by
          rw [range_next]
          have hr : rowF (lists rs) bl k = bk := by unfold rowF; rw [← HQ.out]; exact HBK.out.symm
          rw [hr]
        rw [← hlist] at hO5
        go_roundw
        case rel =>
          exact ⟨k + 1, _, rows ++ [⟨X, xc, bk⟩], Nat.succ_le_of_lt hlt, by go_num, T5x, P4, G4, hE5, hO5, (by rw [HPN.out]; exact hP5), hb5x, hsz⟩
        case measure => simp [RowKit.intOf]; omega
    · obtain rfl : k = D := by omega
      have i1 : ¬ (k : Int) < (k : Int) := by omega
      obtain ⟨Y, yc, hv, -, -, hsl, -⟩ := id HP.out.form
      have p8 : (par8 (lists rs) bl k).length = 8 := par8_length _ _ _
      rw [p8] at hv
      subst hv
      obtain ⟨S, hS⟩ : ∃ S : Nat, S = crc.sum (par8 (lists rs) bl k) := ⟨_, rfl⟩
      have HS := Lib.hid hS
      have HEN := Lib.hid (show ∀ W, Below w5.heap.size w5 W → Calls Try.prog 35 #[.int .i64 st, .slice Y (8 : Nat) yc] W fun e w' => e = .returned (.agg #[.int .i64 st, .int .i64 S, .bool false]) ∧ Below W.heap.size W w' from fun W hW => by
        rw [HS.out]
        exact rentry_any st Y 8 yc (par8 (lists rs) bl k) W p8 (by decide) (hsl.next hW))
      have P8 := Lib.hid p8
      have HRL : Hid (rows.length = k) := Lib.hid (by have := HO.out.len; simpa using this)
      clear hS p8 hsl hlt
      obtain ⟨g0, g1, g2, g3, g4⟩ := id G5'
      have t0 := T5.c0
      have HT2 : Hid (w.heap.size + 2 < w0.heap.size) := Lib.hid (Nat.lt_of_lt_of_le (Nat.lt_succ_self _) hL3)
      go_upto_region 16 with fail
      refine wp_region_tail (S := fun W => W.cell? ⟨w.heap.size + 2, 0, none⟩ = some vE ∧ Below w0.heap.size w5 W) 8 rfl (by kernel_rfl) (by kernel_rfl) ⟨t0, below_dr (Below.refl _ _)⟩ (fun hS => ?_)
      simp only [List.take_succ_cons, List.take_zero]
      (refine wpAnyH_take (i := 0) (v := ?_) rfl (by kernel_rfl) (by kernel_rfl) (by kernel_rfl) (fun _ _ _ h => h) (Or.inl ⟨by rfl, ?_⟩) (by assumption) ?_; rotate_left; (focus (intro w hSw; (try dsimp only at hSw); go_split_ands; go_simp <;> with_reducible rfl)); simp only [List.getElem_toArray, List.getElem_cons_zero, Act.put, List.setIfInBounds_toArray, List.set_cons_zero, List.set_cons_succ])
      (refine wpAnyH_take (i := 1) (v := ?_) rfl (by kernel_rfl) (by kernel_rfl) (by kernel_rfl) (fun _ _ _ h => h) (Or.inl ⟨by rfl, ?_⟩) (by assumption) ?_; rotate_left; (focus (intro w hSw; (try dsimp only at hSw); go_split_ands; go_simp <;> with_reducible rfl)); simp only [List.getElem_toArray, List.getElem_cons_zero, List.getElem_cons_succ, Act.put, List.setIfInBounds_toArray, List.set_cons_zero, List.set_cons_succ])
      (refine wpAnyH_take (i := 2) (v := ?_) rfl (by kernel_rfl) (by kernel_rfl) (by kernel_rfl) (fun _ _ _ h => h) (Or.inl ⟨by rfl, ?_⟩) (by assumption) ?_; rotate_left; (focus (intro w hSw; (try dsimp only at hSw); go_split_ands; go_simp <;> with_reducible rfl)); simp only [List.getElem_toArray, List.getElem_cons_zero, List.getElem_cons_succ, Act.put, List.setIfInBounds_toArray, List.set_cons_zero, List.set_cons_succ])
      (refine wpAnyH_take (i := 3) (v := ?_) rfl (by kernel_rfl) (by kernel_rfl) (by kernel_rfl) (fun _ _ _ h => h) (Or.inl ⟨by rfl, ?_⟩) (by assumption) ?_; rotate_left; (focus (intro w hSw; (try dsimp only at hSw); go_split_ands; go_simp <;> with_reducible rfl)); simp only [List.getElem_toArray, List.getElem_cons_zero, List.getElem_cons_succ, Act.put, List.setIfInBounds_toArray, List.set_cons_zero, List.set_cons_succ])
      refine wpAnyH_ready (rs := [4]) (by kernel_rfl) (by simp) ?_
      refine AllReadyH.cons rfl (fun K hK => ?_) AllReadyH.nil
      go_simp
      (with_reducible refine (HEN.out _ (below_dr (Below.refl _ _))).mono ?_)
      rintro e wb ⟨rfl, hbb⟩
      have b2 : Below w5.heap.size w5 wb := bt (below_dr (Below.refl _ _)) hbb
      refine hK.out _ _ ⟨ks (b2.mono lw5) HT2.out t0, b2.mono lw5⟩ (fun hS => ?_)
      clear hK K
      refine wpAnyH_ready (rs := [5]) (by kernel_rfl) (by simp) ?_
      refine AllReadyH.cons rfl (fun K hK => ?_) AllReadyH.nil
      go_simp
      have b3 : Below w5.heap.size w5 (wb.alloc (.cells #[.int .i64 st, .int .i64 S, .bool false] 54)) := kal b2 _
      have src := src_home (P := Try.prog) (heap_alloc_new wb (.cells #[.int .i64 st, .int .i64 S, .bool false] 54)) Try.underlying24 (by simp [Value.oneCell'])
      refine hK.out _ _ ⟨ks (b3.mono lw5) HT2.out t0, b3.mono lw5⟩ (fun hS => ?_)
      clear hK K
      have ow := OwnE.below HE.out b3
      have l3 := b3.size
      have HO3 := HO.out.below b3
      have HP3 := HP.out.below b3
      generalize wb.alloc (.cells #[.int .i64 st, .int .i64 S, .bool false] 54) = wc at *
      refine wpAnyH_ready (rs := [6]) (by kernel_rfl) (by simp) ?_
      refine AllReadyH.cons rfl (fun K hK => ?_) AllReadyH.nil
      refine step_row wc (by rfl) _ _ _ _ (by rfl) w0.heap.size 3 24 54 (.agg #[.int .i64 0, .int .i64 0, .bool false]) Try.underlying24 tbl.e_info (by rfl) vE k (evs ((List.range k).map (entF st (lists rs) bl))) (by rfl) (by have h9 := ow; unfold OwnE at h9; rw [HLK.out] at h9; exact h9) _ 1 _ (by rfl) src (Nat.le_trans (show k + 1 ≤ 5 by omega) (by decide)) (Nat.le_trans (Nat.mul_le_mul_right 24 (show k + 1 ≤ 5 by omega)) (by decide)) (Nat.le_trans lw5 l3) ?_
      intro v3 w3 h3 hg3
      have b4 : Below w0.heap.size w5 w3 := (b3.mono lw5).grown hg3 (Nat.le_trans lw5 l3) (fun q hq => (World.ownsRow.lt ow q hq).1)
      have HO4 := OwnRows.kept HO3 ow row_ent u8_ent hg3
      have HP4 := HP3.kept hg3 (rows_apart HP3 ow u8_ent)
      refine hK.out _ _ ⟨ks b4 HT2.out t0, b4⟩ (fun hS => ?_)
      clear hK K
      simp only [List.getElem_toArray, List.getElem_cons_zero, List.getElem_cons_succ, Act.put, List.setIfInBounds_toArray, List.set_cons_zero, List.set_cons_succ]
      (refine wpAnyH_take (i := 7) (v := ?_) rfl (by kernel_rfl) (by kernel_rfl) (by kernel_rfl) (fun _ _ _ h => h) (Or.inl ⟨by rfl, ?_⟩) (by assumption) ?_; rotate_left; (focus (intro w hSw; (try dsimp only at hSw); go_split_ands; go_simp <;> with_reducible rfl)); simp only [List.getElem_toArray, List.getElem_cons_zero, List.getElem_cons_succ, Act.put, List.setIfInBounds_toArray, List.set_cons_zero, List.set_cons_succ])
      refine wpAnyH_done (by kernel_rfl) ?_ _
      have T6 := T5.keep b4 HT2.out
      have P6 := P5.keep b4 (Nat.lt_of_lt_of_le (Nat.lt_succ_self _) (Nat.le_of_lt HT2.out))
      have c6 := T6.c0
      have f6 := T6.f0
      obtain ⟨A3, c3, rfl, -, -, -⟩ := row_form h3
      simp only [tailQ]
      go_simp
      have h4 : OwnE w3 w0.heap.size (.slice A3 (k + 1 : Nat) c3) (fullE st (lists rs) bl k) := by
        unfold OwnE fullE
        rw [List.length_append, HLK.out, evs_append]
        have he : evs [(⟨st, (crc.sum (par8 (lists rs) bl k) : Nat), false⟩ : Ent)] = [.int .i64 st, .int .i64 S, .bool false] := by rw [HS.out]; rfl
        rw [he]
        exact h3
      have h5 := OwnE.cell_set (o := 0) h4 HT2.out (.slice A3 (k + 1 : Nat) c3)
      have HO5 := OwnRows.cell_set (o := 0) HO4 HT2.out (.slice A3 (k + 1 : Nat) c3)
      have HP5 := own_set (o := 0) HP4 HT2.out (.slice A3 (k + 1 : Nat) c3)
      have hb6 : Below w.heap.size w (w3.setCell ⟨w.heap.size + 2, 0, none⟩ (.slice A3 (k + 1 : Nat) c3)) := (hb.trans (b4.mono (Nat.le_trans (Nat.le_add_right _ 3) hL3))).setCell (p := ⟨w.heap.size + 2, 0, none⟩) (Nat.le_add_right _ 2) _
      have T7 := T6.set (.slice A3 (k + 1 : Nat) c3)
      have P7 := P6.apart (show w.heap.size + 1 ≠ w.heap.size + 2 by omega) (o := 0) (.slice A3 (k + 1 : Nat) c3)
      have lw7 : w0.heap.size ≤ (w3.setCell ⟨w.heap.size + 2, 0, none⟩ (.slice A3 (k + 1 : Nat) c3)).heap.size := by rw [World.size_setCell]; exact Nat.le_trans lw5 b4.size
      clear h4 HO4 HP4 T6 P6 c6 f6 g0 g1 g2 g3 g4 t0 hS h3 hg3 b4 HO3 HP3 ow l3 b3 src b2 hbb
      generalize w3.setCell ⟨w.heap.size + 2, 0, none⟩ (.slice A3 (k + 1 : Nat) c3) = w7 at *
      have t0 := T7.c0
      have p0 := P7.c0
      have pf := P7.f0
      go_upto_region 17 with fail
      have HSX := Lib.hid (show ∀ W, Below w0.heap.size w7 W → W.cell? ⟨w.heap.size + 2, 0, none⟩ = some (.slice A3 (k + 1 : Nat) c3) from fun W h => ks h HT2.out t0)
      refine wp_region_held_drew (S := fun W => W.cell? ⟨w.heap.size + 2, 0, none⟩ = some (.slice A3 (k + 1 : Nat) c3)) (by kernel_rfl) t0 (fun hS => ?_)
      (refine wpAnyH_take (i := 0) (v := ?_) rfl (by kernel_rfl) (by kernel_rfl) (by kernel_rfl) (fun _ _ _ h => h) (Or.inl ⟨by rfl, ?_⟩) (by assumption) ?_; rotate_left; (focus (intro w hSw; (try dsimp only at hSw); go_split_ands; go_simp <;> with_reducible rfl)); simp only [List.getElem_toArray, List.getElem_cons_zero, Act.put, List.setIfInBounds_toArray, List.set_cons_zero, List.set_cons_succ])
      (refine wpAnyH_take (i := 1) (v := ?_) rfl (by kernel_rfl) (by kernel_rfl) (by kernel_rfl) (fun _ _ _ h => h) (Or.inl ⟨by rfl, ?_⟩) (by assumption) ?_; rotate_left; (focus (intro w hSw; (try dsimp only at hSw); go_split_ands; go_simp <;> with_reducible rfl)); simp only [List.getElem_toArray, List.getElem_cons_zero, List.getElem_cons_succ, Act.put, List.setIfInBounds_toArray, List.set_cons_zero, List.set_cons_succ])
      (refine wpAnyH_take (i := 2) (v := ?_) rfl (by kernel_rfl) (by kernel_rfl) (by kernel_rfl) (fun _ _ _ h => h) (Or.inl ⟨by rfl, ?_⟩) (by assumption) ?_; rotate_left; (focus (intro w hSw; (try dsimp only at hSw); go_split_ands; go_simp <;> with_reducible rfl)); simp only [List.getElem_toArray, List.getElem_cons_zero, List.getElem_cons_succ, Act.put, List.setIfInBounds_toArray, List.set_cons_zero, List.set_cons_succ])
      refine wpAnyH_ready (rs := [3]) (by kernel_rfl) (by simp) ?_
      refine AllReadyH.cons rfl (fun K hK => ?_) AllReadyH.nil
      go_simp
      have d1 : Below w7.heap.size w7 w7.drew := below_dr (Below.refl _ _)
      have b3 := kal d1 (.cells #[.slice Y 8 yc] 31)
      refine hK.out _ _ (HSX.out _ (b3.mono lw7)) (fun hS => ?_)
      clear hK K
      refine wpAnyH_ready (rs := [4]) (by kernel_rfl) (by simp) ?_
      refine AllReadyH.cons rfl (fun K hK => ?_) AllReadyH.nil
      have HO8 := HO5.below b3
      have HP8 := HP5.below b3
      have l3 := b3.size
      refine step_appV _ (by rfl) _ _ _ _ (by rfl) w0.heap.size 31 tv u11 (vals rows) (by rfl) HO8.1 _ [.slice Y 8 yc] (by rfl) (srcV_one w7.drew Try.underlying27 _ (by rfl) _) (by rw [vals_length, HRL.out]; exact Nat.le_trans (show k + 1 ≤ 5 by omega) (by decide)) (by rw [vals_length, HRL.out]; exact Nat.le_trans (Nat.mul_le_mul_right 24 (show k + 1 ≤ 5 by omega)) (by decide)) (Nat.le_trans lw7 l3) ?_
      intro v4 w4 hown4 hg4 hat4
      have b4 : Below w0.heap.size w7 w4 := (b3.mono lw7).grown hg4 (Nat.le_trans lw7 l3) (fun q hq => (World.ownsRow.lt HO8.1 q hq).1)
      have hO4 := HO8.more (r := ⟨Y, yc, par8 (lists rs) bl k⟩) (by unfold Row.v; rw [P8.out]; exact HP8) (by unfold Row.v; rw [P8.out]; exact hown4) hg4
      have hE4 := World.ownsRow.kept (OwnE.below h5 b3) hg4 (rows_apart (OwnE.below h5 b3) HO8.1 ent_row)
      refine hK.out _ _ (HSX.out _ b4) (fun hS => ?_)
      clear hK K
      have P9 := P7.keep b4 (Nat.lt_of_lt_of_le (Nat.lt_succ_self _) (Nat.le_of_lt HT2.out))
      have p0 := P9.c0
      have pf := P9.f0
      simp only [List.getElem_toArray, List.getElem_cons_zero, List.getElem_cons_succ, Act.put, List.setIfInBounds_toArray, List.set_cons_zero, List.set_cons_succ]
      refine wpAnyH_ready (rs := [5]) (by kernel_rfl) (by simp) ?_
      refine AllReadyH.cons rfl (fun K hK => ?_) AllReadyH.nil
      go_simp
      refine hK.out _ _ (by show World.cell? (w4.setCell ⟨w.heap.size + 1, 0, none⟩ (.slice A3 (k + 1 : Nat) c3)) _ = _; rw [World.cell?_setCell_other _ _ _ _ (by simp)]; exact HSX.out _ b4) (fun hS => ?_)
      clear hK K
      have k7 := P9.set (.slice A3 (k + 1 : Nat) c3)
      have hO5 := OwnRows.cell_set (o := 0) hO4 (show w.heap.size + 1 < w0.heap.size from Nat.lt_of_lt_of_le (Nat.lt_succ_self _) (Nat.le_of_lt HT2.out)) (.slice A3 (k + 1 : Nat) c3)
      have hE5 := OwnE.cell_set (o := 0) (es := fullE st (lists rs) bl k) hE4 (show w.heap.size + 1 < w0.heap.size from Nat.lt_of_lt_of_le (Nat.lt_succ_self _) (Nat.le_of_lt HT2.out)) (.slice A3 (k + 1 : Nat) c3)
      have hbz : Below w.heap.size w (w4.setCell ⟨w.heap.size + 1, 0, none⟩ (.slice A3 (k + 1 : Nat) c3)) := (hb6.trans (b4.mono (Nat.le_trans (Nat.le_add_right _ 3) hL3))).setCell (p := ⟨w.heap.size + 1, 0, none⟩) (Nat.le_add_right _ 1) _
      clear p0 pf P9 hO4 hE4 hown4 hg4 hat4
      generalize (w4.setCell ⟨w.heap.size + 1, 0, none⟩ (.slice A3 (k + 1 : Nat) c3)) = w8 at *
      (refine wpAnyH_take (i := 6) (v := ?_) rfl (by kernel_rfl) (by kernel_rfl) (by kernel_rfl) (fun _ _ _ h => h) (Or.inl ⟨by rfl, ?_⟩) (by assumption) ?_; rotate_left; (focus (intro w hSw; (try dsimp only at hSw); go_split_ands; go_simp <;> with_reducible rfl)); simp only [List.getElem_toArray, List.getElem_cons_zero, List.getElem_cons_succ, Act.put, List.setIfInBounds_toArray, List.set_cons_zero, List.set_cons_succ])
      refine wpAnyH_done (by kernel_rfl) ?_ _
      have k0 := k7.c0
      go_wp2_with fail
      obtain ⟨t, hv, hte, hto⟩ := ownE_tv hE5
      have hww : w.heap.size ≤ w0.heap.size := Nat.le_trans (Nat.le_add_right _ 3) hL3
      exact bodyPost_ret (v := .tuple #[.agg #[.slice A3 (k + 1 : Nat) c3], v4]) (by simp [results, Try.results25, go_sem, k0]) rfl ⟨⟨t, v4, by rw [tbl.TV.v, ← hv], hte, OwnE.less hto hww, _, OwnRows.less hO5 hww⟩, hbz⟩
end Go.Proofs.Ytajjmllolaajoaa.zon
