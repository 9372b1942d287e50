/-
  The laws' example of package scan: two transactions, and one copy gone. Conditions: 'Csc'.
-/
import Derived.Test.YtbfdpibjicjagaaGreatDoorGSb
import Derived.Test.YtbfdpibjicjagaaGreatDoorGSa
import Derived.Test.YtbfdpibjicjagaaGreatDoorGRg
import Derived.Test.YtbfdpibjicjagaaGreatDoorAnF
set_option maxHeartbeats 8000000
set_option maxRecDepth 100000
namespace Go.Proofs.YtbfdpibjicjagaaGreatDoor.scn
open Go.RowKit Go.Lib
open Go.Proofs.YtbfdpibjicjagaaGreatDoor.gmt (Ok)
open Go.Proofs.YtbfdpibjicjagaaGreatDoor.anc (AV AC ac_new bl kal kst ks bm ka row_form)
open Go.Proofs.YtbfdpibjicjagaaGreatDoor.tbl (G5 g5_new)
open Go.Proofs.YtbfdpibjicjagaaGreatDoor.lrc (Rcd cellN)
open Go.Proofs.YtbfdpibjicjagaaGreatDoor.rng (XV TxR Txd tds tds_length LogOk OwnT ownT_in log_c ok1 wkL wk_log wk_logOk)
open Go.Proofs.YtbfdpibjicjagaaGreatDoor.nwt (GV GotR gds gvs gds_length)
theorem wk_ws : ∃ b, wsL 14 1 0 (wantV fun s => if s = 1 then some 0 else none) wkL = [(2, b)] := by
 have e1 : (rng.imsX 1 1 (rng.tabB 1) 7 0 1).length = 1 := rng.imsX_length _ _ _ _ _ _
 have e2 : (rng.imsX 1 1 (rng.tabB 1) 7 1 2).length = 2 := rng.imsX_length _ _ _ _ _ _
 refine ⟨sel.enc (cellN 14 1 0 1) (recT 0 ⟨1, 0, 2, rng.imsX 1 1 (rng.tabB 1) 7 0 1⟩ 1).sq.toNat (lrc.encR (recT 0 ⟨1, 0, 2, rng.imsX 1 1 (rng.tabB 1) 7 0 1⟩ 1)), ?_⟩
 simp [wsL, wkL, wsT, wsF, wrK, wantV, e1, e2, List.range'_succ]
theorem ownT_cs {w : World} {base g o : Nat} {v : Value} {ts : List TxR} (h : OwnT w base v ts) (hg : g < base) (x : Value) : OwnT (w.setCell ⟨g, o, none⟩ x) base v ts :=
 ⟨ownsRow_setCell_other h.1 (fun k => by have := (World.ownsRow.lt h.1 g k).1; omega) x, fun r hr => (h.2 r hr).cell_set hg x⟩
theorem wk_scan (w : World) (hc : Csc w) : Calls Tryz.prog 17 #[] w fun e w' => e = .returned (.bool true) ∧ Below w.heap.size w w' := by
 have HC := Lib.hid hc
 have HS := Lib.hid fun W => tbl.some_one W
 have HF := Lib.hid (show ∀ W, Calls Tryz.prog 36 #[.agg #[.int .i64 1, .int .i64 1, .int .i64 0, .int .i64 14, .int .i64 1], .string ⟨#[]⟩] W fun e w' => (∃ x : AV, e = .returned (.agg #[.int .i64 x.gen, .int .i64 x.ep, .int .i64 x.pos, .int .i64 x.seq, .int .i64 x.last, .string x.lab, .slice x.HA x.hs.length x.hc]) ∧ x.d = anc.firstA 1 1 ⟨#[]⟩ ∧ x.In w' w'.heap.size) ∧ Below W.heap.size W w' from fun W => by
  refine (anc.rfirst_any 1 1 0 14 1 ⟨#[]⟩ W ok1).mono ?_
  rintro e w' ⟨⟨y, rfl, hyd, hyo⟩, hb⟩
  exact ⟨⟨y, rfl, hyd, AV.Own.inn hyo⟩, hb⟩)
 clear hc
 go_enter Tryz.func17, Tryz.ntmps17
 go_upto_region 2 with (go_at_call 35; (with_reducible refine (HS.out _).mono ?_); rintro e w1 ⟨rfl, hb1⟩)
 have GG := g5_new w1 1 1 0 14 1
 have hw := kal hb1 (.cells #[.int .i64 1, .int .i64 1, .int .i64 0, .int .i64 14, .int .i64 1] 23)
 have lg : w1.heap.size < (w1.alloc (.cells #[.int .i64 1, .int .i64 1, .int .i64 0, .int .i64 14, .int .i64 1] 23)).heap.size := by simp
 clear hb1
 generalize w1.heap.size = gg at *
 generalize w1.alloc (.cells #[.int .i64 1, .int .i64 1, .int .i64 0, .int .i64 14, .int .i64 1] 23) = w2 at *
 obtain ⟨g0, g1, g2, g3, g4⟩ := id GG
 go_upto_region 3 with (go_at_call 36; (with_reducible refine (HF.out _).mono ?_); rintro e w3 ⟨⟨x, rfl, hxd, hxi⟩, hb3⟩)
 have FF := ac_new w3 x
 have lx : w3.heap.size < (w3.alloc (.cells #[.int .i64 x.gen, .int .i64 x.ep, .int .i64 x.pos, .int .i64 x.seq, .int .i64 x.last, .string x.lab, .slice x.HA x.hs.length x.hc] 26)).heap.size := by simp
 have hb4 := kal hb3 (.cells #[.int .i64 x.gen, .int .i64 x.ep, .int .i64 x.pos, .int .i64 x.seq, .int .i64 x.last, .string x.lab, .slice x.HA x.hs.length x.hc] 26)
 have hxi4 := hxi.next (bl w3 (.cells #[.int .i64 x.gen, .int .i64 x.ep, .int .i64 x.pos, .int .i64 x.seq, .int .i64 x.last, .string x.lab, .slice x.HA x.hs.length x.hc] 26))
 have G4 := GG.keep hb4 lg
 have lg4 := Nat.lt_of_lt_of_le lg hb4.size
 have hw4 := bt hw hb4
 clear hb3 hb4 hxi GG lg hw g0 g1 g2 g3 g4
 generalize w3.heap.size = gx at *
 generalize w3.alloc (.cells #[.int .i64 x.gen, .int .i64 x.ep, .int .i64 x.pos, .int .i64 x.seq, .int .i64 x.last, .string x.lab, .slice x.HA x.hs.length x.hc] 26) = w4 at *
 have hp0 : x.pos = 0 := congrArg anc.Anc.pos hxd
 have hq1 : x.seq = 1 := congrArg anc.Anc.seq hxd
 have hlab : x.lab = ⟨#[]⟩ := congrArg anc.Anc.lab hxd
 have hgood : anc.Good 1 1 0 14 x.d := by rw [hxd]; exact anc.first_good ok1 (by decide)
 have hep : x.ep = 0 := congrArg anc.Anc.ep hxd
 have hla : x.last = 0 := congrArg anc.Anc.last hxd
 have HL := Lib.hid (show ∀ W, Below w4.heap.size w4 W → Calls Tryz.prog 21 #[.agg #[.int .i64 1, .int .i64 1, .int .i64 0, .int .i64 14, .int .i64 1], .agg #[.int .i64 x.gen, .int .i64 x.ep, .int .i64 x.pos, .int .i64 x.seq, .int .i64 x.last, .string x.lab, .slice x.HA x.hs.length x.hc], .slice (some ⟨W.heap.size, 0, none⟩) 2 2, .int .u8 7] (W.alloc (.cells #[.int .i64 0, .int .i64 1] 3)) fun e w' => (∃ (A : Option Addr) (c : Nat) (ts : List TxR), e = .returned (.slice A 2 c) ∧ tds ts = wkL ∧ ts.length = 2 ∧ XV.In w' w'.heap.size ⟨A, c, ts⟩) ∧ Below W.heap.size W w' from fun W hW => by
  have h9 := log_c 1 1 0 14 1 x.gen x.ep x.pos x.seq x.last x.lab x.HA x.hs.length x.hc (some ⟨W.heap.size, 0, none⟩) 2 [0, 1] 2 7 (W.alloc (.cells #[.int .i64 0, .int .i64 1] 3)) ok1 (SlV.of_block (heap_alloc_new W _) rfl (by simp)) rfl (by omega) (by omega) (by omega) (by omega)
  refine h9.mono ?_
  rintro e w' ⟨⟨v, ts, rfl, hts, ho⟩, hb⟩
  rw [hp0, hq1, show UInt8.ofNat (7 : Int).toNat = 7 from rfl, wk_log] at hts
  obtain ⟨A, c, hv, hin⟩ := ownT_in ho
  have hl : ts.length = 2 := by rw [← tds_length, hts]; rfl
  rw [hl] at hv
  exact ⟨⟨A, c, ts, by rw [hv], hts, hl, hin⟩, bt (bl W _) hb⟩)
 have HM := Lib.hid (show ∀ W, Below w4.heap.size w4 W → G5 W gg 1 1 0 14 1 ∧ AC W gx x from fun W hW => ⟨G4.keep hW lg4, FF.keep hW lx⟩)
 have HG := Lib.hid hgood
 have HPS := Lib.hid (And.intro hp0 (And.intro hq1 (And.intro hlab (And.intro hep hla))))
 clear hxd hp0 hq1 hlab hgood hep hla
 obtain ⟨⟨g0, g1, g2, g3, g4⟩, ⟨c0, c1, c2, c3, c4, c5, c6⟩⟩ := HM.out w4 (Below.refl _ _)
 go_upto_region 4 with (go_at_call 21; (with_reducible refine (HL.out w4 (Below.refl _ _)).mono ?_); rintro e w5 ⟨⟨A, c, ts, rfl, hts, htl, hin⟩, hb5⟩)
 have hlog : LogOk 1 1 14 0 1 0 (tds ts) := by rw [hts]; exact wk_logOk
 have HWR := Lib.hid (show Calls Tryz.prog 22 #[.agg #[.int .i64 1, .int .i64 1, .int .i64 0, .int .i64 14, .int .i64 1], .slice A 2 c, .int .i64 0] w5 fun e w' => (∃ (p q pc qc : Nat) (F S : List GotR), e = .returned (.tuple #[.slice (some ⟨p, 0, none⟩) 14 pc, .slice (some ⟨q, 0, none⟩) 14 qc]) ∧ gds F = writF 14 1 0 0 wkL ∧ gds S = writF 14 1 1 0 wkL ∧ TwoR w' w5.heap.size p pc q qc 14 F S) ∧ Below w5.heap.size w5 w' from by
  refine (written_c 1 1 0 14 1 0 0 1 ⟨A, c, ts⟩ 2 w5 ok1 hin htl (by decide) (by decide) hlog (by decide) ⟨by decide, by decide⟩).mono ?_
  rintro e w' ⟨⟨F, S, rfl, hF, hS, hFo, hSo, hAp⟩, hb⟩
  rw [hts] at hF hS
  have lF : F.rs.length = 14 := by have := congrArg List.length hF; rw [gds_length, writF_length] at this; exact this
  have lS : S.rs.length = 14 := by have := congrArg List.length hS; rw [gds_length, writF_length] at this; exact this
  obtain ⟨p, q, hp, hq, hT⟩ := two_own hFo hSo hAp lF lS (by decide)
  exact ⟨⟨p, q, F.c, S.c, F.rs, S.rs, by unfold GV.v; rw [hp, hq, lF, lS], hF, hS, hT⟩, hb⟩)
 have HTS := Lib.hid (And.intro hts htl)
 clear hlog hts htl g0 g1 g2 g3 g4 c0 c1 c2 c3 c4 c5 c6
 obtain ⟨⟨g0, g1, g2, g3, g4⟩, -⟩ := HM.out w5 hb5
 go_upto_region 5 with (go_at_call 22; (with_reducible refine HWR.out.mono ?_); rintro e w6 ⟨⟨p, q, pc, qc, F, S, rfl, hF, hS, hT⟩, hb6⟩)
 have hb46 := bt hb5 hb6
 obtain ⟨r1, hr1, -, -, x0, x1⟩ := hT.atF (j := 1) (by decide)
 have z0 := hT.fz 2
 have z1 := hT.fz 3
 have hTp := hT.lt1
 have hTq := hT.lt2
 go_upto_region 6 with fail
 have hyT : TwoR ((w6.setCell ⟨p, 2, none⟩ (.int .i64 6)).setCell ⟨p, 3, none⟩ (.slice none 0 0)) w5.heap.size p pc q qc 14 (F.set 1 ⟨6, none, 0, []⟩) S := hT.put (j := 1) (by decide) (r := ⟨6, none, 0, []⟩) (m := 0) rfl (byT_nil _ _ _ _ _ (Nat.zero_le _))
 have l45 := hb5.size
 have hb47 : Below w4.heap.size w4 ((w6.setCell ⟨p, 2, none⟩ (.int .i64 6)).setCell ⟨p, 3, none⟩ (.slice none 0 0)) := (hb46.setCell (p := ⟨p, 2, none⟩) (show w4.heap.size ≤ p by omega) _).setCell (p := ⟨p, 3, none⟩) (show w4.heap.size ≤ p by omega) _
 have hin7 : XV.In ((w6.setCell ⟨p, 2, none⟩ (.int .i64 6)).setCell ⟨p, 3, none⟩ (.slice none 0 0)) w5.heap.size ⟨A, c, ts⟩ := hin.below ((hb6.setCell (p := ⟨p, 2, none⟩) (show w5.heap.size ≤ p by omega) _).setCell (p := ⟨p, 3, none⟩) (show w5.heap.size ≤ p by omega) _)
 clear x0 x1 z0 z1 hTp hTq hT hb46 hb6 hr1 g0 g1 g2 g3 g4 hin
 generalize (w6.setCell ⟨p, 2, none⟩ (.int .i64 6)).setCell ⟨p, 3, none⟩ (.slice none 0 0) = w7 at *
 obtain ⟨b, hb⟩ := wk_ws
 obtain ⟨hp0, hq1, hlab, hep, hla⟩ := HPS.out
 have hpl : (0 : Int) ≤ 0 ∧ (0 : Int) < 14 := by decide
 have hne : lrc.NumOk 0 := ⟨by decide, by decide⟩
 have hgF : gds (F.set 1 ⟨6, none, 0, []⟩) = (writF 14 1 0 0 wkL).set 1 (6, []) := by unfold gds; rw [List.map_set]; exact congrArg (fun q => q.set 1 (6, [])) hF
 have hgS : gds (S.set 1 ⟨6, none, 0, []⟩) = (writF 14 1 1 0 wkL).set 1 (6, []) := by unfold gds; rw [List.map_set]; exact congrArg (fun q => q.set 1 (6, [])) hS
 have hk0 : ∀ s : Int, 0 ≤ s → s < 14 → kOf 1 1 14 1 0 (writF 14 1 0 0 wkL) s = some (recAt 14 0 wkL s) := fun s h0 h1 => kOf_writ ok1 hpl wk_logOk (by decide) hne (.inl rfl) h0 h1
 have hk1 : ∀ s : Int, 0 ≤ s → s < 14 → kOf 1 1 14 1 1 (writF 14 1 1 0 wkL) s = some (recAt 14 0 wkL s) := fun s h0 h1 => kOf_writ ok1 hpl wk_logOk (by decide) hne (.inr rfl) h0 h1
 have hsF : ∀ s : Int, 0 ≤ s → kOf 1 1 14 1 0 ((writF 14 1 0 0 wkL).set 1 (6, [])) s = if s = 1 then none else kOf 1 1 14 1 0 (writF 14 1 0 0 wkL) s := fun s h0 => by
  rw [kOf_set (by rw [writF_length]; decide) h0, sayK_err (by decide)]
  rfl
 have hsS : ∀ s : Int, 0 ≤ s → kOf 1 1 14 1 1 ((writF 14 1 1 0 wkL).set 1 (6, [])) s = if s = 1 then none else kOf 1 1 14 1 1 (writF 14 1 1 0 wkL) s := fun s h0 => by
  rw [kOf_set (by rw [writF_length]; decide) h0, sayK_err (by decide)]
  rfl
 have HSN1 := Lib.hid (show scanN 1 1 14 1 x.ep x.last x.pos x.seq (gds (F.set 1 ⟨6, none, 0, []⟩)) (gds S) = (wkL, [(2, b)], 0) from by
  rw [hgF, hS, hep, hla, hp0, hq1, ← hb]
  unfold scanN
  refine scan_finds (fun s => if s = 1 then some 0 else none) ok1 hpl wk_logOk (fun s => ?_) (fun s h0 h1 => ?_) (by decide)
  ·by_cases h : s = 1
   ·rw [if_pos h]; exact .inr (.inl rfl)
   ·rw [if_neg h]; exact .inl rfl
  ·rw [hsF s h0, hk0 s h0 h1, hk1 s h0 h1]
   by_cases h : s = 1
   ·rw [if_pos h, if_pos h]
    exact ⟨rfl, rfl⟩
   ·rw [if_neg h, if_neg h]
    exact ⟨rfl, rfl⟩)
 have HSN2 := Lib.hid (show scanN 1 1 14 1 x.ep x.last x.pos x.seq (gds (F.set 1 ⟨6, none, 0, []⟩)) (gds (S.set 1 ⟨6, none, 0, []⟩)) = ([], [], 12) from by
  rw [hgF, hgS, hep, hla, hp0, hq1]
  unfold scanN
  refine scan_hole ok1 hpl wk_logOk (ep := 0) (i := 0) (by decide) (k := 1) (by show 1 ≤ (rng.imsX 1 1 (rng.tabB 1) 7 0 1).length; rw [rng.imsX_length]; exact Nat.le_refl 1) (fun s h0 h1 h2 => ?_) ?_
  ·have h3 : ¬ s = 1 := fun e => h2 (by rw [e]; rfl)
   rw [hsF s h0, hsS s h0, if_neg h3, if_neg h3, hk0 s h0 h1, hk1 s h0 h1]
   exact ⟨rfl, rfl⟩
  ·have h3 : (wkL[0].ps + ((1 : Nat) : Int)) % 14 = 1 := rfl
   rw [h3, hsF 1 (by decide), hsS 1 (by decide)]
   exact ⟨rfl, rfl⟩)
 have hsh : ∀ (G : List GotR) (cp : Int), gds G = writF 14 1 cp 0 wkL → nwt.GShort 1048576 (G.set 1 ⟨6, none, 0, []⟩) ∧ nwt.GShort 1048576 G := fun G cp hG => by
  have h9 := writF_short ok1 hpl wk_logOk (by decide) hne hG
  refine ⟨fun r hr => ?_, h9⟩
  rcases List.mem_or_eq_of_mem_set hr with k | rfl
  ·exact h9 r k
  ·exact Nat.zero_le _
 have hlabs : x.lab.size ≤ 4294967295 := by rw [hlab]; decide
 have HSC1 := Lib.hid (show Calls Tryz.prog 13 #[.agg #[.int .i64 1, .int .i64 1, .int .i64 0, .int .i64 14, .int .i64 1], .agg #[.int .i64 x.gen, .int .i64 x.ep, .int .i64 x.pos, .int .i64 x.seq, .int .i64 x.last, .string x.lab, .slice x.HA x.hs.length x.hc], .slice (some ⟨p, 0, none⟩) 14 pc, .slice (some ⟨q, 0, none⟩) 14 qc] w7 fun e w' => ScanA w7.heap.size (wkL, [(2, b)], 0) e w' ∧ Below w7.heap.size w7 w' from by
  have h9 := HC.out.scan 1 1 0 14 1 x ⟨some ⟨p, 0, none⟩, pc, F.set 1 ⟨6, none, 0, []⟩⟩ ⟨some ⟨q, 0, none⟩, qc, S⟩ 14 14 w7 (bt hw4 hb47) ok1 (hxi4.next hb47) hlabs HG.out hyT.slF hyT.lF (hsh F 0 hF).1 hyT.slS hyT.lS (hsh S 1 hS).2 rfl rfl
  rw [← HSN1.out]
  exact h9)
 have HSC2 := Lib.hid (show ∀ W, Below w4.heap.size w4 W → TwoR W w5.heap.size q qc p pc 14 (S.set 1 ⟨6, none, 0, []⟩) (F.set 1 ⟨6, none, 0, []⟩) → Calls Tryz.prog 13 #[.agg #[.int .i64 1, .int .i64 1, .int .i64 0, .int .i64 14, .int .i64 1], .agg #[.int .i64 x.gen, .int .i64 x.ep, .int .i64 x.pos, .int .i64 x.seq, .int .i64 x.last, .string x.lab, .slice x.HA x.hs.length x.hc], .slice (some ⟨p, 0, none⟩) 14 pc, .slice (some ⟨q, 0, none⟩) 14 qc] W fun e w' => ScanA W.heap.size ([], [], 12) e w' ∧ Below W.heap.size W w' from fun W hW hT => by
  have h9 := HC.out.scan 1 1 0 14 1 x ⟨some ⟨p, 0, none⟩, pc, F.set 1 ⟨6, none, 0, []⟩⟩ ⟨some ⟨q, 0, none⟩, qc, S.set 1 ⟨6, none, 0, []⟩⟩ 14 14 W (bt hw4 hW) ok1 (hxi4.next hW) hlabs HG.out hT.slS hT.lS (hsh F 0 hF).1 hT.slF hT.lF (hsh S 1 hS).1 rfl rfl
  rw [← HSN2.out]
  exact h9)
 clear hp0 hq1 hlab hep hla hgF hgS hk0 hk1 hsF hsS HSN1 HSN2 hsh hlabs hF hS hb
 obtain ⟨⟨g0, g1, g2, g3, g4⟩, ⟨c0, c1, c2, c3, c4, c5, c6⟩⟩ := HM.out w7 hb47
 go_upto_region 7 with (go_at_call 13; (with_reducible refine HSC1.out.mono ?_); rintro e w8 ⟨⟨T, U, rfl, hT1, hU1, -, -, hTo, hUo⟩, hb8⟩)
 have hTl : T.ts.length = 2 := by have := congrArg List.length hT1; rw [tds_length] at this; exact this
 have hUl : U.rs.length = 1 := by have := congrArg List.length hU1; rw [gds_length] at this; exact this
 rw [hTl] at hTo ⊢
 rw [hUl] at hUo ⊢
 have hb48 := hb47.trans (hb8.mono hb47.size)
 have hyT8 := (hyT.below hb8).swap
 obtain ⟨r1, hr1, -, -, x0, x1⟩ := hyT8.atF (j := 1) (by decide)
 have z0 := hyT8.fz 2
 have z1 := hyT8.fz 3
 have hq8 := hyT.lt2
 clear g0 g1 g2 g3 g4 c0 c1 c2 c3 c4 c5 c6
 go_upto_region 8 with fail
 have hyT9 : TwoR ((w8.setCell ⟨q, 2, none⟩ (.int .i64 6)).setCell ⟨q, 3, none⟩ (.slice none 0 0)) w5.heap.size q qc p pc 14 (S.set 1 ⟨6, none, 0, []⟩) (F.set 1 ⟨6, none, 0, []⟩) := hyT8.put (j := 1) (by decide) (r := ⟨6, none, 0, []⟩) (m := 0) rfl (byT_nil _ _ _ _ _ (Nat.zero_le _))
 have hb49 : Below w4.heap.size w4 ((w8.setCell ⟨q, 2, none⟩ (.int .i64 6)).setCell ⟨q, 3, none⟩ (.slice none 0 0)) := (hb48.setCell (p := ⟨q, 2, none⟩) (show w4.heap.size ≤ q by omega) _).setCell (p := ⟨q, 3, none⟩) (show w4.heap.size ≤ q by omega) _
 have hTo9 := ownT_cs (o := 3) (ownT_cs (o := 2) hTo hq8.2 (.int .i64 6)) hq8.2 (.slice none 0 0)
 have hUo9 := (hUo.cell_set (o := 2) hq8.2 (.int .i64 6)).cell_set (o := 3) hq8.2 (.slice none 0 0)
 have hin9 := (hin7.below ((((Below.refl w5.heap.size w7).trans (hb8.mono (by have := hyT.lt1; omega))).setCell (p := ⟨q, 2, none⟩) hq8.1 (.int .i64 6)).setCell (p := ⟨q, 3, none⟩) hq8.1 (.slice none 0 0)))
 clear x0 x1 z0 z1 hyT8 hyT hb48 hTo hUo hr1 hb8 hin7 hb47 HSC1
 generalize (w8.setCell ⟨q, 2, none⟩ (.int .i64 6)).setCell ⟨q, 3, none⟩ (.slice none 0 0) = w9 at *
 obtain ⟨⟨g0, g1, g2, g3, g4⟩, ⟨c0, c1, c2, c3, c4, c5, c6⟩⟩ := HM.out w9 hb49
 go_upto_region 9 with (go_at_call 13; (with_reducible refine (HSC2.out w9 hb49 hyT9).mono ?_); rintro e wA ⟨⟨T2, U2, rfl, hT2, hU2, -, -, -, -⟩, hbA⟩)
 have hwA := bt (bt hw4 hb49) hbA
 have GA := (HM.out wA (bt hb49 hbA)).1.g4
 have hToA := hTo9.below hbA
 have hUoA := hUo9.below hbA
 have hinA := hin9.below (hbA.mono (by have := hyT9.lt1; omega))
 obtain ⟨A', c', hv, hTin⟩ := ownT_in hToA
 simp only [Value.slice.injEq] at hv
 obtain ⟨rfl, -, rfl⟩ := hv
 obtain ⟨A2, c2, hv2, -, -, hs2⟩ := row_form hUoA.1
 simp only [Value.slice.injEq] at hv2
 obtain ⟨rfl, -, rfl⟩ := hv2
 obtain ⟨r9, hr9⟩ := List.length_eq_one_iff.1 hUl
 rw [hr9] at hU1 hs2
 obtain ⟨bU, oU, hAU, hbU, hcU⟩ := hs2 (by rw [nwt.gvs_length]; simp)
 have he2 : r9.e = 2 := congrArg (fun q : List (Int × List UInt8) => (q.headD (0, [])).1) hU1
 have cU : wA.cell? ⟨bU, oU, none⟩ = some (.int .i64 2) := by
  have h9 := hcU 0 (by rw [nwt.gvs_length]; simp)
  rw [Nat.add_zero] at h9
  rw [h9, ← he2]
  rfl
 have hts := HTS.out.1
 have hmem : ∀ r ∈ T.ts, r.d ∈ wkL := fun r hr => by rw [← hT1]; exact List.mem_map.2 ⟨r, hr, rfl⟩
 have hsm : TSmall T.ts := fun r hr => by
  obtain ⟨q1, q2, q3, q4, -, -⟩ := LogOk.nm30 (by decide) _ _ _ _ (Int.le_refl 0) wk_logOk _ (hmem r hr)
  have hl1 : r.rs.length = r.d.ims.length := (img.ids_length r.rs).symm
  refine ⟨by omega, fun q hq => ?_⟩
  have h9 := lrc.imOk_len (q4 q.d (List.mem_map.2 ⟨q, hq, rfl⟩)) ok1.2.1
  have h9 : q.l.length ≤ 45 ∧ 8 ≤ q.l.length := h9
  omega
 have HTX := Lib.hid (show ∀ W, Below wA.heap.size wA W → Calls Tryz.prog 19 #[.slice T.A 2 T.c, .slice A 2 c] W fun e w' => e = .returned (.bool true) ∧ Below W.heap.size W w' from fun W hW =>
  txns_same T.A A T.c c 2 2 T.ts ts W hTl HTS.out.2 (hTin.next hW).h ((hinA.more (by have := hyT9.lt1; have := hbA.size; omega)).next hW).h (hTin.next hW).i ((hinA.more (by have := hyT9.lt1; have := hbA.size; omega)).next hW).i (by omega) hsm (hT1.trans hts.symm))
 rw [hAU]
 have HF := Lib.hid (show ∀ W, Below wA.heap.size wA W → (W.cell? ⟨bU, oU, none⟩ = some (.int .i64 2) ∧ W.cell? ⟨gg, 4, none⟩ = some (.int .i64 1)) ∧ Below wA.heap.size wA W from fun W hW => ⟨⟨kst hW hbU cU, (HM.out W (bt (bt hb49 hbA) hW)).1.g4⟩, hW⟩)
 clear hsm hmem hts hcU hs2 hU1 hT1 hUoA hToA hTo9 hUo9 hin9 hinA hTin hyT9 g0 g1 g2 g3 g4 c0 c1 c2 c3 c4 c5 c6 hT2 hU2 hTl hUl he2 hr9 GA cU
 go_region_held3 (fun W => (W.cell? ⟨bU, oU, none⟩ = some (.int .i64 2) ∧ W.cell? ⟨gg, 4, none⟩ = some (.int .i64 1)) ∧ Below wA.heap.size wA W)
  ((refine HF.out _ ?_; first
   | with_reducible exact hbB
   | with_reducible exact below_dr (Below.refl _ _)
   | fail))
  (first
   | (go_at_call 19; (with_reducible refine (HTX.out wA.drew (below_dr (Below.refl _ _))).mono ?_); rintro e wB ⟨rfl, hbq⟩; have hbB : Below wA.heap.size wA wB := bt (below_dr (Below.refl wA.heap.size wA)) hbq; clear hbq)
   | fail)
 go_wp2_with fail
 go_ret
 exact ⟨rfl, bt hwA hbB⟩
end Go.Proofs.YtbfdpibjicjagaaGreatDoor.scn
