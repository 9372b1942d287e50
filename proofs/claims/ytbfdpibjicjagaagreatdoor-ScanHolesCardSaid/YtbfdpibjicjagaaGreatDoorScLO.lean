/-
  ScanHoles walked. Conditions: 'Csc', the laws' example.
-/
import Derived.Test.YtbfdpibjicjagaaGreatDoorScLC
import Derived.Test.YtbfdpibjicjagaaGreatDoorGSb
import Derived.Test.YtbfdpibjicjagaaGreatDoorGSa
import Derived.Test.YtbfdpibjicjagaaGreatDoorGRg
import Derived.Test.YtbfdpibjicjagaaGreatDoorGAw
import Derived.BigQuiet
set_option maxHeartbeats 8000000
set_option maxRecDepth 100000
namespace Go.Proofs.YtbfdpibjicjagaaGreatDoor.scn
open Go.RowKit Go.Lib
open Go.Proofs.YtbfdpibjicjagaaGreatDoor.gmt (Ok rgeo_at)
open Go.Proofs.YtbfdpibjicjagaaGreatDoor.anc (AV AC ac_new bl kal kst ks bm ka HeavyA light heavy_any right_p Sev sev_new twin_anchor OwnH.cell_set OwnH.below row_form)
open Go.Proofs.YtbfdpibjicjagaaGreatDoor.tbl (G5 g5_new)
open Go.Proofs.YtbfdpibjicjagaaGreatDoor.lrc (Rcd noRec RecOk NumOk encR cellN)
open Go.Proofs.YtbfdpibjicjagaaGreatDoor.rng (XV TxR Txd tds tvs TIn LogOk OwnT ownT_in log_c logX tabB tabB_told logX_ok txn_at tds_length offN)
open Go.Proofs.YtbfdpibjicjagaaGreatDoor.nwt (GV GotR gds gvs gds_length)
open Go.Proofs.YtbfdpibjicjagaaGreatDoor.crc (TurnedAll)
open Go.Proofs.YtbfdpibjicjagaaGreatDoor.sel (place maskOf)
theorem schol_main (z d s l a : Int) (x : AV) (yA : Option Addr) (yc n : Nat) (i0 k0 b0 : Int) (sh : Bool) (ys : List Int) (w : World) (hc : Csc w) (hk : ∀ W, Below w.heap.size w W → Calls Tryz.prog 17 #[] W fun e w' => e = .returned (.bool true) ∧ Below W.heap.size W w') (hx : x.In w w.heap.size) (hA : SlV w w.heap.size yA (ints ys)) (hyn : ys.length = n)  (hh : ¬ HeavyA x.d) (hn : ¬ (40 : Int) < (n : Int)) (ho : Ok z d s l a) (hg : anc.Good z d s l x.d) (hq : ¬ 1000000 < x.seq) :
  Calls Tryz.prog 6 #[.agg #[.int .i64 z, .int .i64 d, .int .i64 s, .int .i64 l, .int .i64 a], .agg #[.int .i64 x.gen, .int .i64 x.ep, .int .i64 x.pos, .int .i64 x.seq, .int .i64 x.last, .string x.lab, .slice x.HA x.hs.length x.hc], .slice yA n yc, .int .i64 i0, .int .i64 k0, .int .i64 b0, .bool sh] w fun e w' => e = .returned (.bool true) ∧ Below w.heap.size w w' := by
 have cH := fun W (hW : Below w.heap.size w W) => heavy_any false x W (hx.next hW) (iff_of_false Bool.false_ne_true hh)
 have cG := fun W => rgeo_at true z d s l a W (iff_of_true rfl ho)
 obtain ⟨t1, t2, t3⟩ := light hh
 have cR := fun W (hW : Below w.heap.size w W) => right_p z d s l a true x W ho (hx.next hW) (by omega) (fun r hr => by have := t3 r hr; omega) (by omega) (iff_of_true rfl hg)
 have HC := Lib.hid hc
 have HK := Lib.hid hk
 have HX := Lib.hid hx
 have HO := Lib.hid ho
 have HGD := Lib.hid hg
 have HT3 := Lib.hid t3
 have HT1 := Lib.hid t1
 have HLAB := Lib.hid (show x.lab.size ≤ 4294967295 by omega)
 have hpos : 0 ≤ x.pos ∧ x.pos ≤ l - 1 := hg.2.2.2.2.2.1
 have hp2 : 0 ≤ x.pos ∧ x.pos < l := ⟨hpos.1, by omega⟩
 have hsq : 0 ≤ x.seq ∧ x.seq ≤ 4294967295 := ⟨by have := hg.2.2.1.1; exact Int.le_trans (by decide) this, hg.2.2.1.2⟩
 have hsq1 : 1 ≤ x.seq := hg.2.2.1.1
 have hep : 0 ≤ x.ep ∧ x.ep ≤ 4294967295 := hg.2.1
 have hll : 14 ≤ l ∧ l ≤ 30 := ho.2.2.2.1
 have HLG := Lib.hid (show ∀ W, Below w.heap.size w W → Calls Tryz.prog 21 #[.agg #[.int .i64 z, .int .i64 d, .int .i64 s, .int .i64 l, .int .i64 a], .agg #[.int .i64 x.gen, .int .i64 x.ep, .int .i64 x.pos, .int .i64 x.seq, .int .i64 x.last, .string x.lab, .slice x.HA x.hs.length x.hc], .slice yA n yc, .int .u8 9] W fun e w' => (∃ (A : Option Addr) (c : Nat) (ts : List TxR), e = .returned (.slice A ts.length c) ∧ tds ts = logX z d l (tabB d) 9 x.seq 0 x.pos 0 ys ∧ XV.In w' w'.heap.size ⟨A, c, ts⟩) ∧ Below W.heap.size W w' from fun W hW =>
  (log_c z d s l a x.gen x.ep x.pos x.seq x.last x.lab x.HA x.hs.length x.hc yA yc ys n 9 W ho (hA.next hW) hyn (by omega) hpos hsq (by omega)).mono fun e w' ⟨⟨v, ts, h1, h2, h3⟩, hb⟩ => by
   obtain ⟨A, c, hv, hin⟩ := ownT_in h3
   exact ⟨⟨A, c, ts, by rw [h1, hv], h2, hin⟩, hb⟩)
 have HLO := Lib.hid (show LogOk z d l x.pos x.seq 0 (logX z d l (tabB d) 9 x.seq 0 x.pos 0 ys) from by
  have h9 := logX_ok (z := z) (d := d) (l := l) (tb := tabB d) ho.1.1 ho.2.1 (tabB_told (by have := ho.2.1; omega)) 9 x.seq ys 0 x.pos 0 (by omega)
  simpa using h9)
 unfold AV.v at *
 have s1 : (w.alloc (.cells #[.int .i64 z, .int .i64 d, .int .i64 s, .int .i64 l, .int .i64 a] 23)).heap.size = w.heap.size + 1 := by simp
 have GG := (g5_new w z d s l a).keep (bl (w.alloc (.cells #[.int .i64 z, .int .i64 d, .int .i64 s, .int .i64 l, .int .i64 a] 23)) (.cells #[.int .i64 x.gen, .int .i64 x.ep, .int .i64 x.pos, .int .i64 x.seq, .int .i64 x.last, .string x.lab, .slice x.HA x.hs.length x.hc] 26)) (by simp)
 have FF := ac_new (w.alloc (.cells #[.int .i64 z, .int .i64 d, .int .i64 s, .int .i64 l, .int .i64 a] 23)) x
 rw [s1] at FF
 have hb0 := kal (bl w (.cells #[.int .i64 z, .int .i64 d, .int .i64 s, .int .i64 l, .int .i64 a] 23)) (.cells #[.int .i64 x.gen, .int .i64 x.ep, .int .i64 x.pos, .int .i64 x.seq, .int .i64 x.last, .string x.lab, .slice x.HA x.hs.length x.hc] 26)
 have l1 : w.heap.size + 1 < ((w.alloc (.cells #[.int .i64 z, .int .i64 d, .int .i64 s, .int .i64 l, .int .i64 a] 23)).alloc (.cells #[.int .i64 x.gen, .int .i64 x.ep, .int .i64 x.pos, .int .i64 x.seq, .int .i64 x.last, .string x.lab, .slice x.HA x.hs.length x.hc] 26)).heap.size := by simp
 clear hx hh ho hg t1 t3 hc hk hA hyn s1
 go_enter Tryz.func6, Tryz.ntmps6
 go_upto_region 1 with fail
 generalize (w.alloc (.cells #[.int .i64 z, .int .i64 d, .int .i64 s, .int .i64 l, .int .i64 a] 23)).alloc (.cells #[.int .i64 x.gen, .int .i64 x.ep, .int .i64 x.pos, .int .i64 x.seq, .int .i64 x.last, .string x.lab, .slice x.HA x.hs.length x.hc] 26) = w0 at *
 obtain ⟨c0, c1, c2, c3, c4, c5, c6⟩ := id FF
 obtain ⟨g0, g1, g2, g3, g4⟩ := id GG
 go_upto_region 3 with (first
  | (go_at_call 10; (with_reducible refine (cH _ hb0).mono ?_); rintro e wq ⟨rfl, hbq⟩; replace FF := FF.keep hbq (by omega); replace GG := GG.keep hbq (by omega); replace l1 := Nat.lt_of_lt_of_le l1 hbq.size; clear c0 c1 c2 c3 c4 c5 c6 g0 g1 g2 g3 g4; obtain ⟨c0, c1, c2, c3, c4, c5, c6⟩ := id FF; obtain ⟨g0, g1, g2, g3, g4⟩ := id GG; replace hb0 := bt hb0 hbq; clear hbq)
  | (go_at_call 15; (with_reducible refine (cG _).mono ?_); rintro e wq ⟨rfl, hbq⟩; replace FF := FF.keep hbq (by omega); replace GG := GG.keep hbq (by omega); replace l1 := Nat.lt_of_lt_of_le l1 hbq.size; clear c0 c1 c2 c3 c4 c5 c6 g0 g1 g2 g3 g4; obtain ⟨c0, c1, c2, c3, c4, c5, c6⟩ := id FF; obtain ⟨g0, g1, g2, g3, g4⟩ := id GG; replace hb0 := bt hb0 hbq; clear hbq)
  | (go_at_call 16; (with_reducible refine (cR _ hb0).mono ?_); rintro e wq ⟨rfl, hbq⟩; replace FF := FF.keep hbq (by omega); replace GG := GG.keep hbq (by omega); replace l1 := Nat.lt_of_lt_of_le l1 hbq.size; clear c0 c1 c2 c3 c4 c5 c6 g0 g1 g2 g3 g4; obtain ⟨c0, c1, c2, c3, c4, c5, c6⟩ := id FF; obtain ⟨g0, g1, g2, g3, g4⟩ := id GG; replace hb0 := bt hb0 hbq; clear hbq)
  | fail)
 go_upto_region 4 with (go_at_call 21; (with_reducible refine (HLG.out _ hb0).mono ?_); rintro e w2 ⟨⟨A, c, ts, rfl, hts, hin⟩, hb2⟩)
 have hLT : LogOk z d l x.pos x.seq 0 (tds ts) := by rw [hts]; exact HLO.out
 have hlen : ts.length ≤ 15 := by
  have h1 := log_len hll.2 hLT (by omega)
  rwa [rng.tds_length] at h1
 have HLT := Lib.hid hLT
 clear hts hLT HLO HLG
 obtain ⟨M, hM⟩ : ∃ M, M = ts.length := ⟨_, rfl⟩
 rw [← hM]
 have hM15 : M ≤ 15 := by omega
 have HM := Lib.hid hM
 clear hM
 have hb02 := bt hb0 hb2
 replace FF := FF.keep hb2 (by omega)
 replace GG := GG.keep hb2 (by omega)
 have l2 := Nat.lt_of_lt_of_le l1 hb2.size
 clear c0 c1 c2 c3 c4 c5 c6 g0 g1 g2 g3 g4 cH cG cR hb0 hb2 l1
 obtain ⟨c0, c1, c2, c3, c4, c5, c6⟩ := id FF
 obtain ⟨g0, g1, g2, g3, g4⟩ := id GG
 by_cases hM0 : M = 0
 ·subst hM0
  go_wp2_with (go_at_call 17; (with_reducible refine (HK.out _ hb02).mono ?_); rintro e w3 ⟨rfl, hb3⟩)
  go_ret
  exact ⟨rfl, bt hb02 hb3⟩
 have m0 : ((M : Int) == 0) = false := beq_eq_false_iff_ne.2 (by omega)
 obtain ⟨B, hB1, hB2⟩ := wrap_modS b0 1000000 (by decide)
 have v9 : IntKind.i64.wrap (B : Int) = (B : Int) := IntWalk.i64_in _ (by omega)
 have HWR := Lib.hid (show ∀ (k : Nat) (W : World), k ≤ M → Below w2.heap.size w2 W → Calls Tryz.prog 22 #[.agg #[.int .i64 z, .int .i64 d, .int .i64 s, .int .i64 l, .int .i64 a], .slice A k c, .int .i64 x.ep] W fun e w' => (∃ (p q pc qc : Nat) (F S : List GotR), e = .returned (.tuple #[.slice (some ⟨p, 0, none⟩) l.toNat pc, .slice (some ⟨q, 0, none⟩) l.toNat qc]) ∧ gds F = writF l a 0 x.ep ((tds ts).take k) ∧ gds S = writF l a 1 x.ep ((tds ts).take k) ∧ TwoR w' W.heap.size p pc q qc l.toNat F S) ∧ Below W.heap.size W w' from fun k W hk hW => by
  have hlen : (ts.take k).length = k := by rw [List.length_take]; have := HM.out; omega
  have htk : tds (ts.take k) = (tds ts).take k := by unfold rng.tds; rw [List.map_take]
  have h9 := written_c z d s l a x.ep x.pos x.seq ⟨A, c, ts.take k⟩ k W HO.out ⟨slv_pre (v := tvs (ts.drop k)) (by rw [← rng.tvs_append, List.take_append_drop]; exact (hin.next hW).h), fun r hr => (hin.next hW).i r (List.mem_of_mem_take hr), by show (ts.take k).length ≤ c ∧ c ≤ maxLen; have h1 : ts.length ≤ c ∧ c ≤ maxLen := hin.l; have := HM.out; omega⟩ hlen (by omega) hp2 (by rw [htk]; exact LogOk.take _ _ _ _ k HLT.out) hsq.1 hep
  refine h9.mono ?_
  rintro e w' ⟨⟨F, S, rfl, hF, hS, hFo, hSo, hAp⟩, hb⟩
  rw [htk] at hF hS
  have lF : F.rs.length = l.toNat := by have := congrArg List.length hF; rw [gds_length, writF_length] at this; exact this
  have lS : S.rs.length = l.toNat := by have := congrArg List.length hS; rw [gds_length, writF_length] at this; exact this
  obtain ⟨p, q, hp, hq, hT⟩ := two_own hFo hSo hAp lF lS (by omega)
  exact ⟨⟨p, q, F.c, S.c, F.rs, S.rs, by unfold GV.v; rw [hp, hq, lF, lS], hF, hS, hT⟩, hb⟩)
 obtain ⟨bA, oA, rfl, -, -⟩ := hin.h (by rw [rng.tvs_length]; have := HM.out; show 0 < ts.length * 4; omega)
 have HMM := Lib.hid (show ∀ W, Below w2.heap.size w2 W → G5 W w.heap.size z d s l a ∧ AC W (w.heap.size + 1) x ∧ XV.In W w2.heap.size ⟨some ⟨bA, oA, none⟩, c, ts⟩ from fun W hW => ⟨GG.keep hW (by omega), FF.keep hW l2, hin.below hW⟩)
 go_upto_region 7 with fail
 go_upto_region 8 with (go_at_call 22; (with_reducible refine (HWR.out M w2 (Nat.le_refl _) (Below.refl _ _)).mono ?_); rintro e w3 ⟨⟨p, q, pc, qc, F, S, rfl, hF, hS, hT⟩, hb3⟩)
 have hb03 := bt hb02 hb3
 have l23 := hb3.size
 have HTM := Lib.hid (show (tds ts).take M = tds ts from List.take_of_length_le (by rw [tds_length, HM.out]; exact Nat.le_refl _))
 rw [HTM.out] at hF hS
 have HTW := Lib.hid (show Calls Tryz.prog 28 #[.agg #[.int .i64 x.gen, .int .i64 x.ep, .int .i64 x.pos, .int .i64 x.seq, .int .i64 x.last, .string x.lab, .slice x.HA x.hs.length x.hc]] w3 fun e w' => (∃ y : AV, e = .returned (.agg #[.int .i64 y.gen, .int .i64 y.ep, .int .i64 y.pos, .int .i64 y.seq, .int .i64 y.last, .string y.lab, .slice y.HA y.hs.length y.hc]) ∧ y.d = x.d ∧ y.Own w' w3.heap.size) ∧ Below w3.heap.size w3 w' from
  twin_anchor x w3 (HX.out.next hb03) (by have := HT1.out; omega) (fun r hr => by have := HT3.out r hr; omega))
 clear c0 c1 c2 c3 c4 c5 c6 g0 g1 g2 g3 g4 HWR FF GG hin
 obtain ⟨⟨g0, g1, g2, g3, g4⟩, ⟨c0, c1, c2, c3, c4, c5, c6⟩, -⟩ := HMM.out w3 hb3
 go_upto_region 9 with (go_at_call 28; (with_reducible refine HTW.out.mono ?_); rintro e w4 ⟨⟨y, rfl, hyd, hyo⟩, hb4⟩)
 have P := sev_new w4 (.int .i64 y.gen) (.int .i64 y.ep) (.int .i64 y.pos) (.int .i64 y.seq) (.int .i64 y.last) (.string y.lab) (.slice y.HA y.hs.length y.hc) 26
 have lY : w4.heap.size < (w4.alloc (.cells #[.int .i64 y.gen, .int .i64 y.ep, .int .i64 y.pos, .int .i64 y.seq, .int .i64 y.last, .string y.lab, .slice y.HA y.hs.length y.hc] 26)).heap.size := by simp
 have l34 := hb4.size
 have hx45 := bl w4 (.cells #[.int .i64 y.gen, .int .i64 y.ep, .int .i64 y.pos, .int .i64 y.seq, .int .i64 y.last, .string y.lab, .slice y.HA y.hs.length y.hc] 26)
 have hb35 := kal hb4 (.cells #[.int .i64 y.gen, .int .i64 y.ep, .int .i64 y.pos, .int .i64 y.seq, .int .i64 y.last, .string y.lab, .slice y.HA y.hs.length y.hc] 26)
 have hT4 := hT.below hb4
 have hTp := hT.lt1
 have hTq := hT.lt2
 have hb25 : Below w2.heap.size w2 (w4.alloc (.cells #[.int .i64 y.gen, .int .i64 y.ep, .int .i64 y.pos, .int .i64 y.seq, .int .i64 y.last, .string y.lab, .slice y.HA y.hs.length y.hc] 26)) := hb3.trans (hb35.mono l23)
 clear c0 c1 c2 c3 c4 c5 c6 g0 g1 g2 g3 g4 hT hb4 hb35
 have HY := Lib.hid (show ∀ W', Below w4.heap.size w4 W' → AV.Own W' w3.heap.size y ∧ TwoR W' w2.heap.size p pc q qc l.toNat F S from fun W' h => ⟨OwnH.below hyo h, hT4.below h⟩)
 clear hyo hT4
 generalize w4.heap.size = gY at *
 generalize w4.alloc (.cells #[.int .i64 y.gen, .int .i64 y.ep, .int .i64 y.pos, .int .i64 y.seq, .int .i64 y.last, .string y.lab, .slice y.HA y.hs.length y.hc] 26) = w5 at *
 obtain ⟨⟨g0, g1, g2, g3, g4⟩, ⟨c0, c1, c2, c3, c4, c5, c6⟩, -⟩ := HMM.out w5 hb25
 obtain ⟨y0, y1, y2, y3, y4, y5, y6, f0, f1, f2, f3, f4, f5, f6⟩ := id P
 have v1 : IntKind.i64.wrap (x.seq + (M : Int)) = x.seq + (M : Int) := IntWalk.i64_in _ (by omega)
 have v2 : IntKind.i64.wrap (x.seq + (M : Int) - 1) = x.seq + (M : Int) - 1 := IntWalk.i64_in _ (by omega)
 have v3 : IntKind.i64.wrap (x.seq - 1) = x.seq - 1 := IntWalk.i64_in _ (by omega)
 have hmx : max (x.seq - 1) (x.seq + (M : Int) - 1) = x.seq + (M : Int) - 1 := Int.max_eq_right (by omega)
 have hHS : ∀ (W : World) (last : Int) (F' S' : List GotR) (R : List Txd × List (Int × List UInt8) × Int), Below w.heap.size w W → AV.Own W w3.heap.size y → TwoR W w2.heap.size p pc q qc l.toNat F' S' → nwt.GShort 1048576 F' → nwt.GShort 1048576 S' → (x.seq - 1 ≤ last ∧ last ≤ 4294967295) → scanN z d l a x.ep last x.pos x.seq (gds F') (gds S') = R → Calls Tryz.prog 13 #[.agg #[.int .i64 z, .int .i64 d, .int .i64 s, .int .i64 l, .int .i64 a], .agg #[.int .i64 y.gen, .int .i64 y.ep, .int .i64 y.pos, .int .i64 y.seq, .int .i64 last, .string y.lab, .slice y.HA y.hs.length y.hc], .slice (some ⟨p, 0, none⟩) l.toNat pc, .slice (some ⟨q, 0, none⟩) l.toNat qc] W fun e w' => ScanA W.heap.size R e w' ∧ Below W.heap.size W w' := fun W last F' S' R hW hyo hT hsF hsS hl hR => by
  have e1 : y.ep = x.ep := congrArg anc.Anc.ep hyd
  have e2 : y.pos = x.pos := congrArg anc.Anc.pos hyd
  have e3 : y.seq = x.seq := congrArg anc.Anc.seq hyd
  have e4 : y.lab = x.lab := congrArg anc.Anc.lab hyd
  have hgood : anc.Good z d s l ({ y with last := last } : AV).d := by
   have hbd : ({ y with last := last } : AV).d = { x.d with last := last } := by rw [← hyd]; rfl
   rw [hbd]
   obtain ⟨q1, q2, q3, q4, q5, q6, q7, q8, q9⟩ := HGD.out
   exact ⟨q1, q2, q3, ⟨by show 0 ≤ last; omega, hl.2⟩, hl.1, q6, q7, q8, q9⟩
  have hyi : y.In W W.heap.size := AV.Own.inn hyo
  have h9 := HC.out.scan z d s l a { y with last := last } ⟨some ⟨p, 0, none⟩, pc, F'⟩ ⟨some ⟨q, 0, none⟩, qc, S'⟩ _ _ W hW HO.out ⟨hyi.1, hyi.2, hyi.3⟩ (by show y.lab.size ≤ 4294967295; rw [e4]; exact HLAB.out) hgood hT.slF hT.lF hsF hT.slS hT.lS hsS (by omega) (by omega)
  have hR2 : scanN z d l a y.ep last y.pos y.seq (gds F') (gds S') = R := by rw [e1, e2, e3]; exact hR
  rw [← hR2]
  exact h9
 have HSC := Lib.hid hHS
 have hsF := writF_short HO.out hp2 HLT.out hsq.1 hep hF
 have hsS := writF_short HO.out hp2 HLT.out hsq.1 hep hS
 have hk0 := fun s h0 h1 => kOf_writ (cp := 0) (s := s) HO.out hp2 HLT.out hsq.1 hep (.inl rfl) h0 h1
 have hk1 := fun s h0 h1 => kOf_writ (cp := 1) (s := s) HO.out hp2 HLT.out hsq.1 hep (.inr rfl) h0 h1
 have HK0 := Lib.hid hk0
 have HK1 := Lib.hid hk1
 clear hk0 hk1
 have HSN := Lib.hid (show ∀ last : Int, scanN z d l a x.ep last x.pos x.seq (gds F) (gds S) = finS last (x.seq + (M : Int)) (tds ts) [] from fun last => by
  rw [hF, hS]
  unfold scanN
  have h9 := scan_whole (last := last) (a := a) (ep := x.ep) HO.out hp2 HLT.out (fun s h0 h1 => ⟨HK0.out s h0 h1, HK1.out s h0 h1⟩)
  rw [h9, tds_length, ← HM.out])
 clear hHS hyd HGD HC HLAB HTW HT1 HT3 HX
 go_upto_region 10 with fail
 have P6 := P.set4 (.int .i64 (x.seq + (M : Int) - 1))
 have hq6 : ∀ v : Value, Below gY w4 (w5.setCell ⟨gY, 4, none⟩ v) := fun v => hx45.setCell (p := ⟨gY, 4, none⟩) (Nat.le_refl _) v
 have hb26 : Below w2.heap.size w2 (w5.setCell ⟨gY, 4, none⟩ (.int .i64 (x.seq + (M : Int) - 1))) := hb25.setCell (p := ⟨gY, 4, none⟩) (show w2.heap.size ≤ gY by omega) _
 have h46 := hq6 (.int .i64 (x.seq + (M : Int) - 1))
 have lY6 : gY < (w5.setCell ⟨gY, 4, none⟩ (.int .i64 (x.seq + (M : Int) - 1))).heap.size := by simpa using lY
 clear c0 c1 c2 c3 c4 c5 c6 g0 g1 g2 g3 g4 y0 y1 y2 y3 y4 y5 y6 f0 f1 f2 f3 f4 f5 f6 P hb25 hx45 hq6 lY
 generalize w5.setCell ⟨gY, 4, none⟩ (.int .i64 (x.seq + (M : Int) - 1)) = w6 at *
 obtain ⟨⟨g0, g1, g2, g3, g4⟩, ⟨c0, c1, c2, c3, c4, c5, c6⟩, -⟩ := HMM.out w6 hb26
 obtain ⟨y0, y1, y2, y3, y4, y5, y6, f0, f1, f2, f3, f4, f5, f6⟩ := id P6
 have hw2 := hb02
 cases sh
 case true =>
  go_upto_region 12 with fail
  have P7 := P6.set4 (.int .i64 (x.seq + (M : Int)))
  have h47 : Below gY w4 (w6.setCell ⟨gY, 4, none⟩ (.int .i64 (x.seq + (M : Int)))) := h46.setCell (p := ⟨gY, 4, none⟩) (Nat.le_refl _) _
  have hb27 : Below w2.heap.size w2 (w6.setCell ⟨gY, 4, none⟩ (.int .i64 (x.seq + (M : Int)))) := hb26.setCell (p := ⟨gY, 4, none⟩) (show w2.heap.size ≤ gY by omega) _
  have HS1 := Lib.hid (HSC.out (w6.setCell ⟨gY, 4, none⟩ (.int .i64 (x.seq + (M : Int)))) (x.seq + (M : Int)) F S ([], [], 12) (bt hb02 hb27) (HY.out _ h47).1 (HY.out _ h47).2 hsF hsS (by omega) (by rw [HSN.out]; unfold finS; rw [if_pos (by omega)]))
  clear c0 c1 c2 c3 c4 c5 c6 g0 g1 g2 g3 g4 y0 y1 y2 y3 y4 y5 y6 f0 f1 f2 f3 f4 f5 f6 P6
  generalize w6.setCell ⟨gY, 4, none⟩ (.int .i64 (x.seq + (M : Int))) = w7 at *
  obtain ⟨⟨g0, g1, g2, g3, g4⟩, -, -⟩ := HMM.out w7 hb27
  obtain ⟨y0, y1, y2, y3, y4, y5, y6, f0, f1, f2, f3, f4, f5, f6⟩ := id P7
  go_wp2_with (first
   | (go_at_call 13; (with_reducible refine HS1.out.mono ?_); rintro e w8 ⟨⟨T, U, rfl, hT1, hU1, -, -, -, -⟩, hb8⟩)
   | (go_at_call 17; (with_reducible refine (HK.out _ (bt (bt hb02 hb27) hb8)).mono ?_); rintro e w9 ⟨rfl, hb9⟩)
   | fail)
  go_ret
  exact ⟨rfl, bt (bt (bt hb02 hb27) hb8) hb9⟩
 case false =>
  obtain ⟨J, hJ1, hJ2⟩ := wrap_modS i0 (M : Int) (by omega)
  have u2 : IntKind.u64.wrap (M : Int) = (M : Int) := IntWalk.u64_in _ (by omega)
  have u3 : IntKind.i64.wrap (J : Int) = (J : Int) := IntWalk.i64_in _ (by omega)
  have z1 : ¬ (M : Int) = 0 := by omega
  obtain ⟨b1, off, r, hTA, hb1, p0, p1, p2, p3, -, hrm, hrJ, -⟩ := txn_at (HMM.out w6 hb26).2.2.h (HMM.out w6 hb26).2.2.i (k := J) (show J < ts.length by have := HM.out; omega)
  simp only [Option.some.injEq, Addr.mk.injEq, and_true] at hTA
  obtain ⟨rfl, rfl⟩ := hTA
  have hJt : J < (tds ts).length := by rw [tds_length]; have := HM.out; omega
  have hrd : (tds ts)[J] = r.d := by
   have h9 : (tds ts)[J]? = some r.d := by unfold rng.tds; rw [List.getElem?_map, hrJ]; rfl
   rw [List.getElem?_eq_getElem hJt] at h9
   exact Option.some.inj h9
  obtain ⟨e1, -, -⟩ := LogOk.place (pos := x.pos) (tds ts) x.pos x.seq 0 J hJt (by rw [Int.add_zero, Int.emod_eq_of_lt hp2.1 hp2.2]) HLT.out
  obtain ⟨e2, e3, e4, -, -, -⟩ := LogOk.nm30 hll.2 _ _ _ _ (Int.le_refl 0) HLT.out _ (List.getElem_mem hJt)
  rw [hrd] at e1 e2 e3 e4
  have e1 : r.ps = (x.pos + 0 + offN (tds ts) J) % l := e1
  have e2 : r.nm ≤ 30 := e2
  have e3 : r.nm = (r.d.ims.length : Int) + 1 := e3
  have hps : 0 ≤ r.ps ∧ r.ps < l := by rw [e1]; exact slot_of (by omega)
  obtain ⟨K, hK1, hK2⟩ := wrap_modS k0 r.nm (by omega)
  have u4 : IntKind.u64.wrap r.nm = r.nm := IntWalk.u64_in _ (by omega)
  have u5 : IntKind.i64.wrap (K : Int) = (K : Int) := IntWalk.i64_in _ (by omega)
  have u6 : IntKind.i64.wrap (r.ps + (K : Int)) = r.ps + (K : Int) := IntWalk.i64_in _ (by omega)
  have z2 : ¬ r.nm = 0 := by omega
  have z3 : ¬ l = 0 := by omega
  obtain ⟨Q, hQ⟩ : ∃ Q : Nat, (r.ps + (K : Int)) % l = (Q : Int) := ⟨((r.ps + (K : Int)) % l).toNat, by have := Int.emod_nonneg (r.ps + (K : Int)) (b := l) (by omega); omega⟩
  have hQl : (Q : Int) < l := by rw [← hQ]; exact Int.emod_lt_of_pos _ (by omega)
  have hQ2 : (r.ps + (K : Int)).tmod l = (Q : Int) := by rw [Int.tmod_eq_emod_of_nonneg (by omega)]; exact hQ
  have hKi : K ≤ (tds ts)[J].ims.length := by rw [hrd]; omega
  have hq7 : ((tds ts)[J].ps + (K : Int)) % l = (Q : Int) := by rw [hrd]; exact hQ
  have HKQ := Lib.hid (And.intro hKi hq7)
  have i2 : (Q : Int) < (l.toNat : Int) := by omega
  have hQn : Q < l.toNat := by omega
  clear e1 e2 e3 e4 hrd hrm hrJ hKi hq7 hQ
  go_upto_region 15 with fail
  have PT := rng.fou_new w6 (.int .i64 r.sq) (.int .i64 r.ps) (.int .i64 r.nm) (.slice r.A r.rs.length r.c) 63
  have hx67 := bl w6 (.cells #[.int .i64 r.sq, .int .i64 r.ps, .int .i64 r.nm, .slice r.A r.rs.length r.c] 63)
  have hb27 := hb26.trans (hx67.mono (show w2.heap.size ≤ w6.heap.size from hb26.size))
  have h47 := h46.trans (hx67.mono (Nat.le_of_lt lY6))
  have P7 := P6.keep hx67 lY6
  clear c0 c1 c2 c3 c4 c5 c6 g0 g1 g2 g3 g4 y0 y1 y2 y3 y4 y5 y6 f0 f1 f2 f3 f4 f5 f6 P6 p0 p1 p2 p3
  generalize hg6 : w6.heap.size = gT at *
  have lT7 : gY < (w6.alloc (.cells #[.int .i64 r.sq, .int .i64 r.ps, .int .i64 r.nm, .slice r.A r.rs.length r.c] 63)).heap.size := Nat.lt_of_lt_of_le lY6 (by simp; omega)
  generalize w6.alloc (.cells #[.int .i64 r.sq, .int .i64 r.ps, .int .i64 r.nm, .slice r.A r.rs.length r.c] 63) = w7 at *
  obtain ⟨⟨g0, g1, g2, g3, g4⟩, ⟨c0, c1, c2, c3, c4, c5, c6⟩, -⟩ := HMM.out w7 hb27
  obtain ⟨t0, t1, t2', t3, -, -, -, -⟩ := id PT
  obtain ⟨y0, y1, y2, y3, y4, y5, y6, f0, f1, f2, f3, f4, f5, f6⟩ := id P7
  go_quiet (fail)
  have HS1 := Lib.hid (show ∀ k, Calls Tryz.prog 13 #[.agg #[.int .i64 z, .int .i64 d, .int .i64 s, .int .i64 l, .int .i64 a], .agg #[.int .i64 y.gen, .int .i64 y.ep, .int .i64 y.pos, .int .i64 y.seq, .int .i64 (x.seq + (M : Int) - 1), .string y.lab, .slice y.HA y.hs.length y.hc], .slice (some ⟨p, 0, none⟩) l.toNat pc, .slice (some ⟨q, 0, none⟩) l.toNat qc] (w7.drewN k) fun e w' => ScanA (w7.drewN k).heap.size (tds ts, [], 0) e w' ∧ Below (w7.drewN k).heap.size (w7.drewN k) w' from fun k => HSC.out (w7.drewN k) (x.seq + (M : Int) - 1) F S (tds ts, [], 0) (bt hb02 (below_dn hb27 k)) (HY.out _ (below_dn h47 k)).1 (HY.out _ (below_dn h47 k)).2 hsF hsS (by omega) (by rw [HSN.out]; unfold finS; rw [if_neg (by omega)]))
  go_upto_region 17 with (go_at_call 13; (with_reducible refine (HS1.out _).mono ?_); rintro e w8 ⟨⟨T, U, rfl, hT1, hU1, -, -, -, -⟩, hbq⟩; (have hb8 : Below w7.heap.size w7 w8 := bt (below_dn (Below.refl w7.heap.size w7) _) hbq); clear hbq)
  have hb28 := hb27.trans (hb8.mono (show w2.heap.size ≤ w7.heap.size from hb27.size))
  have h48 := h47.trans (hb8.mono (Nat.le_of_lt lT7))
  have P8 := P7.keep hb8 lT7
  have lT8 := Nat.lt_of_lt_of_le lT7 hb8.size
  obtain ⟨hyo8, hT8⟩ := HY.out w8 h48
  obtain ⟨rb, hrb, -, hby, s0, s1⟩ := hT8.swap.atF hQn
  have hrl : rb.d = (0, writB l a 1 x.ep (tds ts) Q) := by
   have h9 : (gds S)[Q]? = some rb.d := by unfold gds; rw [List.getElem?_map, hrb]; rfl
   rw [hS] at h9
   unfold writF at h9
   rw [List.getElem?_map, List.getElem?_range hQn] at h9
   exact (Option.some.inj h9).symm
  have hre : rb.e = 0 := congrArg Prod.fst hrl
  have hrb2 : rb.l = writB l a 1 x.ep (tds ts) Q := congrArg Prod.snd hrl
  have HRB := Lib.hid (And.intro hre hrb2)
  clear hrl hre hrb2
  have HFL := Lib.hid (sel.ref_flip_all rb.A rb.c _ rb.l.length rb.l (B : Int) (B : Int) w8 rfl hby.h.1 (by have := hsS rb (List.mem_of_getElem? hrb); omega))
  have hpq := hT8.ne
  have hqp := hpq.symm
  clear c0 c1 c2 c3 c4 c5 c6 g0 g1 g2 g3 g4 y0 y1 y2 y3 y4 y5 y6 f0 f1 f2 f3 f4 f5 f6 t0 t1 t2' t3 PT HS1 P7 hT1 hU1 hb8 hb27 h47
  obtain ⟨ra, -, -, -, x0, x1⟩ := hT8.atF hQn
  go_upto_region 18 with (go_at_call 24; (with_reducible refine HFL.out.mono ?_); rintro e w9 ⟨⟨out, hto, v, rfl, hown⟩, hb9⟩; (obtain ⟨Z, zc, rfl, -, -, -, -⟩ := id hown.form); have hT9 := hT8.below hb9; clear x0 x1 s0 s1; (obtain ⟨ra2, -, -, -, x0, x1⟩ := hT9.atF hQn); (obtain ⟨rb2, -, -, -, s0, s1⟩ := hT9.swap.atF hQn); have k0 := hT9.fz (Q * 2); have k1 := hT9.fz (Q * 2 + 1); have k2 := hT9.swap.fz (Q * 2 + 1))
  have hTA := hT9.put (j := Q) hQn (r := ⟨6, none, 0, []⟩) (m := 0) rfl (byT_nil _ _ _ _ _ (Nat.zero_le _))
  have hrbS : S[Q]? = some rb := hrb
  have hTB := (hTA.swap.set1 (j := Q) hrbS (X := Z) (c := zc) (L := out) (m := out.length) rfl (((byT_own (v := rb.e) hown hT8.lt1.2 hT8.lt2.2).set (.inl rfl) _).set (.inl rfl) _).sw).swap
  have hpW := hT8.lt1
  have hqW := hT8.lt2
  have hyo9 := OwnH.cell_set (o := Q * 2 + 1) (OwnH.cell_set (o := Q * 2 + 1) (OwnH.cell_set (o := Q * 2) (OwnH.below hyo8 hb9) hTp.2 (.int .i64 6)) hTp.2 (.slice none 0 0)) hTq.2 (.slice Z out.length zc)
  have hb29 : Below w2.heap.size w2 (((w9.setCell ⟨p, Q * 2, none⟩ (.int .i64 6)).setCell ⟨p, Q * 2 + 1, none⟩ (.slice none 0 0)).setCell ⟨q, Q * 2 + 1, none⟩ (.slice Z out.length zc)) := (((hb28.trans (hb9.mono (show w2.heap.size ≤ w8.heap.size from hb28.size))).setCell (p := ⟨p, Q * 2, none⟩) hTp.1 _).setCell (p := ⟨p, Q * 2 + 1, none⟩) hTp.1 _).setCell (p := ⟨q, Q * 2 + 1, none⟩) hTq.1 _
  have P9 := (((P8.keep hb9 lT8).apart (g' := p) (o := Q * 2) (by omega) (.int .i64 6)).apart (g' := p) (o := Q * 2 + 1) (by omega) (.slice none 0 0)).apart (g' := q) (o := Q * 2 + 1) (by omega) (.slice Z out.length zc)
  have HTO := Lib.hid hto
  clear x0 x1 s0 s1 k0 k1 k2 hTA hT9 hT8 hyo8 hb28 hb9 hown HFL P8 hto hby
  generalize ((w9.setCell ⟨p, Q * 2, none⟩ (.int .i64 6)).setCell ⟨p, Q * 2 + 1, none⟩ (.slice none 0 0)).setCell ⟨q, Q * 2 + 1, none⟩ (.slice Z out.length zc) = wB at *
  obtain ⟨⟨g0, g1, g2, g3, g4⟩, -, -⟩ := HMM.out wB hb29
  obtain ⟨y0, y1, y2, y3, y4, y5, y6, f0, f1, f2, f3, f4, f5, f6⟩ := id P9
  have HS2 := Lib.hid (show Calls Tryz.prog 13 #[.agg #[.int .i64 z, .int .i64 d, .int .i64 s, .int .i64 l, .int .i64 a], .agg #[.int .i64 y.gen, .int .i64 y.ep, .int .i64 y.pos, .int .i64 y.seq, .int .i64 (x.seq + (M : Int) - 1), .string y.lab, .slice y.HA y.hs.length y.hc], .slice (some ⟨p, 0, none⟩) l.toNat pc, .slice (some ⟨q, 0, none⟩) l.toNat qc] wB fun e w' => ScanA wB.heap.size ([], [], 12) e w' ∧ Below wB.heap.size wB w' from by
   refine HSC.out wB (x.seq + (M : Int) - 1) (F.set Q ⟨6, none, 0, []⟩) (S.set Q ⟨rb.e, Z, zc, out⟩) ([], [], 12) (bt hb02 hb29) hyo9 hTB ?_ ?_ (by omega) ?_
   ·intro r hr
    rcases List.mem_or_eq_of_mem_set hr with k | rfl
    ·exact hsF r k
    ·exact Nat.zero_le _
   ·intro r hr
    rcases List.mem_or_eq_of_mem_set hr with k | rfl
    ·exact hsS r k
    ·show out.length ≤ 1048576
     rw [HTO.out.1]
     exact hsS rb (List.mem_of_getElem? hrbS)
   ·have hgF : gds (F.set Q ⟨6, none, 0, []⟩) = (writF l a 0 x.ep (tds ts)).set Q (6, []) := by unfold gds; rw [List.map_set]; exact congrArg (fun q => q.set Q (6, [])) hF
    have hgS : gds (S.set Q ⟨rb.e, Z, zc, out⟩) = (writF l a 1 x.ep (tds ts)).set Q (0, out) := by unfold gds; rw [List.map_set]; show (S.map nwt.GotR.d).set Q (rb.e, out) = _; rw [HRB.out.1]; exact congrArg (fun q => q.set Q (0, out)) hS
    have hto := HTO.out
    rw [HRB.out.2] at hto
    rw [hgF, hgS]
    unfold scanN
    have hw0 : ∀ cp : Int, Q < (writF l a cp x.ep (tds ts)).length := fun cp => by rw [writF_length]; exact hQn
    refine scan_hole HO.out hp2 HLT.out (ep := x.ep) (i := J) hJt (k := K) HKQ.out.1 (fun s h0 h1 h2 => ?_) ?_
    ·rw [HKQ.out.2] at h2
     rw [kOf_set (hw0 0) h0, kOf_set (hw0 1) h0, if_neg h2, if_neg h2]
     exact ⟨HK0.out s h0 h1, HK1.out s h0 h1⟩
    ·rw [HKQ.out.2, kOf_set (hw0 0) (by omega), kOf_set (hw0 1) (by omega), if_pos rfl, if_pos rfl]
     refine ⟨sayK_err (by decide), ?_⟩
     have hrok := recAt_ok (ep := x.ep) hll hp2 HLT.out hsq.1 hep (Q : Int)
     exact sayK_flip HO.out hrok rfl hto)
  go_wp2_with (first
   | (go_at_call 13; (with_reducible refine HS2.out.mono ?_); rintro e wC ⟨⟨T2, U2, rfl, hT2, hU2, -, -, -, -⟩, hbC⟩; have hT3 : T2.ts.length = 0 := (by have := congrArg List.length hT2; rw [tds_length] at this; exact this); have hU3 : U2.rs.length = 0 := (by have := congrArg List.length hU2; rw [gds_length] at this; exact this))
   | (go_at_call 17; (with_reducible refine (HK.out _ (bt (bt hb02 hb29) hbC)).mono ?_); rintro e wD ⟨rfl, hbD⟩)
   | fail)
  go_ret
  exact ⟨rfl, bt (bt (bt hb02 hb29) hbC) hbD⟩
theorem scanholes_law (z d s l a : Int) (x : AV) (yA : Option Addr) (yc n : Nat) (ys : List Int) (i0 k0 b0 : Int) (sh : Bool) (w : World) (hc : Csc w) (hk : ∀ W, Below w.heap.size w W → Calls Tryz.prog 17 #[] W fun e w' => e = .returned (.bool true) ∧ Below W.heap.size W w') (hx : x.In w w.heap.size) (hA : SlV w w.heap.size yA (ints ys)) (hyn : ys.length = n) :
  Calls Tryz.prog 6 #[.agg #[.int .i64 z, .int .i64 d, .int .i64 s, .int .i64 l, .int .i64 a], .agg #[.int .i64 x.gen, .int .i64 x.ep, .int .i64 x.pos, .int .i64 x.seq, .int .i64 x.last, .string x.lab, .slice x.HA x.hs.length x.hc], .slice yA n yc, .int .i64 i0, .int .i64 k0, .int .i64 b0, .bool sh] w fun e w' => e = .returned (.bool true) ∧ Below w.heap.size w w' := by
 by_cases hh : HeavyA x.d
 ·exact schol_heavy z d s l a x yA yc n i0 k0 b0 sh w hx hh
 by_cases hn : (40 : Int) < (n : Int)
 ·exact schol_long z d s l a x yA yc n i0 k0 b0 sh w hx hh hn
 by_cases ho : Ok z d s l a
 case neg => exact schol_geo z d s l a x yA yc n i0 k0 b0 sh w hx hh hn ho
 by_cases hg : anc.Good z d s l x.d
 case neg => exact schol_bad z d s l a x yA yc n i0 k0 b0 sh w hx hh hn ho hg
 by_cases hq : 1000000 < x.seq
 ·exact schol_late z d s l a x yA yc n i0 k0 b0 sh w hx hh hn ho hg hq
 exact schol_main z d s l a x yA yc n i0 k0 b0 sh ys w hc hk hx hA hyn hh hn ho hg hq
end Go.Proofs.YtbfdpibjicjagaaGreatDoor.scn
