/-
  ScanCut walked. Conditions: 'Csc', the laws' example.
-/
import Derived.Test.YtbfdpibjicjagaaGreatDoorScLK
import Derived.Test.YtbfdpibjicjagaaGreatDoorGSb
import Derived.Test.YtbfdpibjicjagaaGreatDoorGSa
import Derived.Test.YtbfdpibjicjagaaGreatDoorGRg
import Derived.Test.YtbfdpibjicjagaaGreatDoorGAw
import Derived.BigQuiet
set_option maxHeartbeats 8000000
set_option maxRecDepth 100000
namespace Go.Proofs.YtbfdpibjicjagaaGreatDoor.scn
open Go.RowKit Go.Lib
open Go.Proofs.YtbfdpibjicjagaaGreatDoor.gmt (Ok rgeo_at)
open Go.Proofs.YtbfdpibjicjagaaGreatDoor.anc (AV AC ac_new bl kal kst ks bm ka HeavyA light heavy_any right_p Sev sev_new twin_anchor OwnH.cell_set OwnH.below row_form)
open Go.Proofs.YtbfdpibjicjagaaGreatDoor.tbl (G5 g5_new)
open Go.Proofs.YtbfdpibjicjagaaGreatDoor.lrc (Rcd noRec RecOk NumOk encR cellN)
open Go.Proofs.YtbfdpibjicjagaaGreatDoor.rng (XV TxR Txd tds tvs TIn LogOk OwnT ownT_in log_c logX tabB tabB_told logX_ok txn_at tds_length offN)
open Go.Proofs.YtbfdpibjicjagaaGreatDoor.nwt (GV GotR gds gvs gds_length)
open Go.Proofs.YtbfdpibjicjagaaGreatDoor.crc (TurnedAll)
open Go.Proofs.YtbfdpibjicjagaaGreatDoor.sel (place maskOf)
structure SrcR (w : World) (p q p2 N : Nat) (U : List GotR) : Prop where
 l : U.length = N
 c : ∀ j, j < N → ∃ r, U[j]? = some r ∧ w.cell? ⟨p2, j * 2, none⟩ = some (.int .i64 r.e) ∧ w.cell? ⟨p2, j * 2 + 1, none⟩ = some (.slice r.A r.l.length r.c) ∧ ByT w p q r
 ne : p2 ≠ p ∧ p2 ≠ q
 lt : p2 < w.heap.size
theorem srcR_of {w : World} {base p2 c2 q2 d2 N p q : Nat} {U V : List GotR} (h : TwoR w base p2 c2 q2 d2 N U V) (hb : ∀ r ∈ U, ByT w p q r) (hp : p < base) (hq : q < base) : SrcR w p q p2 N U := by
 refine ⟨h.lF, fun j hj => ?_, by have := h.lt1; omega, h.lt1.2⟩
 obtain ⟨r, h1, h2, -, h4, h5⟩ := h.atF hj
 exact ⟨r, h1, h4, h5, hb r h2⟩
theorem SrcR.set {w : World} {p q p2 N b o : Nat} {U : List GotR} (h : SrcR w p q p2 N U) (hb : b = p ∨ b = q) (v : Value) : SrcR (w.setCell ⟨b, o, none⟩ v) p q p2 N U := by
 have hne : b ≠ p2 := by rcases hb with rfl | rfl; exact h.ne.1.symm; exact h.ne.2.symm
 refine ⟨h.l, fun j hj => ?_, h.ne, by rw [World.size_setCell]; exact h.lt⟩
 obtain ⟨r, h1, h2, h3, h4⟩ := h.c j hj
 refine ⟨r, h1, ?_, ?_, h4.set hb v⟩
 ·rw [World.cell?_setCell_other _ _ _ _ (by simp only [ne_eq, Addr.mk.injEq, not_and]; intro k; exact absurd k hne)]; exact h2
 ·rw [World.cell?_setCell_other _ _ _ _ (by simp only [ne_eq, Addr.mk.injEq, not_and]; intro k; exact absurd k hne)]; exact h3
theorem SrcR.below {w w' : World} {p q p2 N : Nat} {U : List GotR} (h : SrcR w p q p2 N U) (hb : Below w.heap.size w w') : SrcR w' p q p2 N U := by
 refine ⟨h.l, fun j hj => ?_, h.ne, Nat.lt_of_lt_of_le h.lt hb.size⟩
 obtain ⟨r, h1, h2, h3, h4⟩ := h.c j hj
 exact ⟨r, h1, kst hb h.lt h2, kst hb h.lt h3, h4.next hb⟩
theorem cutF_yes {F U : List Rd} {sl : Nat → Nat} {P : Nat → Bool} {k : Nat} {X : List GotR} {r : GotR} {W : List GotR} (hX : gds X = cutF F U sl P k) (hP : P k = true) (hW : gds W = U) (hr : W[sl k]? = some r) : gds (X.set (sl k) r) = cutF F U sl P (k + 1) := by
 rw [cutF, if_pos hP, ← hX]
 unfold gds
 rw [List.map_set]
 congr 1
 rw [← hW, List.getD_eq_getElem?_getD]
 unfold gds
 rw [List.getElem?_map, hr]
 rfl
theorem cutF_short {F U : List Rd} {sl : Nat → Nat} {P : Nat → Bool} {B : Nat} (hF : ∀ y ∈ F, y.2.length ≤ B) (hU : ∀ y ∈ U, y.2.length ≤ B) : ∀ k, ∀ y ∈ cutF F U sl P k, y.2.length ≤ B := by
 intro k
 induction k with
 | zero => exact hF
 | succ k ih =>
  intro y hy
  rw [cutF] at hy
  split at hy
  ·rcases List.mem_or_eq_of_mem_set hy with h | h
   ·exact ih y h
   ·rw [h, List.getD_eq_getElem?_getD]
    cases hq : U[sl k]? with
    | none => exact Nat.zero_le _
    | some u => exact hU u (List.mem_of_getElem? hq)
  ·exact ih y hy
theorem short_gds {B : Nat} {F : List GotR} (h : nwt.GShort B F) : ∀ y ∈ gds F, y.2.length ≤ B := fun y hy => by
 obtain ⟨r, hr, rfl⟩ := List.mem_map.1 hy
 exact h r hr
theorem gds_short {B : Nat} {F : List GotR} (h : ∀ y ∈ gds F, y.2.length ≤ B) : nwt.GShort B F := fun r hr => h r.d (List.mem_map.2 ⟨r, hr, rfl⟩)
theorem cutF_no {F U : List Rd} {sl : Nat → Nat} {P : Nat → Bool} {k : Nat} (hP : ¬ P k = true) : cutF F U sl P (k + 1) = cutF F U sl P k := by rw [cutF, if_neg hP]
theorem sccut_main (z d s l a : Int) (x : AV) (yA : Option Addr) (yc n : Nat) (fl : Int) (kA : Option Addr) (kc m : Nat) (ks : List Int) (ys : List Int) (w : World) (hc : Csc w) (hk : ∀ W, Below w.heap.size w W → Calls Tryz.prog 17 #[] W fun e w' => e = .returned (.bool true) ∧ Below W.heap.size W w') (hx : x.In w w.heap.size) (hA : SlV w w.heap.size yA (ints ys)) (hyn : ys.length = n) (hks : SlV w w.heap.size kA (ints ks)) (hkm : ks.length = m) (hfl : 0 ≤ fl ∧ fl ≤ 255) (hh : ¬ HeavyA x.d) (hn : ¬ (40 : Int) < (n : Int)) (ho : Ok z d s l a) (hg : anc.Good z d s l x.d) (hq : ¬ 1000000 < x.seq) :
  Calls Tryz.prog 5 #[.agg #[.int .i64 z, .int .i64 d, .int .i64 s, .int .i64 l, .int .i64 a], .agg #[.int .i64 x.gen, .int .i64 x.ep, .int .i64 x.pos, .int .i64 x.seq, .int .i64 x.last, .string x.lab, .slice x.HA x.hs.length x.hc], .slice yA n yc, .int .u8 fl, .slice kA m kc] w fun e w' => e = .returned (.bool true) ∧ Below w.heap.size w w' := by
 have cH := fun W (hW : Below w.heap.size w W) => heavy_any false x W (hx.next hW) (iff_of_false Bool.false_ne_true hh)
 have cG := fun W => rgeo_at true z d s l a W (iff_of_true rfl ho)
 obtain ⟨t1, t2, t3⟩ := light hh
 have cR := fun W (hW : Below w.heap.size w W) => right_p z d s l a true x W ho (hx.next hW) (by omega) (fun r hr => by have := t3 r hr; omega) (by omega) (iff_of_true rfl hg)
 have HC := Lib.hid hc
 have HKS := Lib.hid hks
 have HKM := Lib.hid hkm
 clear hks hkm
 have HK := Lib.hid hk
 have HX := Lib.hid hx
 have HO := Lib.hid ho
 have HGD := Lib.hid hg
 have HT3 := Lib.hid t3
 have HT1 := Lib.hid t1
 have HLAB := Lib.hid (show x.lab.size ≤ 4294967295 by omega)
 have hpos : 0 ≤ x.pos ∧ x.pos ≤ l - 1 := hg.2.2.2.2.2.1
 have hp2 : 0 ≤ x.pos ∧ x.pos < l := ⟨hpos.1, by omega⟩
 have hsq : 0 ≤ x.seq ∧ x.seq ≤ 4294967295 := ⟨by have := hg.2.2.1.1; exact Int.le_trans (by decide) this, hg.2.2.1.2⟩
 have hsq1 : 1 ≤ x.seq := hg.2.2.1.1
 have hep : 0 ≤ x.ep ∧ x.ep ≤ 4294967295 := hg.2.1
 have hll : 14 ≤ l ∧ l ≤ 30 := ho.2.2.2.1
 have HLG := Lib.hid (show ∀ W, Below w.heap.size w W → Calls Tryz.prog 21 #[.agg #[.int .i64 z, .int .i64 d, .int .i64 s, .int .i64 l, .int .i64 a], .agg #[.int .i64 x.gen, .int .i64 x.ep, .int .i64 x.pos, .int .i64 x.seq, .int .i64 x.last, .string x.lab, .slice x.HA x.hs.length x.hc], .slice yA n yc, .int .u8 fl] W fun e w' => (∃ (A : Option Addr) (c : Nat) (ts : List TxR), e = .returned (.slice A ts.length c) ∧ tds ts = logX z d l (tabB d) (UInt8.ofNat fl.toNat) x.seq 0 x.pos 0 ys ∧ XV.In w' w'.heap.size ⟨A, c, ts⟩) ∧ Below W.heap.size W w' from fun W hW =>
  (log_c z d s l a x.gen x.ep x.pos x.seq x.last x.lab x.HA x.hs.length x.hc yA yc ys n fl W ho (hA.next hW) hyn (by omega) hpos hsq hfl).mono fun e w' ⟨⟨v, ts, h1, h2, h3⟩, hb⟩ => by
   obtain ⟨A, c, hv, hin⟩ := ownT_in h3
   exact ⟨⟨A, c, ts, by rw [h1, hv], h2, hin⟩, hb⟩)
 have HLO := Lib.hid (show LogOk z d l x.pos x.seq 0 (logX z d l (tabB d) (UInt8.ofNat fl.toNat) x.seq 0 x.pos 0 ys) from by
  have h9 := logX_ok (z := z) (d := d) (l := l) (tb := tabB d) ho.1.1 ho.2.1 (tabB_told (by have := ho.2.1; omega)) (UInt8.ofNat fl.toNat) x.seq ys 0 x.pos 0 (by omega)
  simpa using h9)
 unfold AV.v at *
 have s1 : (w.alloc (.cells #[.int .i64 z, .int .i64 d, .int .i64 s, .int .i64 l, .int .i64 a] 23)).heap.size = w.heap.size + 1 := by simp
 have GG := (g5_new w z d s l a).keep (bl (w.alloc (.cells #[.int .i64 z, .int .i64 d, .int .i64 s, .int .i64 l, .int .i64 a] 23)) (.cells #[.int .i64 x.gen, .int .i64 x.ep, .int .i64 x.pos, .int .i64 x.seq, .int .i64 x.last, .string x.lab, .slice x.HA x.hs.length x.hc] 26)) (by simp)
 have FF := ac_new (w.alloc (.cells #[.int .i64 z, .int .i64 d, .int .i64 s, .int .i64 l, .int .i64 a] 23)) x
 rw [s1] at FF
 have hb0 := kal (bl w (.cells #[.int .i64 z, .int .i64 d, .int .i64 s, .int .i64 l, .int .i64 a] 23)) (.cells #[.int .i64 x.gen, .int .i64 x.ep, .int .i64 x.pos, .int .i64 x.seq, .int .i64 x.last, .string x.lab, .slice x.HA x.hs.length x.hc] 26)
 have l1 : w.heap.size + 1 < ((w.alloc (.cells #[.int .i64 z, .int .i64 d, .int .i64 s, .int .i64 l, .int .i64 a] 23)).alloc (.cells #[.int .i64 x.gen, .int .i64 x.ep, .int .i64 x.pos, .int .i64 x.seq, .int .i64 x.last, .string x.lab, .slice x.HA x.hs.length x.hc] 26)).heap.size := by simp
 clear hx hh ho hg t1 t3 hc hk hA hyn s1
 go_enter Tryz.func5, Tryz.ntmps5
 go_upto_region 1 with fail
 generalize (w.alloc (.cells #[.int .i64 z, .int .i64 d, .int .i64 s, .int .i64 l, .int .i64 a] 23)).alloc (.cells #[.int .i64 x.gen, .int .i64 x.ep, .int .i64 x.pos, .int .i64 x.seq, .int .i64 x.last, .string x.lab, .slice x.HA x.hs.length x.hc] 26) = w0 at *
 obtain ⟨c0, c1, c2, c3, c4, c5, c6⟩ := id FF
 obtain ⟨g0, g1, g2, g3, g4⟩ := id GG
 go_upto_region 3 with (first
  | (go_at_call 10; (with_reducible refine (cH _ hb0).mono ?_); rintro e wq ⟨rfl, hbq⟩; replace FF := FF.keep hbq (by omega); replace GG := GG.keep hbq (by omega); replace l1 := Nat.lt_of_lt_of_le l1 hbq.size; clear c0 c1 c2 c3 c4 c5 c6 g0 g1 g2 g3 g4; obtain ⟨c0, c1, c2, c3, c4, c5, c6⟩ := id FF; obtain ⟨g0, g1, g2, g3, g4⟩ := id GG; replace hb0 := bt hb0 hbq; clear hbq)
  | (go_at_call 15; (with_reducible refine (cG _).mono ?_); rintro e wq ⟨rfl, hbq⟩; replace FF := FF.keep hbq (by omega); replace GG := GG.keep hbq (by omega); replace l1 := Nat.lt_of_lt_of_le l1 hbq.size; clear c0 c1 c2 c3 c4 c5 c6 g0 g1 g2 g3 g4; obtain ⟨c0, c1, c2, c3, c4, c5, c6⟩ := id FF; obtain ⟨g0, g1, g2, g3, g4⟩ := id GG; replace hb0 := bt hb0 hbq; clear hbq)
  | (go_at_call 16; (with_reducible refine (cR _ hb0).mono ?_); rintro e wq ⟨rfl, hbq⟩; replace FF := FF.keep hbq (by omega); replace GG := GG.keep hbq (by omega); replace l1 := Nat.lt_of_lt_of_le l1 hbq.size; clear c0 c1 c2 c3 c4 c5 c6 g0 g1 g2 g3 g4; obtain ⟨c0, c1, c2, c3, c4, c5, c6⟩ := id FF; obtain ⟨g0, g1, g2, g3, g4⟩ := id GG; replace hb0 := bt hb0 hbq; clear hbq)
  | fail)
 go_upto_region 4 with (go_at_call 21; (with_reducible refine (HLG.out _ hb0).mono ?_); rintro e w2 ⟨⟨A, c, ts, rfl, hts, hin⟩, hb2⟩)
 have hLT : LogOk z d l x.pos x.seq 0 (tds ts) := by rw [hts]; exact HLO.out
 have hlen : ts.length ≤ 15 := by
  have h1 := log_len hll.2 hLT (by omega)
  rwa [rng.tds_length] at h1
 have HLT := Lib.hid hLT
 clear hts hLT HLO HLG
 obtain ⟨M, hM⟩ : ∃ M, M = ts.length := ⟨_, rfl⟩
 rw [← hM]
 have hM15 : M ≤ 15 := by omega
 have HM := Lib.hid hM
 clear hM
 have hb02 := bt hb0 hb2
 replace FF := FF.keep hb2 (by omega)
 replace GG := GG.keep hb2 (by omega)
 have l2 := Nat.lt_of_lt_of_le l1 hb2.size
 clear c0 c1 c2 c3 c4 c5 c6 g0 g1 g2 g3 g4 cH cG cR hb0 hb2 l1
 obtain ⟨c0, c1, c2, c3, c4, c5, c6⟩ := id FF
 obtain ⟨g0, g1, g2, g3, g4⟩ := id GG
 have v1 : IntKind.i64.wrap (x.seq + (M : Int)) = x.seq + (M : Int) := IntWalk.i64_in _ (by omega)
 have v2 : IntKind.i64.wrap (x.seq + (M : Int) - 2) = x.seq + (M : Int) - 2 := IntWalk.i64_in _ (by omega)
 by_cases hM0 : M = 0
 ·subst hM0
  go_wp2_with fail
  go_ret
  exact ⟨rfl, hb02⟩
 have m0 : ((M : Int) == 0) = false := beq_eq_false_iff_ne.2 (by omega)
 by_cases hL0 : x.seq + (M : Int) - 2 < x.last
 ·go_wp2_with fail
  go_ret
  exact ⟨rfl, hb02⟩
 have HWR := Lib.hid (show ∀ (k : Nat) (W : World), k ≤ M → Below w2.heap.size w2 W → Calls Tryz.prog 22 #[.agg #[.int .i64 z, .int .i64 d, .int .i64 s, .int .i64 l, .int .i64 a], .slice A k c, .int .i64 x.ep] W fun e w' => (∃ (p q pc qc : Nat) (F S : List GotR), e = .returned (.tuple #[.slice (some ⟨p, 0, none⟩) l.toNat pc, .slice (some ⟨q, 0, none⟩) l.toNat qc]) ∧ gds F = writF l a 0 x.ep ((tds ts).take k) ∧ gds S = writF l a 1 x.ep ((tds ts).take k) ∧ TwoR w' W.heap.size p pc q qc l.toNat F S ∧ (∀ p' q', p' < W.heap.size → q' < W.heap.size → (∀ r ∈ F, ByT w' p' q' r) ∧ (∀ r ∈ S, ByT w' p' q' r))) ∧ Below W.heap.size W w' from fun k W hk hW => by
  have hlen : (ts.take k).length = k := by rw [List.length_take]; have := HM.out; omega
  have htk : tds (ts.take k) = (tds ts).take k := by unfold rng.tds; rw [List.map_take]
  have h9 := written_c z d s l a x.ep x.pos x.seq ⟨A, c, ts.take k⟩ k W HO.out ⟨slv_pre (v := tvs (ts.drop k)) (by rw [← rng.tvs_append, List.take_append_drop]; exact (hin.next hW).h), fun r hr => (hin.next hW).i r (List.mem_of_mem_take hr), by show (ts.take k).length ≤ c ∧ c ≤ maxLen; have h1 : ts.length ≤ c ∧ c ≤ maxLen := hin.l; have := HM.out; omega⟩ hlen (by omega) hp2 (by rw [htk]; exact LogOk.take _ _ _ _ k HLT.out) hsq.1 hep
  refine h9.mono ?_
  rintro e w' ⟨⟨F, S, rfl, hF, hS, hFo, hSo, hAp⟩, hb⟩
  rw [htk] at hF hS
  have lF : F.rs.length = l.toNat := by have := congrArg List.length hF; rw [gds_length, writF_length] at this; exact this
  have lS : S.rs.length = l.toNat := by have := congrArg List.length hS; rw [gds_length, writF_length] at this; exact this
  obtain ⟨p, q, hp, hq, hT⟩ := two_own hFo hSo hAp lF lS (by omega)
  exact ⟨⟨p, q, F.c, S.c, F.rs, S.rs, by unfold GV.v; rw [hp, hq, lF, lS], hF, hS, hT, fun p' q' hp' hq' => ⟨fun r hr => byT_own (v := r.e) (hFo.2 r hr) hp' hq', fun r hr => byT_own (v := r.e) (hSo.2 r hr) hp' hq'⟩⟩, hb⟩)
 obtain ⟨mm, rfl⟩ : ∃ mm, M = mm + 1 := ⟨M - 1, by omega⟩
 have w1' : IntKind.i64.wrap (x.seq + ((mm : Int) + 1)) = x.seq + ((mm : Int) + 1) := IntWalk.i64_in _ (by omega)
 have w2' : IntKind.i64.wrap (x.seq + ((mm : Int) + 1) - 2) = x.seq + ((mm : Int) + 1) - 2 := IntWalk.i64_in _ (by omega)
 have w3' : IntKind.i64.wrap ((mm : Int) + 1 - 1) = (mm : Int) := by rw [IntWalk.i64_in _ (by omega)]; omega
 have w4' : ((mm : Int) + 1 == 0) = false := beq_eq_false_iff_ne.2 (by omega)
 have w5' : ¬ x.seq + ((mm : Int) + 1) - 2 < x.last := by omega
 have i4 : (mm : Int) < (mm : Int) + 1 := by omega
 clear v1 v2 m0 hL0 hM0
 obtain ⟨bA, oA, rfl, -, -⟩ := hin.h (by rw [rng.tvs_length]; have := HM.out; show 0 < ts.length * 4; omega)
 obtain ⟨b1, off, r, hTA, hb1, p0, p1, p2, p3, -, hrm, hrJ, hrd⟩ := txn_at hin.h hin.i (k := mm) (show mm < ts.length by have := HM.out; omega)
 have hTA : some (⟨bA, oA, none⟩ : Addr) = some ⟨b1, off, none⟩ := hTA
 simp only [Option.some.injEq, Addr.mk.injEq, and_true] at hTA
 obtain ⟨rfl, rfl⟩ := hTA
 have hmc : mm + 1 ≤ c := by have h1 : ts.length ≤ c := hin.l.1; have := HM.out; omega
 go_upto_region 7 with fail
 have PT := rng.fou_new w2 (.int .i64 r.sq) (.int .i64 r.ps) (.int .i64 r.nm) (.slice r.A r.rs.length r.c) 63
 have hx23 := bl w2 (.cells #[.int .i64 r.sq, .int .i64 r.ps, .int .i64 r.nm, .slice r.A r.rs.length r.c] 63)
 have lT : w2.heap.size < (w2.alloc (.cells #[.int .i64 r.sq, .int .i64 r.ps, .int .i64 r.nm, .slice r.A r.rs.length r.c] 63)).heap.size := by simp
 have HMM := Lib.hid (show ∀ W, Below (w2.alloc (.cells #[.int .i64 r.sq, .int .i64 r.ps, .int .i64 r.nm, .slice r.A r.rs.length r.c] 63)).heap.size (w2.alloc (.cells #[.int .i64 r.sq, .int .i64 r.ps, .int .i64 r.nm, .slice r.A r.rs.length r.c] 63)) W → G5 W w.heap.size z d s l a ∧ AC W (w.heap.size + 1) x ∧ XV.In W (w2.alloc (.cells #[.int .i64 r.sq, .int .i64 r.ps, .int .i64 r.nm, .slice r.A r.rs.length r.c] 63)).heap.size ⟨some ⟨bA, oA, none⟩, c, ts⟩ ∧ rng.Fou W w2.heap.size (.int .i64 r.sq) (.int .i64 r.ps) (.int .i64 r.nm) (.slice r.A r.rs.length r.c) from fun W hW => ⟨(GG.keep hx23 (by omega)).keep hW (by omega), (FF.keep hx23 l2).keep hW (by omega), (hin.next hx23).below hW, PT.keep hW lT⟩)
 have hw3 := bt hb02 hx23
 have hb23 := hx23
 clear c0 c1 c2 c3 c4 c5 c6 g0 g1 g2 g3 g4 GG FF hin PT p0 p1 p2 p3 hx23
 generalize w2.heap.size = gT at *
 generalize w2.alloc (.cells #[.int .i64 r.sq, .int .i64 r.ps, .int .i64 r.nm, .slice r.A r.rs.length r.c] 63) = w3 at *
 obtain ⟨⟨g0, g1, g2, g3, g4⟩, ⟨c0, c1, c2, c3, c4, c5, c6⟩, -, -⟩ := HMM.out w3 (Below.refl _ _)
 have HF := Lib.hid (show ∀ W, Below w3.heap.size w3 W → (W.cell? ⟨w.heap.size, 0, none⟩ = some (.int .i64 z) ∧ W.cell? ⟨w.heap.size, 1, none⟩ = some (.int .i64 d) ∧ W.cell? ⟨w.heap.size, 2, none⟩ = some (.int .i64 s) ∧ W.cell? ⟨w.heap.size, 3, none⟩ = some (.int .i64 l) ∧ W.cell? ⟨w.heap.size, 4, none⟩ = some (.int .i64 a) ∧ W.cell? ⟨w.heap.size + 1, 1, none⟩ = some (.int .i64 x.ep)) ∧ Below w3.heap.size w3 W from fun W hW => by
  obtain ⟨⟨g0, g1, g2, g3, g4⟩, ⟨c0, c1, c2, c3, c4, c5, c6⟩, -, -⟩ := HMM.out W hW
  exact ⟨⟨g0, g1, g2, g3, g4, c1⟩, hW⟩)
 have i5 : (mm : Int) ≤ (c : Int) := by omega
 have i6 : mm ≤ c := by omega
 have i7' : (0 : Int) ≤ (mm : Int) := by omega
 have i8' : IntKind.i64.wrap (mm : Int) = (mm : Int) := IntWalk.i64_in _ (by omega)
 have HMC := Lib.hid hmc
 clear hmc g0 g1 g2 g3 g4 c0 c1 c2 c3 c4 c5 c6
 go_region_held3 (fun W => (W.cell? ⟨w.heap.size, 0, none⟩ = some (.int .i64 z) ∧ W.cell? ⟨w.heap.size, 1, none⟩ = some (.int .i64 d) ∧ W.cell? ⟨w.heap.size, 2, none⟩ = some (.int .i64 s) ∧ W.cell? ⟨w.heap.size, 3, none⟩ = some (.int .i64 l) ∧ W.cell? ⟨w.heap.size, 4, none⟩ = some (.int .i64 a) ∧ W.cell? ⟨w.heap.size + 1, 1, none⟩ = some (.int .i64 x.ep)) ∧ Below w3.heap.size w3 W)
  ((refine HF.out _ ?_; first
   | with_reducible exact hb4
   | with_reducible exact below_dr (Below.refl _ _)
   | fail))
  (first
   | (go_at_call 22; (with_reducible refine (HWR.out mm w3.drew (Nat.le_succ _) (hb23.trans ((below_dr (Below.refl w3.heap.size w3)).mono (Nat.le_of_lt lT)))).mono ?_); rintro e w4 ⟨⟨p, q, pc, qc, F, S, rfl, hF, hS, hT, hBy⟩, hbq⟩; have hb4 : Below w3.heap.size w3 w4 := bt (below_dr (Below.refl w3.heap.size w3)) hbq; clear hbq)
   | fail)
 have hT : TwoR w4 w3.heap.size p pc q qc l.toNat F S := hT
 obtain ⟨⟨g0, g1, g2, g3, g4⟩, ⟨c0, c1, c2, c3, c4, c5, c6⟩, -, -⟩ := HMM.out w4 hb4
 have l34 := hb4.size
 have hTp := hT.lt1
 have hTq := hT.lt2
 go_upto_region 9 with (go_at_call 22; (with_reducible refine (HWR.out (mm + 1) w4 (Nat.le_refl _) (hb23.trans (hb4.mono (Nat.le_of_lt lT)))).mono ?_); rintro e w5 ⟨⟨p2, q2, pc2, qc2, U, V, rfl, hUg, hVg, hT2, hBy2⟩, hb5⟩)
 have hTm : (tds ts).take (mm + 1) = tds ts := List.take_of_length_le (by rw [tds_length]; have := HM.out; omega)
 rw [hTm] at hUg hVg
 have hby2 := hBy2 p q hTp.2 hTq.2
 have hU5 := srcR_of hT2 hby2.1 hTp.2 hTq.2
 have hV5 := srcR_of hT2.swap hby2.2 hTp.2 hTq.2
 have hT5 := hT.below hb5
 have hb35 := hb4.trans (hb5.mono l34)
 have hsF := writF_short HO.out hp2 (LogOk.take _ _ _ _ mm HLT.out) hsq.1 hep hF
 have hsS := writF_short HO.out hp2 (LogOk.take _ _ _ _ mm HLT.out) hsq.1 hep hS
 have hsU := writF_short HO.out hp2 HLT.out hsq.1 hep hUg
 have hsV := writF_short HO.out hp2 HLT.out hsq.1 hep hVg
 have HSH := Lib.hid (show ∀ (X Y : List GotR) (sl : Nat → Nat) (P0 P1 : Nat → Bool) (k : Nat), gds X = cutF (writF l a 0 x.ep ((tds ts).take mm)) (writF l a 0 x.ep (tds ts)) sl P0 k → gds Y = cutF (writF l a 1 x.ep ((tds ts).take mm)) (writF l a 1 x.ep (tds ts)) sl P1 k → nwt.GShort 1048576 X ∧ nwt.GShort 1048576 Y from fun X Y sl P0 P1 k hX hY =>
  ⟨gds_short (by rw [hX, ← hF, ← hUg]; exact cutF_short (short_gds hsF) (short_gds hsU) k), gds_short (by rw [hY, ← hS, ← hVg]; exact cutF_short (short_gds hsS) (short_gds hsV) k)⟩)
 obtain ⟨H, hH⟩ : ∃ H : Nat → Nat, H = fun k => if k < m then ((IntKind.u64.wrap (ks.getD k 0)).tmod 4).toNat else 0 := ⟨_, rfl⟩
 have HH4 := Lib.hid (show ∀ k, H k < 4 from fun k => by
  rw [hH]
  dsimp only
  split
  ·obtain ⟨a1, h1, h2⟩ := wrap_modS (ks.getD k 0) 4 (by decide)
   rw [h2]
   omega
  ·omega)
 have HHD := Lib.hid hH
 have hmem : r.d ∈ tds ts := List.mem_of_getElem? hrd
 obtain ⟨e2, e3, e4, -, -, -⟩ := LogOk.nm30 hll.2 _ _ _ _ (Int.le_refl 0) HLT.out _ hmem
 have hmmt : mm < (tds ts).length := by rw [tds_length]; have := HM.out; omega
 obtain ⟨e1, -, -⟩ := LogOk.place (pos := x.pos) (tds ts) x.pos x.seq 0 mm hmmt (by rw [Int.add_zero, Int.emod_eq_of_lt hp2.1 hp2.2]) HLT.out
 have hrd2 : (tds ts)[mm] = r.d := by
  have h9 : (tds ts)[mm]? = some r.d := hrd
  rw [List.getElem?_eq_getElem hmmt] at h9
  exact Option.some.inj h9
 rw [hrd2] at e1
 have e1 : r.ps = (x.pos + 0 + offN (tds ts) mm) % l := e1
 have hps : 0 ≤ r.ps ∧ r.ps < l := by rw [e1]; exact slot_of (by omega)
 obtain ⟨NN, hNN⟩ : ∃ NN : Nat, r.nm = (NN : Int) := ⟨r.nm.toNat, by have e3 : r.nm = (r.d.ims.length : Int) + 1 := e3; omega⟩
 have e2 : r.nm ≤ 30 := e2
 have hN30 : NN ≤ 30 := by omega
 have HCT := Lib.hid (fun (wh : Bool) (hwh : wh = true ↔ ∀ k, k < NN → 0 < H k) => cut_told (a := a) (last := x.last) HO.out hp2 HLT.out hsq.1 hep mm (by rw [tds_length]; exact HM.out.symm) H HH4.out (by omega) r.d hrd wh NN hNN hwh)
 have HGU := Lib.hid (And.intro hUg hVg)
 have HNN := Lib.hid hNN
 clear hNN
 have HRM := Lib.hid hrm
 have z3 : ¬ l = 0 := by omega
 have pq1 := hT5.ne
 have pq2 := hT5.ne.symm
 have pu1 := hU5.ne.1
 have pu2 := hU5.ne.2
 have pv1 := hV5.ne.1
 have pv2 := hV5.ne.2
 have pu1' := hU5.ne.1.symm
 have pu2' := hU5.ne.2.symm
 have pv1' := hV5.ne.1.symm
 have pv2' := hV5.ne.2.symm
 clear g0 g1 g2 g3 g4 c0 c1 c2 c3 c4 c5 c6 hT hT2 hby2 hBy hBy2 hsF hsS hsU hsV hH hmem e1 e2 e3 e4 hrd2 hrd hrm hrJ hmmt hb4 hb5 hUg hVg HWR HF hTm hb23
 go_upto_region 11 with fail
 go_loopw [17, 18] (fun v i w' => ∃ (k : Nat) (cw : Bool) (X Y : List GotR), k ≤ NN ∧ i = .int .i64 (k : Int) ∧ v = .bool cw ∧ (cw = true ↔ ∀ j, j < k → 0 < H j) ∧ gds X = cutF (writF l a 0 x.ep ((tds ts).take mm)) (writF l a 0 x.ep (tds ts)) (fun k => ((r.ps + (k : Int)) % l).toNat) (fun k => decide (H k % 2 = 1)) k ∧ gds Y = cutF (writF l a 1 x.ep ((tds ts).take mm)) (writF l a 1 x.ep (tds ts)) (fun k => ((r.ps + (k : Int)) % l).toNat) (fun k => decide (H k / 2 = 1)) k ∧ TwoR w' w3.heap.size p pc q qc l.toNat X Y ∧ SrcR w' p q p2 l.toNat U ∧ SrcR w' p q q2 l.toNat V ∧ Below w3.heap.size w3 w') (fun _ i _ => NN - (RowKit.intOf i).toNat)
 case atStart => exact ⟨0, true, F, S, by omega, rfl, rfl, ⟨fun _ j hj => absurd hj (by omega), fun _ => rfl⟩, hF, hS, hT5, hU5, hV5, hb35⟩
 case round =>
  obtain ⟨w6, rfl⟩ : ∃ y, y = wr := ⟨wr, rfl⟩
  obtain ⟨k, cw, X, Y, hk, rfl, rfl, hcw, hX, hY, hT6, hU6, hV6, hbr⟩ := hrel
  obtain ⟨⟨g0, g1, g2, g3, g4⟩, ⟨c0, c1, c2, c3, c4, c5, c6⟩, hxi, ⟨t0, t1, tn, t3, -, -, -, -⟩⟩ := HMM.out w6 hbr
  rw [HNN.out] at tn
  have HCW := Lib.hid hcw
  have HXG := Lib.hid (And.intro hX hY)
  have hw6 := bt hw3 hbr
  clear hcw hX hY hF hS hT5 hU5 hV5 hb35
  by_cases hlt : k < NN
  ·obtain ⟨Q, hQ⟩ : ∃ Q : Nat, (r.ps + (k : Int)) % l = (Q : Int) := ⟨((r.ps + (k : Int)) % l).toNat, by have := Int.emod_nonneg (r.ps + (k : Int)) (b := l) (by omega); omega⟩
   have hQl : (Q : Int) < l := by rw [← hQ]; exact Int.emod_lt_of_pos _ (by omega)
   have hQ2 : (r.ps + (k : Int)).tmod l = (Q : Int) := by rw [Int.tmod_eq_emod_of_nonneg (by omega)]; exact hQ
   have hQ3 : ((r.ps + (k : Int)) % l).toNat = Q := by rw [hQ]; omega
   have HQ3 := Lib.hid hQ3
   have hQn : Q < l.toNat := by omega
   have i2 : (Q : Int) < (l.toNat : Int) := by omega
   have i1 : (k : Int) < (NN : Int) := by omega
   have u6 : IntKind.i64.wrap (r.ps + (k : Int)) = r.ps + (k : Int) := IntWalk.i64_in _ (by omega)
   clear hQ hQ3
   go_upto_region 15 with fail
   go_cut [109] from 168 (fun v wc => (∃ c9 : Bool, v = .bool c9 ∧ (c9 = true ↔ k < m)) ∧ wc = w6)
   case first =>
    by_cases hkm : k < m
    ·have HKM2 := Lib.hid hkm
     have i7 : (k : Int) < (m : Int) := by omega
     clear hkm
     go_wp2_with fail
     go_meet
     case rel => exact ⟨⟨true, rfl, fun _ => HKM2.out, fun _ => rfl⟩, rfl⟩
    ·have HKM2 := Lib.hid hkm
     have i7 : ¬ (k : Int) < (m : Int) := by omega
     clear hkm
     go_wp2_with fail
     go_meet
     case rel => exact ⟨⟨false, rfl, fun e => absurd e Bool.false_ne_true, fun e => absurd e HKM2.out⟩, rfl⟩
   case rest =>
    obtain ⟨⟨c9, rfl, hc9⟩, hwc9⟩ := hcut
    have hwc8 := hwc9.symm
    clear hwc9
    subst hwc8
    have HC9 := Lib.hid hc9
    clear hc9
    go_upto_if 109 with fail
    go_cut [20] from 168 (fun v wc => v = .int .i64 (H k : Int) ∧ wc = w6)
    case first =>
     clear HMM HK HC HX HLT HCT HSH HGU HXG HCW hT6 hU6 hV6 HH4
     cases c9
     case true =>
      have hkm := HC9.out.1 rfl
      obtain ⟨bK, oK, rfl, hbK, hcK⟩ := (HKS.out.below hw6) (by rw [ints_length, HKM.out]; omega)
      have hkk : k < ks.length := by rw [HKM.out]; exact hkm
      have hck := hcK k (by rw [ints_length]; exact hkk)
      have hiv : (ints ks)[k]'(by rw [ints_length]; exact hkk) = .int .i64 ks[k] := by simp [ints]
      rw [hiv] at hck
      obtain ⟨R, hR1, hR2⟩ := wrap_modS ks[k] 4 (by decide)
      have HHK := Lib.hid (show (R : Int) = (H k : Int) from by
       rw [HHD.out]
       dsimp only
       rw [if_pos hkm, List.getD_eq_getElem?_getD, List.getElem?_eq_getElem hkk]
       show (R : Int) = (((IntKind.u64.wrap ks[k]).tmod 4).toNat : Int)
       rw [hR2]
       omega)
      have i7 : (k : Int) < (m : Int) := by omega
      have u7 : IntKind.i64.wrap (R : Int) = (R : Int) := IntWalk.i64_in _ (by omega)
      clear hiv hcK
      go_wp2_with fail
      go_meet
      case rel => exact ⟨by rw [HHK.out], rfl⟩
     case false =>
      have hkm : ¬ k < m := fun e => absurd (HC9.out.2 e) Bool.false_ne_true
      have HHK := Lib.hid (show (0 : Int) = (H k : Int) from by
       rw [HHD.out]
       dsimp only
       rw [if_neg hkm]
       rfl)
      have i7 : ¬ (k : Int) < (m : Int) := by omega
      go_wp2_with fail
      go_meet
      case rel => exact ⟨by rw [← HHK.out], rfl⟩
    case rest =>
     obtain ⟨rfl, hwc⟩ := hcut
     have hwc2 := hwc.symm
     clear hwc
     subst hwc2
     obtain ⟨h, hh⟩ : ∃ h, h = H k := ⟨_, rfl⟩
     rw [← hh]
     have HHH := Lib.hid hh
     have h4 : h < 4 := by rw [hh]; exact HH4.out k
     clear hh
     obtain ⟨ra, ha1, ha2, ha3, hbya⟩ := hU6.c Q hQn
     obtain ⟨rb, hb1', hb2', hb3', hbyb⟩ := hV6.c Q hQn
     obtain ⟨xa, -, -, -, x0, x1⟩ := hT6.atF hQn
     obtain ⟨ya, -, -, -, y0, y1⟩ := hT6.swap.atF hQn
     have k0 := hT6.fz (Q * 2)
     have k1 := hT6.fz (Q * 2 + 1)
     have k2 := hT6.swap.fz (Q * 2)
     have k3 := hT6.swap.fz (Q * 2 + 1)
     have HAB := Lib.hid (And.intro ha1 hb1')
     clear ha1 hb1' HSH HCT HLT HC HX hxi t0 t3 c0 c1 c2 c3 c4 c5 c6 g0 g1 g2 g4
     have h5 : h = 0 ∨ h = 1 ∨ h = 2 ∨ h = 3 := by omega
     rcases h5 with rfl | rfl | rfl | rfl
     ·cases cw
      case false =>
       have hXn := HXG.out.1.trans (cutF_no (P := fun k => decide (H k % 2 = 1)) (k := k) (fun e => absurd (of_decide_eq_true e) (by rw [← HHH.out]; decide))).symm
       have hYn := HXG.out.2.trans (cutF_no (P := fun k => decide (H k / 2 = 1)) (k := k) (fun e => absurd (of_decide_eq_true e) (by rw [← HHH.out]; decide))).symm
       have HXN := Lib.hid (And.intro hXn hYn)
       clear hXn hYn HXG HGU
       go_wp2_with fail
       go_roundw
       case rel => exact ⟨k + 1, false, X, Y, by omega, by go_num, rfl, ⟨fun e => absurd e (by decide), fun g => absurd (g k (by omega)) (by rw [← HHH.out]; decide)⟩, HXN.out.1, HXN.out.2, hT6, hU6, hV6, hbr⟩
       case measure => simp [RowKit.intOf]; omega
      case true =>
       have hXn := HXG.out.1.trans (cutF_no (P := fun k => decide (H k % 2 = 1)) (k := k) (fun e => absurd (of_decide_eq_true e) (by rw [← HHH.out]; decide))).symm
       have hYn := HXG.out.2.trans (cutF_no (P := fun k => decide (H k / 2 = 1)) (k := k) (fun e => absurd (of_decide_eq_true e) (by rw [← HHH.out]; decide))).symm
       have HXN := Lib.hid (And.intro hXn hYn)
       clear hXn hYn HXG HGU
       go_wp2_with fail
       go_roundw
       case rel => exact ⟨k + 1, false, X, Y, by omega, by go_num, rfl, ⟨fun e => absurd e (by decide), fun g => absurd (g k (by omega)) (by rw [← HHH.out]; decide)⟩, HXN.out.1, HXN.out.2, hT6, hU6, hV6, hbr⟩
       case measure => simp [RowKit.intOf]; omega
     ·cases cw
      case false =>
       have hTa := hT6.put (j := Q) hQn (r := ra) (m := ra.l.length) rfl hbya
       have hUa := (hU6.set (.inl rfl) (o := Q * 2) (.int .i64 ra.e)).set (.inl rfl) (o := Q * 2 + 1) (.slice ra.A ra.l.length ra.c)
       have hVa := (hV6.set (.inl rfl) (o := Q * 2) (.int .i64 ra.e)).set (.inl rfl) (o := Q * 2 + 1) (.slice ra.A ra.l.length ra.c)
       have hba := (hbr.setCell (p := ⟨p, Q * 2, none⟩) hTp.1 (.int .i64 ra.e)).setCell (p := ⟨p, Q * 2 + 1, none⟩) hTp.1 (.slice ra.A ra.l.length ra.c)
       have hbyb2 := (hbyb.set (.inl rfl) (o := Q * 2) (.int .i64 ra.e)).set (.inl rfl) (o := Q * 2 + 1) (.slice ra.A ra.l.length ra.c)
       have hXn := cutF_yes (P := fun k => decide (H k % 2 = 1)) (k := k) (r := ra) HXG.out.1 (decide_eq_true (by rw [← HHH.out])) HGU.out.1 (by show U[((r.ps + (k : Int)) % l).toNat]? = some ra; rw [HQ3.out]; exact HAB.out.1)
       rw [show ((r.ps + (k : Int)) % l).toNat = Q from HQ3.out] at hXn
       have hYn := HXG.out.2.trans (cutF_no (P := fun k => decide (H k / 2 = 1)) (k := k) (fun e => absurd (of_decide_eq_true e) (by rw [← HHH.out]; decide))).symm
       have HXN := Lib.hid (And.intro hXn hYn)
       clear hXn hYn HXG HGU
       go_wp2_with fail
       go_roundw
       case rel => exact ⟨k + 1, false, X.set Q ra, Y, by omega, by go_num, rfl, ⟨fun e => absurd e (by decide), fun g => absurd (HCW.out.2 fun j hj => g j (by omega)) (by decide)⟩, HXN.out.1, HXN.out.2, hTa, hUa, hVa, hba⟩
       case measure => simp [RowKit.intOf]; omega
      case true =>
       have hTa := hT6.put (j := Q) hQn (r := ra) (m := ra.l.length) rfl hbya
       have hUa := (hU6.set (.inl rfl) (o := Q * 2) (.int .i64 ra.e)).set (.inl rfl) (o := Q * 2 + 1) (.slice ra.A ra.l.length ra.c)
       have hVa := (hV6.set (.inl rfl) (o := Q * 2) (.int .i64 ra.e)).set (.inl rfl) (o := Q * 2 + 1) (.slice ra.A ra.l.length ra.c)
       have hba := (hbr.setCell (p := ⟨p, Q * 2, none⟩) hTp.1 (.int .i64 ra.e)).setCell (p := ⟨p, Q * 2 + 1, none⟩) hTp.1 (.slice ra.A ra.l.length ra.c)
       have hbyb2 := (hbyb.set (.inl rfl) (o := Q * 2) (.int .i64 ra.e)).set (.inl rfl) (o := Q * 2 + 1) (.slice ra.A ra.l.length ra.c)
       have hXn := cutF_yes (P := fun k => decide (H k % 2 = 1)) (k := k) (r := ra) HXG.out.1 (decide_eq_true (by rw [← HHH.out])) HGU.out.1 (by show U[((r.ps + (k : Int)) % l).toNat]? = some ra; rw [HQ3.out]; exact HAB.out.1)
       rw [show ((r.ps + (k : Int)) % l).toNat = Q from HQ3.out] at hXn
       have hYn := HXG.out.2.trans (cutF_no (P := fun k => decide (H k / 2 = 1)) (k := k) (fun e => absurd (of_decide_eq_true e) (by rw [← HHH.out]; decide))).symm
       have HXN := Lib.hid (And.intro hXn hYn)
       clear hXn hYn HXG HGU
       go_wp2_with fail
       go_roundw
       case rel => exact ⟨k + 1, true, X.set Q ra, Y, by omega, by go_num, rfl, ⟨fun _ j hj => (by rcases Nat.lt_or_ge j k with q | q; exact HCW.out.1 rfl j q; obtain rfl : j = k := (by omega); rw [← HHH.out]; decide), fun _ => rfl⟩, HXN.out.1, HXN.out.2, hTa, hUa, hVa, hba⟩
       case measure => simp [RowKit.intOf]; omega
     ·cases cw
      case false =>
       have hTb := (hT6.swap.put (j := Q) hQn (r := rb) (m := rb.l.length) rfl hbyb.sw).swap
       have hUb := (hU6.set (.inr rfl) (o := Q * 2) (.int .i64 rb.e)).set (.inr rfl) (o := Q * 2 + 1) (.slice rb.A rb.l.length rb.c)
       have hVb := (hV6.set (.inr rfl) (o := Q * 2) (.int .i64 rb.e)).set (.inr rfl) (o := Q * 2 + 1) (.slice rb.A rb.l.length rb.c)
       have hbb := (hbr.setCell (p := ⟨q, Q * 2, none⟩) hTq.1 (.int .i64 rb.e)).setCell (p := ⟨q, Q * 2 + 1, none⟩) hTq.1 (.slice rb.A rb.l.length rb.c)
       have hXn := HXG.out.1.trans (cutF_no (P := fun k => decide (H k % 2 = 1)) (k := k) (fun e => absurd (of_decide_eq_true e) (by rw [← HHH.out]; decide))).symm
       have hYn := cutF_yes (P := fun k => decide (H k / 2 = 1)) (k := k) (r := rb) HXG.out.2 (decide_eq_true (by rw [← HHH.out])) HGU.out.2 (by show V[((r.ps + (k : Int)) % l).toNat]? = some rb; rw [HQ3.out]; exact HAB.out.2)
       rw [show ((r.ps + (k : Int)) % l).toNat = Q from HQ3.out] at hYn
       have HXN := Lib.hid (And.intro hXn hYn)
       clear hXn hYn HXG HGU
       go_wp2_with fail
       go_roundw
       case rel => exact ⟨k + 1, false, X, Y.set Q rb, by omega, by go_num, rfl, ⟨fun e => absurd e (by decide), fun g => absurd (HCW.out.2 fun j hj => g j (by omega)) (by decide)⟩, HXN.out.1, HXN.out.2, hTb, hUb, hVb, hbb⟩
       case measure => simp [RowKit.intOf]; omega
      case true =>
       have hTb := (hT6.swap.put (j := Q) hQn (r := rb) (m := rb.l.length) rfl hbyb.sw).swap
       have hUb := (hU6.set (.inr rfl) (o := Q * 2) (.int .i64 rb.e)).set (.inr rfl) (o := Q * 2 + 1) (.slice rb.A rb.l.length rb.c)
       have hVb := (hV6.set (.inr rfl) (o := Q * 2) (.int .i64 rb.e)).set (.inr rfl) (o := Q * 2 + 1) (.slice rb.A rb.l.length rb.c)
       have hbb := (hbr.setCell (p := ⟨q, Q * 2, none⟩) hTq.1 (.int .i64 rb.e)).setCell (p := ⟨q, Q * 2 + 1, none⟩) hTq.1 (.slice rb.A rb.l.length rb.c)
       have hXn := HXG.out.1.trans (cutF_no (P := fun k => decide (H k % 2 = 1)) (k := k) (fun e => absurd (of_decide_eq_true e) (by rw [← HHH.out]; decide))).symm
       have hYn := cutF_yes (P := fun k => decide (H k / 2 = 1)) (k := k) (r := rb) HXG.out.2 (decide_eq_true (by rw [← HHH.out])) HGU.out.2 (by show V[((r.ps + (k : Int)) % l).toNat]? = some rb; rw [HQ3.out]; exact HAB.out.2)
       rw [show ((r.ps + (k : Int)) % l).toNat = Q from HQ3.out] at hYn
       have HXN := Lib.hid (And.intro hXn hYn)
       clear hXn hYn HXG HGU
       go_wp2_with fail
       go_roundw
       case rel => exact ⟨k + 1, true, X, Y.set Q rb, by omega, by go_num, rfl, ⟨fun _ j hj => (by rcases Nat.lt_or_ge j k with q | q; exact HCW.out.1 rfl j q; obtain rfl : j = k := (by omega); rw [← HHH.out]; decide), fun _ => rfl⟩, HXN.out.1, HXN.out.2, hTb, hUb, hVb, hbb⟩
       case measure => simp [RowKit.intOf]; omega
     ·cases cw
      case false =>
       have hTa := hT6.put (j := Q) hQn (r := ra) (m := ra.l.length) rfl hbya
       have hUa := (hU6.set (.inl rfl) (o := Q * 2) (.int .i64 ra.e)).set (.inl rfl) (o := Q * 2 + 1) (.slice ra.A ra.l.length ra.c)
       have hVa := (hV6.set (.inl rfl) (o := Q * 2) (.int .i64 ra.e)).set (.inl rfl) (o := Q * 2 + 1) (.slice ra.A ra.l.length ra.c)
       have hba := (hbr.setCell (p := ⟨p, Q * 2, none⟩) hTp.1 (.int .i64 ra.e)).setCell (p := ⟨p, Q * 2 + 1, none⟩) hTp.1 (.slice ra.A ra.l.length ra.c)
       have hbyb2 := (hbyb.set (.inl rfl) (o := Q * 2) (.int .i64 ra.e)).set (.inl rfl) (o := Q * 2 + 1) (.slice ra.A ra.l.length ra.c)
       have hTb := (hTa.swap.put (j := Q) hQn (r := rb) (m := rb.l.length) rfl hbyb2.sw).swap
       have hUb := (hUa.set (.inr rfl) (o := Q * 2) (.int .i64 rb.e)).set (.inr rfl) (o := Q * 2 + 1) (.slice rb.A rb.l.length rb.c)
       have hVb := (hVa.set (.inr rfl) (o := Q * 2) (.int .i64 rb.e)).set (.inr rfl) (o := Q * 2 + 1) (.slice rb.A rb.l.length rb.c)
       have hbb := (hba.setCell (p := ⟨q, Q * 2, none⟩) hTq.1 (.int .i64 rb.e)).setCell (p := ⟨q, Q * 2 + 1, none⟩) hTq.1 (.slice rb.A rb.l.length rb.c)
       have hXn := cutF_yes (P := fun k => decide (H k % 2 = 1)) (k := k) (r := ra) HXG.out.1 (decide_eq_true (by rw [← HHH.out])) HGU.out.1 (by show U[((r.ps + (k : Int)) % l).toNat]? = some ra; rw [HQ3.out]; exact HAB.out.1)
       rw [show ((r.ps + (k : Int)) % l).toNat = Q from HQ3.out] at hXn
       have hYn := cutF_yes (P := fun k => decide (H k / 2 = 1)) (k := k) (r := rb) HXG.out.2 (decide_eq_true (by rw [← HHH.out])) HGU.out.2 (by show V[((r.ps + (k : Int)) % l).toNat]? = some rb; rw [HQ3.out]; exact HAB.out.2)
       rw [show ((r.ps + (k : Int)) % l).toNat = Q from HQ3.out] at hYn
       have HXN := Lib.hid (And.intro hXn hYn)
       clear hXn hYn HXG HGU
       go_wp2_with fail
       go_roundw
       case rel => exact ⟨k + 1, false, X.set Q ra, Y.set Q rb, by omega, by go_num, rfl, ⟨fun e => absurd e (by decide), fun g => absurd (HCW.out.2 fun j hj => g j (by omega)) (by decide)⟩, HXN.out.1, HXN.out.2, hTb, hUb, hVb, hbb⟩
       case measure => simp [RowKit.intOf]; omega
      case true =>
       have hTa := hT6.put (j := Q) hQn (r := ra) (m := ra.l.length) rfl hbya
       have hUa := (hU6.set (.inl rfl) (o := Q * 2) (.int .i64 ra.e)).set (.inl rfl) (o := Q * 2 + 1) (.slice ra.A ra.l.length ra.c)
       have hVa := (hV6.set (.inl rfl) (o := Q * 2) (.int .i64 ra.e)).set (.inl rfl) (o := Q * 2 + 1) (.slice ra.A ra.l.length ra.c)
       have hba := (hbr.setCell (p := ⟨p, Q * 2, none⟩) hTp.1 (.int .i64 ra.e)).setCell (p := ⟨p, Q * 2 + 1, none⟩) hTp.1 (.slice ra.A ra.l.length ra.c)
       have hbyb2 := (hbyb.set (.inl rfl) (o := Q * 2) (.int .i64 ra.e)).set (.inl rfl) (o := Q * 2 + 1) (.slice ra.A ra.l.length ra.c)
       have hTb := (hTa.swap.put (j := Q) hQn (r := rb) (m := rb.l.length) rfl hbyb2.sw).swap
       have hUb := (hUa.set (.inr rfl) (o := Q * 2) (.int .i64 rb.e)).set (.inr rfl) (o := Q * 2 + 1) (.slice rb.A rb.l.length rb.c)
       have hVb := (hVa.set (.inr rfl) (o := Q * 2) (.int .i64 rb.e)).set (.inr rfl) (o := Q * 2 + 1) (.slice rb.A rb.l.length rb.c)
       have hbb := (hba.setCell (p := ⟨q, Q * 2, none⟩) hTq.1 (.int .i64 rb.e)).setCell (p := ⟨q, Q * 2 + 1, none⟩) hTq.1 (.slice rb.A rb.l.length rb.c)
       have hXn := cutF_yes (P := fun k => decide (H k % 2 = 1)) (k := k) (r := ra) HXG.out.1 (decide_eq_true (by rw [← HHH.out])) HGU.out.1 (by show U[((r.ps + (k : Int)) % l).toNat]? = some ra; rw [HQ3.out]; exact HAB.out.1)
       rw [show ((r.ps + (k : Int)) % l).toNat = Q from HQ3.out] at hXn
       have hYn := cutF_yes (P := fun k => decide (H k / 2 = 1)) (k := k) (r := rb) HXG.out.2 (decide_eq_true (by rw [← HHH.out])) HGU.out.2 (by show V[((r.ps + (k : Int)) % l).toNat]? = some rb; rw [HQ3.out]; exact HAB.out.2)
       rw [show ((r.ps + (k : Int)) % l).toNat = Q from HQ3.out] at hYn
       have HXN := Lib.hid (And.intro hXn hYn)
       clear hXn hYn HXG HGU
       go_wp2_with fail
       go_roundw
       case rel => exact ⟨k + 1, true, X.set Q ra, Y.set Q rb, by omega, by go_num, rfl, ⟨fun _ j hj => (by rcases Nat.lt_or_ge j k with q | q; exact HCW.out.1 rfl j q; obtain rfl : j = k := (by omega); rw [← HHH.out]; decide), fun _ => rfl⟩, HXN.out.1, HXN.out.2, hTb, hUb, hVb, hbb⟩
       case measure => simp [RowKit.intOf]; omega
  ·obtain rfl : k = NN := by omega
   have i9 : ¬ ((k : Int) < (k : Int)) := by omega
   obtain ⟨ws, hws⟩ := HCT.out cw HCW.out
   rw [show r.d.ps = r.ps from rfl, ← HXG.out.1, ← HXG.out.2] at hws
   have hsh := HSH.out X Y _ _ _ k HXG.out.1 HXG.out.2
   obtain ⟨R, hR⟩ : ∃ R, R = (if cw = true then tds ts else (tds ts).take mm) := ⟨_, rfl⟩
   rw [← hR] at hws
   have HS1 := Lib.hid (show Calls Tryz.prog 13 #[.agg #[.int .i64 z, .int .i64 d, .int .i64 s, .int .i64 l, .int .i64 a], .agg #[.int .i64 x.gen, .int .i64 x.ep, .int .i64 x.pos, .int .i64 x.seq, .int .i64 x.last, .string x.lab, .slice x.HA x.hs.length x.hc], .slice (some ⟨p, 0, none⟩) l.toNat pc, .slice (some ⟨q, 0, none⟩) l.toNat qc] w6 fun e w' => ScanA w6.heap.size (R, ws, 0) e w' ∧ Below w6.heap.size w6 w' from by
    have h9 := HC.out.scan z d s l a x ⟨some ⟨p, 0, none⟩, pc, X⟩ ⟨some ⟨q, 0, none⟩, qc, Y⟩ _ _ w6 hw6 HO.out (HX.out.next hw6) HLAB.out HGD.out hT6.slF hT6.lF hsh.1 hT6.slS hT6.lS hsh.2 (by omega) (by omega)
    rw [← hws]
    exact h9)
   have HR := Lib.hid hR
   clear hR hws hsh HCT HSH HXG
   have hsm : ∀ T : XV, tds T.ts = R → TSmall T.ts := fun T hT r9 hr => by
    have hmem : r9.d ∈ tds ts := by
     have h1 : r9.d ∈ tds T.ts := List.mem_map.2 ⟨r9, hr, rfl⟩
     rw [hT, HR.out] at h1
     cases cw
     ·exact List.mem_of_mem_take h1
     ·exact h1
    obtain ⟨q1, q2, q3, q4, -, -⟩ := LogOk.nm30 hll.2 _ _ _ _ (Int.le_refl 0) HLT.out _ hmem
    have hl1 : r9.rs.length = r9.d.ims.length := (img.ids_length r9.rs).symm
    refine ⟨by omega, fun q hq => ?_⟩
    have h9 := lrc.imOk_len (q4 q.d (List.mem_map.2 ⟨q, hq, rfl⟩)) HO.out.2.1
    have h9 : q.l.length ≤ 45 ∧ 8 ≤ q.l.length := h9
    omega
   have HSM := Lib.hid hsm
   clear hsm hT6 hU6 hV6
   cases cw
   case false =>
    have hR2 : R = tds (ts.take mm) := by rw [HR.out, if_neg Bool.false_ne_true]; unfold rng.tds; rw [List.map_take]
    have HR2 := Lib.hid hR2
    have hlr : (ts.take mm).length = mm := by rw [List.length_take]; have := HM.out; omega
    have HTX := Lib.hid (show ∀ (T : XV) (W : World), Below w6.heap.size w6 W → T.In W W.heap.size → tds T.ts = R → T.ts.length = mm ∧ Calls Tryz.prog 19 #[.slice T.A mm T.c, .slice (some ⟨bA, oA, none⟩) mm c] W fun e w' => e = .returned (.bool true) ∧ Below W.heap.size W w' from fun T W hW hTi hT => by
     have hTl : T.ts.length = mm := by have := congrArg List.length (hT.trans HR2.out); rw [tds_length, tds_length, hlr] at this; exact this
     have hxW := (hxi.more (Nat.le_trans (Nat.le_refl _) hbr.size)).next hW
     exact ⟨hTl, txns_same T.A (some ⟨bA, oA, none⟩) T.c c mm mm T.ts (ts.take mm) W hTl hlr hTi.h (slv_pre (v := tvs (ts.drop mm)) (by rw [← rng.tvs_append, List.take_append_drop]; exact hxW.h)) hTi.i (fun r hr => hxW.i r (List.mem_of_mem_take hr)) (by omega) (HSM.out T hT) (hT.trans HR2.out)⟩)
    clear hR2 hlr hxi
    go_upto_region 26 with (go_at_call 13; (with_reducible refine HS1.out.mono ?_); rintro e w7 ⟨⟨T, U2, rfl, hT1, hU1, hTi, -, -, -⟩, hb7⟩; obtain ⟨hTl, hTX⟩ := HTX.out T w7 hb7 hTi hT1)
    try rw [hTl]
    have HTY := Lib.hid hTX
    clear hTX hTl hT1 hU1 hTi
    have hw7 := bt hw6 hb7
    go_wp2_with (first
     | (go_at_call 19; (with_reducible refine HTY.out.mono ?_); rintro e w8 ⟨rfl, hb8⟩)
     | (go_at_call 17; (with_reducible refine (HK.out _ (bt hw7 hb8)).mono ?_); rintro e w9 ⟨rfl, hb9⟩)
     | fail)
    go_ret
    exact ⟨rfl, bt (bt hw7 hb8) hb9⟩
   case true =>
    have hR2 : R = tds ts := by rw [HR.out, if_pos rfl]
    have HR2 := Lib.hid hR2
    have HTX := Lib.hid (show ∀ (T : XV) (W : World), Below w6.heap.size w6 W → T.In W W.heap.size → tds T.ts = R → T.ts.length = mm + 1 ∧ Calls Tryz.prog 19 #[.slice T.A (mm + 1) T.c, .slice (some ⟨bA, oA, none⟩) (mm + 1) c] W fun e w' => e = .returned (.bool true) ∧ Below W.heap.size W w' from fun T W hW hTi hT => by
     have hTl : T.ts.length = mm + 1 := by have := congrArg List.length (hT.trans HR2.out); rw [tds_length, tds_length, ← HM.out] at this; exact this
     have hxW := (hxi.more (Nat.le_trans (Nat.le_refl _) hbr.size)).next hW
     exact ⟨hTl, txns_same T.A (some ⟨bA, oA, none⟩) T.c c (mm + 1) (mm + 1) T.ts ts W hTl HM.out.symm hTi.h hxW.h hTi.i hxW.i (by omega) (HSM.out T hT) (hT.trans HR2.out)⟩)
    clear hR2 hxi
    go_upto_region 26 with (go_at_call 13; (with_reducible refine HS1.out.mono ?_); rintro e w7 ⟨⟨T, U2, rfl, hT1, hU1, hTi, -, -, -⟩, hb7⟩; obtain ⟨hTl, hTX⟩ := HTX.out T w7 hb7 hTi hT1)
    try rw [hTl]
    have HTY := Lib.hid hTX
    clear hTX hTl hT1 hU1 hTi
    have hw7 := bt hw6 hb7
    go_wp2_with (first
     | (go_at_call 19; (with_reducible refine HTY.out.mono ?_); rintro e w8 ⟨rfl, hb8⟩)
     | (go_at_call 17; (with_reducible refine (HK.out _ (bt hw7 hb8)).mono ?_); rintro e w9 ⟨rfl, hb9⟩)
     | fail)
    go_ret
    exact ⟨rfl, bt (bt hw7 hb8) hb9⟩
theorem scancut_law (z d s l a : Int) (x : AV) (yA : Option Addr) (yc n : Nat) (fl : Int) (kA : Option Addr) (kc m : Nat) (ks : List Int) (ys : List Int) (w : World) (hc : Csc w) (hk : ∀ W, Below w.heap.size w W → Calls Tryz.prog 17 #[] W fun e w' => e = .returned (.bool true) ∧ Below W.heap.size W w') (hx : x.In w w.heap.size) (hA : SlV w w.heap.size yA (ints ys)) (hyn : ys.length = n) (hks : SlV w w.heap.size kA (ints ks)) (hkm : ks.length = m) (hfl : 0 ≤ fl ∧ fl ≤ 255) :
  Calls Tryz.prog 5 #[.agg #[.int .i64 z, .int .i64 d, .int .i64 s, .int .i64 l, .int .i64 a], .agg #[.int .i64 x.gen, .int .i64 x.ep, .int .i64 x.pos, .int .i64 x.seq, .int .i64 x.last, .string x.lab, .slice x.HA x.hs.length x.hc], .slice yA n yc, .int .u8 fl, .slice kA m kc] w fun e w' => e = .returned (.bool true) ∧ Below w.heap.size w w' := by
 by_cases hh : HeavyA x.d
 ·exact sccut_heavy z d s l a x yA yc n fl kA kc m w hx hh
 by_cases hn : (40 : Int) < (n : Int)
 ·exact sccut_long z d s l a x yA yc n fl kA kc m w hx hh hn
 by_cases ho : Ok z d s l a
 case neg => exact sccut_geo z d s l a x yA yc n fl kA kc m w hx hh hn ho
 by_cases hg : anc.Good z d s l x.d
 case neg => exact sccut_bad z d s l a x yA yc n fl kA kc m w hx hh hn ho hg
 by_cases hq : 1000000 < x.seq
 ·exact sccut_late z d s l a x yA yc n fl kA kc m w hx hh hn ho hg hq
 exact sccut_main z d s l a x yA yc n fl kA kc m ks ys w hc hk hx hA hyn hks hkm hfl hh hn ho hg hq
end Go.Proofs.YtbfdpibjicjagaaGreatDoor.scn
