/-
  ScanRight walked. Conditions: 'Csc', the laws' example.
-/
import Derived.Test.YtbfdpibjicjagaaGreatDoorGSb
import Derived.Test.YtbfdpibjicjagaaGreatDoorGSa
import Derived.Test.YtbfdpibjicjagaaGreatDoorGNw
import Derived.Test.YtbfdpibjicjagaaGreatDoorGAu
import Derived.Test.YtbfdpibjicjagaaGreatDoorGGm
import Derived.Test.YtbfdpibjicjagaaGreatDoorGRg
import Derived.BigQuiet
set_option maxHeartbeats 8000000
set_option maxRecDepth 100000
namespace Go.Proofs.YtbfdpibjicjagaaGreatDoor.scn
open Go.RowKit Go.Lib
open Go.Proofs.YtbfdpibjicjagaaGreatDoor.gmt (Ok rgeo_at)
open Go.Proofs.YtbfdpibjicjagaaGreatDoor.anc (AV AC ac_new bl kal kst ks bm ka HeavyA light heavy_any right_p)
open Go.Proofs.YtbfdpibjicjagaaGreatDoor.tbl (G5 g5_new)
open Go.Proofs.YtbfdpibjicjagaaGreatDoor.rng (XV TxR Txd tds tvs TIn LogOk txn_at tds_length offN)
open Go.Proofs.YtbfdpibjicjagaaGreatDoor.nwt (GV GotR gds gvs gds_length HeavyG heavyG_any lightG)
theorem scan_told (z d s l a : Int) (x : AV) (F S : GV) (n m : Nat) (w : World) (hc : Csc w) (hx : x.In w w.heap.size) (hlab : x.lab.size ≤ 4294967295) (hhs : x.hs.length ≤ 1048576) (hF : F.In w w.heap.size) (hFn : F.rs.length = n) (hS : S.In w w.heap.size) (hSm : S.rs.length = m) (hn1 : n ≤ 1048576) (hm1 : m ≤ 1048576) (hFs : nwt.GShort 1048576 F.rs) (hSs : nwt.GShort 1048576 S.rs) :
  ∃ (ls : List Txd) (ws : List (Int × List UInt8)) (e : Int), (∀ W, Below w.heap.size w W → Calls Tryz.prog 13 #[.agg #[.int .i64 z, .int .i64 d, .int .i64 s, .int .i64 l, .int .i64 a], .agg #[.int .i64 x.gen, .int .i64 x.ep, .int .i64 x.pos, .int .i64 x.seq, .int .i64 x.last, .string x.lab, .slice x.HA x.hs.length x.hc], .slice F.A n F.c, .slice S.A m S.c] W fun e' w' => ScanA W.heap.size (ls, ws, e) e' w' ∧ Below W.heap.size W w') ∧
   (e = 0 ∧ Ok z d s l a ∧ anc.Good z d s l x.d ∧ (n : Int) = l ∧ (m : Int) = l ∧ LogOk z d l x.pos x.seq 0 ls ∧ x.last ≤ x.seq + ls.length - 1 ∧ scanN z d l a x.ep x.last x.pos x.seq (gds F.rs) (gds S.rs) = (ls, ws, 0) ∨ e ≠ 0 ∧ ls = [] ∧ ws = []) := by
 by_cases hg : Ok z d s l a ∧ anc.Good z d s l x.d
 ·by_cases hl : (n : Int) = l ∧ (m : Int) = l
  ·have hsc := fun W (hW : Below w.heap.size w W) => hc.scan z d s l a x F S n m W hW hg.1 (hx.next hW) hlab hg.2 (hF.next hW) hFn hFs (hS.next hW) hSm hSs hl.1 hl.2
   rcases scan_right (z := z) (d := d) (l := l) (a := a) (ep := x.ep) (last := x.last) (pos := x.pos) (sq := x.seq) (gds F.rs) (gds S.rs) with ⟨t, ws, e, h1, h2⟩ | e
   ·rw [e] at hsc
    exact ⟨t, ws, 0, hsc, .inl ⟨rfl, hg.1, hg.2, hl.1, hl.2, h1, h2, e⟩⟩
   ·rw [e] at hsc
    exact ⟨[], [], 12, hsc, .inr ⟨by decide, rfl, rfl⟩⟩
  ·exact ⟨[], [], 2, fun W hW => hc.scan_no 2 z d s l a x F S n m W hW (hx.next hW) hlab hhs (hF.next hW) hFn (hS.next hW) hSm hn1 hm1 (.inr ⟨hg, hl, rfl⟩), .inr ⟨by decide, rfl, rfl⟩⟩
 ·exact ⟨[], [], 1, fun W hW => hc.scan_no 1 z d s l a x F S n m W hW (hx.next hW) hlab hhs (hF.next hW) hFn (hS.next hW) hSm hn1 hm1 (.inl ⟨hg, rfl⟩), .inr ⟨by decide, rfl, rfl⟩⟩
theorem bool_isT (P : Prop) : ∃ b : Bool, b = true ↔ P := by
 by_cases h : P
 ·exact ⟨true, iff_of_true rfl h⟩
 ·exact ⟨false, iff_of_false Bool.false_ne_true h⟩
theorem log_lenR {z d l : Int} (hl : l ≤ 30) {ts : List Txd} {pos sq : Int} (h : LogOk z d l pos sq 0 ts) (h0 : 0 ≤ l) : ts.length ≤ 15 := by
 have h1 := offN_le h h0
 have h2 : ∀ (ts : List Txd) (p s u : Int), LogOk z d l p s u ts → 2 * (ts.length : Int) ≤ rng.offN ts ts.length := by
  intro ts
  induction ts with
  | nil => intro p s u _; exact Int.le_refl 0
  | cons y t ih =>
   intro p s u h
   have := ih _ _ _ h.2.2
   have e5 := h.1.2.2.2.2.1
   have eo : rng.offN (y :: t) (y :: t).length = y.nm + rng.offN t t.length := by simp [rng.offN]
   rw [eo, List.length_cons]
   omega
 have := h2 ts _ _ _ h
 omega
theorem offN_nextR : ∀ (ts : List Txd) (k : Nat) (h : k < ts.length), offN ts (k + 1) = offN ts k + ts[k].nm := by
 intro ts
 induction ts with
 | nil => intro k h; exact absurd h (by simp)
 | cons x t ih =>
  intro k h
  cases k with
  | zero => cases t <;> simp [offN]
  | succ k =>
   have := ih k (by simpa using h)
   show x.nm + offN t (k + 1) = x.nm + offN t k + _
   rw [this]
   simp only [List.getElem_cons_succ]
   omega
theorem scanright_law (z d s l a : Int) (x : AV) (F S : GV) (n m : Nat) (w : World) (hc : Csc w) (hk : ∀ W, Below w.heap.size w W → Calls Tryz.prog 17 #[] W fun e w' => e = .returned (.bool true) ∧ Below W.heap.size W w') (hx : x.In w w.heap.size) (hF : F.In w w.heap.size) (hFn : F.rs.length = n) (hS : S.In w w.heap.size) (hSm : S.rs.length = m) :
  Calls Tryz.prog 8 #[.agg #[.int .i64 z, .int .i64 d, .int .i64 s, .int .i64 l, .int .i64 a], .agg #[.int .i64 x.gen, .int .i64 x.ep, .int .i64 x.pos, .int .i64 x.seq, .int .i64 x.last, .string x.lab, .slice x.HA x.hs.length x.hc], .slice F.A n F.c, .slice S.A m S.c] w fun e w' => e = .returned (.bool true) ∧ Below w.heap.size w w' := by
 have s1 : (w.alloc (.cells #[.int .i64 z, .int .i64 d, .int .i64 s, .int .i64 l, .int .i64 a] 23)).heap.size = w.heap.size + 1 := by simp
 have GG := (g5_new w z d s l a).keep (bl (w.alloc (.cells #[.int .i64 z, .int .i64 d, .int .i64 s, .int .i64 l, .int .i64 a] 23)) (.cells #[.int .i64 x.gen, .int .i64 x.ep, .int .i64 x.pos, .int .i64 x.seq, .int .i64 x.last, .string x.lab, .slice x.HA x.hs.length x.hc] 26)) (by simp)
 have FF := ac_new (w.alloc (.cells #[.int .i64 z, .int .i64 d, .int .i64 s, .int .i64 l, .int .i64 a] 23)) x
 rw [s1] at FF
 have hb0 := kal (bl w (.cells #[.int .i64 z, .int .i64 d, .int .i64 s, .int .i64 l, .int .i64 a] 23)) (.cells #[.int .i64 x.gen, .int .i64 x.ep, .int .i64 x.pos, .int .i64 x.seq, .int .i64 x.last, .string x.lab, .slice x.HA x.hs.length x.hc] 26)
 have l1 : w.heap.size + 1 < ((w.alloc (.cells #[.int .i64 z, .int .i64 d, .int .i64 s, .int .i64 l, .int .i64 a] 23)).alloc (.cells #[.int .i64 x.gen, .int .i64 x.ep, .int .i64 x.pos, .int .i64 x.seq, .int .i64 x.last, .string x.lab, .slice x.HA x.hs.length x.hc] 26)).heap.size := by simp
 obtain ⟨hA, kA⟩ := bool_isT (HeavyA x.d)
 obtain ⟨hF9, kF⟩ := bool_isT (HeavyG (gds F.rs))
 obtain ⟨hS9, kS⟩ := bool_isT (HeavyG (gds S.rs))
 have HCA := Lib.hid (fun W (hW : Below w.heap.size w W) => heavy_any hA x W (hx.next hW) kA)
 have HCF := Lib.hid (fun W (hW : Below w.heap.size w W) => heavyG_any hF9 F.A n F.c F.rs W hFn (hF.next hW).h (hF.next hW).i kF)
 have HCS := Lib.hid (fun W (hW : Below w.heap.size w W) => heavyG_any hS9 S.A m S.c S.rs W hSm (hS.next hW).h (hS.next hW).i kS)
 have HKH := Lib.hid (And.intro kA (And.intro kF kS))
 have HX := Lib.hid hx
 have HF0 := Lib.hid hF
 have HS0 := Lib.hid hS
 have HC := Lib.hid hc
 have HK := Lib.hid hk
 clear s1 kA kF kS hx hF hS hc hk
 go_enter Tryz.func8, Tryz.ntmps8
 go_upto_region 1 with fail
 generalize (w.alloc (.cells #[.int .i64 z, .int .i64 d, .int .i64 s, .int .i64 l, .int .i64 a] 23)).alloc (.cells #[.int .i64 x.gen, .int .i64 x.ep, .int .i64 x.pos, .int .i64 x.seq, .int .i64 x.last, .string x.lab, .slice x.HA x.hs.length x.hc] 26) = w0 at *
 obtain ⟨c0, c1, c2, c3, c4, c5, c6⟩ := id FF
 unfold AV.v at HCA
 go_cut [24] from 127 (fun v wc => (∃ c : Bool, v = .bool c ∧ (c = true ↔ HeavyA x.d ∨ HeavyG (gds F.rs) ∨ HeavyG (gds S.rs))) ∧ Below w0.heap.size w0 wc)
 case first =>
  cases hA
  case true =>
   have K1 := Lib.hid (HKH.out.1.1 rfl)
   clear HKH
   go_wp2_with (go_at_call 10; (with_reducible refine (HCA.out _ hb0).mono ?_); rintro e wq ⟨rfl, hbq⟩)
   go_meet
   case rel => exact ⟨⟨true, rfl, fun _ => .inl K1.out, fun _ => rfl⟩, hbq⟩
  case false =>
   have N1 := Lib.hid (show ¬ HeavyA x.d from fun h => absurd (HKH.out.1.2 h) Bool.false_ne_true)
   cases hF9
   case true =>
    have K1 := Lib.hid (HKH.out.2.1.1 rfl)
    clear HKH
    go_wp2_with (first
     | (go_at_call 10; (with_reducible refine (HCA.out _ hb0).mono ?_); rintro e wq ⟨rfl, hbq⟩)
     | (go_at_call 11; (with_reducible refine (HCF.out wq (bt hb0 hbq)).mono ?_); rintro e wr ⟨rfl, rfl⟩)
     | fail)
    go_meet
    case rel => exact ⟨⟨true, rfl, fun _ => .inr (.inl K1.out), fun _ => rfl⟩, hbq⟩
   case false =>
    have N2 := Lib.hid (show ¬ HeavyG (gds F.rs) from fun h => absurd (HKH.out.2.1.2 h) Bool.false_ne_true)
    have K1 := Lib.hid HKH.out.2.2
    clear HKH
    go_wp2_with (first
     | (go_at_call 10; (with_reducible refine (HCA.out _ hb0).mono ?_); rintro e wq ⟨rfl, hbq⟩)
     | (go_at_call 11; (with_reducible refine (HCF.out wq (bt hb0 hbq)).mono ?_); rintro e wr ⟨rfl, rfl⟩)
     | (go_at_call 11; (with_reducible refine (HCS.out wq (bt hb0 hbq)).mono ?_); rintro e wr ⟨rfl, rfl⟩)
     | fail)
    go_meet
    case rel => exact ⟨⟨hS9, rfl, fun h => .inr (.inr (K1.out.1 h)), fun h => h.elim (fun q => absurd q N1.out) fun q => q.elim (fun q => absurd q N2.out) K1.out.2⟩, hbq⟩
 case rest =>
  obtain ⟨⟨c, rfl, hc⟩, hb1⟩ := hcut
  obtain ⟨w1, rfl⟩ : ∃ y, y = wc := ⟨wc, rfl⟩
  have G1 := GG.keep hb1 (by omega)
  have F1 := FF.keep hb1 l1
  have hw1 := bt hb0 hb1
  have l2 := Nat.lt_of_lt_of_le l1 hb1.size
  clear c0 c1 c2 c3 c4 c5 c6 GG FF hb0 hb1 l1 HCA HCF HCS HKH
  cases c
  case true =>
   go_wp2_with fail
   go_ret
   exact ⟨rfl, hw1⟩
  case false =>
   have hnh : ¬ HeavyA x.d ∧ ¬ HeavyG (gds F.rs) ∧ ¬ HeavyG (gds S.rs) := ⟨fun h => absurd (hc.2 (.inl h)) Bool.false_ne_true, fun h => absurd (hc.2 (.inr (.inl h))) Bool.false_ne_true, fun h => absurd (hc.2 (.inr (.inr h))) Bool.false_ne_true⟩
   obtain ⟨t1, t2, t3⟩ := light hnh.1
   obtain ⟨p1, p2⟩ := lightG hnh.2.1
   obtain ⟨q1, q2⟩ := lightG hnh.2.2
   have hsF : nwt.GShort 1048576 F.rs := fun r hr => by have := p2 r hr; omega
   have hsS : nwt.GShort 1048576 S.rs := fun r hr => by have := q2 r hr; omega
   obtain ⟨ls, ws, e, hsc, htold⟩ := scan_told z d s l a x F S n m w1 (HC.out.more hw1) (HX.out.next hw1) (by omega) (by omega) (HF0.out.next hw1) hFn (HS0.out.next hw1) hSm (by omega) (by omega) hsF hsS
   have HSC := Lib.hid (hsc w1 (Below.refl _ _))
   clear hsc hnh hc t1 t2 t3 p1 p2 q1 q2 hsF hsS HX HF0 HS0 HC
   obtain ⟨c0, c1, c2, c3, c4, c5, c6⟩ := id F1
   obtain ⟨g0, g1, g2, g3, g4⟩ := id G1
   go_upto_region 4 with (go_at_call 13; (with_reducible refine HSC.out.mono ?_); rintro e' w2 ⟨⟨T, U, rfl, hT, hU, hTi, hUi, -, -⟩, hb2⟩)
   have hw2 := bt hw1 hb2
   have F2 := F1.keep hb2 l2
   have G2 := G1.keep hb2 (by omega)
   have l3 := Nat.lt_of_lt_of_le l2 hb2.size
   clear c0 c1 c2 c3 c4 c5 c6 g0 g1 g2 g3 g4 F1 G1 hU hUi HSC hb2 hw1
   rcases htold with ⟨rfl, ho, hg, -, -, hlog, hlast, -⟩ | ⟨he, rfl, -⟩
   case inr =>
    have hTl : T.ts.length = 0 := by have := congrArg List.length hT; rw [tds_length] at this; exact this
    have e1 : (e != 0) = true := bne_iff_ne.2 he
    rw [hTl]
    clear hT hTi he
    go_wp2_with (go_at_call 17; (with_reducible refine (HK.out _ hw2).mono ?_); rintro e9 w9 ⟨rfl, hb9⟩)
    go_ret
    exact ⟨rfl, bt hw2 hb9⟩
   case inl =>
    have hll : 14 ≤ l ∧ l ≤ 30 := ho.2.2.2.1
    have hpos : 0 ≤ x.pos ∧ x.pos ≤ l - 1 := hg.2.2.2.2.2.1
    have hsq : 1 ≤ x.seq ∧ x.seq ≤ 4294967295 := hg.2.2.1
    have hla : 0 ≤ x.last ∧ x.last ≤ 4294967295 := hg.2.2.2.1
    obtain ⟨M, hM⟩ : ∃ M, M = T.ts.length := ⟨_, rfl⟩
    rw [← hM]
    have hTl : (tds T.ts).length = M := by rw [tds_length, hM]
    rw [← hT] at hlog hlast
    rw [hTl] at hlast
    have hend := offN_le hlog (by omega)
    rw [hTl] at hend
    have hoff0 := rng.offN_nonneg hlog
    have hpl := fun (k : Nat) (hk : k < (tds T.ts).length) => LogOk.place (pos := x.pos) (tds T.ts) x.pos x.seq 0 k hk (by rw [Int.add_zero, Int.emod_eq_of_lt hpos.1 (by omega)]) hlog
    have hmem : ∀ (k : Nat) (hk : k < (tds T.ts).length), (tds T.ts)[k].sq = x.seq + k ∧ (tds T.ts)[k].nm = ((tds T.ts)[k].ims.length : Int) + 1 ∧ 2 ≤ (tds T.ts)[k].nm ∧ (tds T.ts)[k].nm ≤ 30 := fun k hk => by
     obtain ⟨q1, q2, q3, -⟩ := LogOk.nm30 hll.2 _ _ _ _ (Int.le_refl 0) hlog _ (List.getElem_mem hk)
     exact ⟨LogOk.sq_at _ _ _ _ _ hk hlog, q2, by omega, q1⟩
    have HP := Lib.hid (show ∀ k, k < M → ∃ r : TxR, T.ts[k]? = some r ∧ r.sq = x.seq + k ∧ r.ps = (x.pos + offN (tds T.ts) k) % l ∧ r.nm = (r.rs.length : Int) + 1 ∧ 1 ≤ r.rs.length ∧ r.nm ≤ 30 ∧ offN (tds T.ts) (k + 1) = offN (tds T.ts) k + r.nm from fun k hk => by
     have hk2 : k < (tds T.ts).length := by omega
     have hk3 : k < T.ts.length := by omega
     obtain ⟨q1, q2, q3, q4⟩ := hmem k hk2
     obtain ⟨e1, -, -⟩ := hpl k hk2
     have hd : (tds T.ts)[k] = T.ts[k].d := by simp [tds]
     rw [hd] at q1 q2 q3 q4 e1
     have hil : T.ts[k].d.ims.length = T.ts[k].rs.length := img.ids_length _
     refine ⟨T.ts[k], List.getElem?_eq_getElem hk3, q1, by rw [Int.add_zero] at e1; exact e1, by rw [← hil]; exact q2, ?_, q4, by rw [offN_nextR _ _ hk2, hd]; rfl⟩
     have q3 : 2 ≤ T.ts[k].nm := q3
     have q2 : T.ts[k].nm = (T.ts[k].d.ims.length : Int) + 1 := q2
     omega)
    have HM0 := Lib.hid (show ∀ k, 0 ≤ offN (tds T.ts) k from hoff0)
    have HEND := Lib.hid hend
    have HMM := Lib.hid hM
    have HM30 := Lib.hid (show M ≤ 15 from by have h9 := log_lenR hll.2 hlog (by omega); omega)
    have HO0 := Lib.hid (show offN (tds T.ts) 0 = 0 from by cases tds T.ts <;> rfl)
    clear hmem hpl hoff0 hlog hT hTl hM ho hg
    obtain ⟨c0, c1, c2, c3, c4, c5, c6⟩ := id F2
    obtain ⟨g0, g1, g2, g3, g4⟩ := id G2
    generalize hO : offN (tds T.ts) = O at *
    clear hO
    have hl0 : ¬ l = 0 := by omega
    have hl1 : (l == 0) = false := beq_eq_false_iff_ne.2 hl0
    go_upto_region 8 with fail
    go_loopw [12, 13, 14] (fun p u i w' => ∃ k : Nat, k ≤ M ∧ i = .int .i64 (k : Int) ∧ p = .int .i64 ((x.pos + O k) % l) ∧ u = .int .i64 (O k) ∧ O k ≤ 30 * k ∧ Below w2.heap.size w2 w') (fun _ _ i _ => M - (RowKit.intOf i).toNat)
    case atStart => exact ⟨0, by omega, rfl, by rw [show O 0 = 0 from HO0.out, Int.add_zero, Int.emod_eq_of_lt hpos.1 (by omega)], by rw [show O 0 = 0 from HO0.out], by rw [show O 0 = 0 from HO0.out]; exact Int.le_refl 0, Below.refl _ _⟩
    case round =>
     obtain ⟨w5, rfl⟩ : ∃ y, y = wr := ⟨wr, rfl⟩
     obtain ⟨k, hk, rfl, rfl, rfl, hO30, hbr⟩ := hrel
     have G5' := G2.keep hbr (by omega)
     have F5' := F2.keep hbr l3
     clear c0 c1 c2 c3 c4 c5 c6 g0 g1 g2 g3 g4
     obtain ⟨c0, c1, c2, c3, c4, c5, c6⟩ := id F5'
     obtain ⟨g0, g1, g2, g3, g4⟩ := id G5'
     have hw5 := bt hw2 hbr
     by_cases hlt : k < M
     ·obtain ⟨r, hr, q1, q2, q3, q4, q5, q6⟩ := HP.out k hlt
      obtain ⟨b1, off, r', hTA, hb1, p0, p1, p2, p3, -, -, hr', -⟩ := txn_at (hTi.below hbr).h (hTi.below hbr).i (k := k) (show k < T.ts.length by have := HMM.out; omega)
      obtain rfl : r' = r := Option.some.inj (hr'.symm.trans hr)
      obtain ⟨P, hP⟩ : ∃ P, P = (x.pos + O k) % l := ⟨_, rfl⟩
      have hP1 : 0 ≤ P ∧ P < l := by rw [hP]; exact ⟨Int.emod_nonneg _ hl0, Int.emod_lt_of_pos _ (by omega)⟩
      obtain ⟨Lr, hLr⟩ : ∃ N, N = r'.rs.length := ⟨_, rfl⟩
      rw [q1] at p0
      rw [q2, ← hP] at p1
      rw [q3, ← hLr] at p2
      rw [← hLr] at p3
      have hok0 := HM0.out k
      have hL30 : (Lr : Int) + 1 ≤ 30 ∧ 1 ≤ Lr := by omega
      have hkM : (k : Int) < (M : Int) := by omega
      have hM30 : (M : Int) ≤ 30 := by have := HM30.out; omega
      have u1 : IntKind.i64.wrap (x.seq + (k : Int)) = x.seq + (k : Int) := IntWalk.i64_in _ (by omega)
      have u2 : IntKind.i64.wrap ((Lr : Int) + 1) = (Lr : Int) + 1 := IntWalk.i64_in _ (by omega)
      have u3 : IntKind.i64.wrap (P + ((Lr : Int) + 1)) = P + ((Lr : Int) + 1) := IntWalk.i64_in _ (by omega)
      have u4 : IntKind.i64.wrap (O k + ((Lr : Int) + 1)) = O k + ((Lr : Int) + 1) := IntWalk.i64_in _ (by omega)
      have hOn : O (k + 1) = O k + ((Lr : Int) + 1) := by rw [q6, q3, hLr]
      have hmod : (P + ((Lr : Int) + 1)).tmod l = (x.pos + O (k + 1)) % l := by
       rw [Int.tmod_eq_emod_of_nonneg (by omega), hP, hOn, Int.emod_add_emod]
       congr 1
       omega
      have h2 : ¬ ((Lr : Int) + 1 < 2) := by omega
      rw [← hP, hTA]
      have HS5 := Lib.hid (And.intro hmod hOn)
      obtain ⟨P2, hP2⟩ : ∃ P2, P2 = (x.pos + O (k + 1)) % l := ⟨_, rfl⟩
      rw [← hP2] at hmod
      have HP2 := Lib.hid hP2
      have hP3 : 0 ≤ P2 ∧ P2 < l := by rw [hP2]; exact ⟨Int.emod_nonneg _ hl0, Int.emod_lt_of_pos _ (by omega)⟩
      clear hr hr' q1 q2 q3 q4 q5 q6 hLr hOn hP2
      go_upto_region 10 with fail
      go_quiet (fail)
      go_upto_region 12 with fail
      go_quiet (fail)
      have h30 : O (k + 1) ≤ 30 * ((k + 1 : Nat) : Int) := by have := HS5.out.2; omega
      have HH := Lib.hid h30
      clear h30 hmod
      go_wp2_with fail
      refine ⟨⟨k + 1, by omega, by go_num, ?_, ?_, HH.out, below_dn hbr _⟩, ?_⟩
      ·first
       | rw [Int.emod_add_emod, HS5.out.2, Int.add_assoc]
       | rw [HP2.out]
      ·rw [HS5.out.2]
      ·simp [RowKit.intOf]; omega
     ·obtain rfl : k = M := by omega
      have hM30 : (k : Int) ≤ 30 := by have := HM30.out; omega
      have hfit : O k ≤ l := by have := HEND.out; omega
      have hkk : ¬ ((k : Int) < (k : Int)) := by omega
      have hge : x.seq + (k : Int) - 1 ≥ x.last := hlast
      have u1 : IntKind.i64.wrap (x.seq + (k : Int)) = x.seq + (k : Int) := IntWalk.i64_in _ (by omega)
      have u2 : IntKind.i64.wrap (x.seq + (k : Int) - 1) = x.seq + (k : Int) - 1 := IntWalk.i64_in _ (by omega)
      go_wp2_with (go_at_call 17; (with_reducible refine (HK.out _ hw5).mono ?_); rintro e9 w9 ⟨rfl, hb9⟩)
      go_ret
      exact ⟨rfl, bt hw5 hb9⟩
theorem scanright_said (z d s l a : Int) (x : AV) (FA : Option Addr) (Fc : Nat) (Fr : List GotR) (SA : Option Addr) (Sc : Nat) (Sr : List GotR) (w : World) (hc : Csc w) (hk : ∀ W, Below w.heap.size w W → Calls Tryz.prog 17 #[] W fun e w' => e = .returned (.bool true) ∧ Below W.heap.size W w') (hx : x.In w w.heap.size) (h1 : Fr.length ≤ Fc) (h2 : Fc ≤ maxLen) (h3 : SlV w w.heap.size FA (gvs Fr)) (h4 : nwt.GIn w w.heap.size Fr) (k1 : Sr.length ≤ Sc) (k2 : Sc ≤ maxLen) (k3 : SlV w w.heap.size SA (gvs Sr)) (k4 : nwt.GIn w w.heap.size Sr) :
  Calls Tryz.prog 8 #[.agg #[.int .i64 z, .int .i64 d, .int .i64 s, .int .i64 l, .int .i64 a], .agg #[.int .i64 x.gen, .int .i64 x.ep, .int .i64 x.pos, .int .i64 x.seq, .int .i64 x.last, .string x.lab, .slice x.HA x.hs.length x.hc], .slice FA Fr.length Fc, .slice SA Sr.length Sc] w fun e w' => e = .returned (.bool true) ∧ Below w.heap.size w w' :=
 scanright_law z d s l a x ⟨FA, Fc, Fr⟩ ⟨SA, Sc, Sr⟩ _ _ w hc hk hx ⟨h3, h4, h1, h2⟩ rfl ⟨k3, k4, k1, k2⟩ rfl
end Go.Proofs.YtbfdpibjicjagaaGreatDoor.scn
