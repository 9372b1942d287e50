/-
  The document's own cell of a record (RecCell): bytes of one's own. Conditions: a right record.
  The document's Who: whose a slot is. Conditions: transactions within the log.
  Both copies of a log as they were written (the law's Written). Conditions: a right log.
  Writes of one's own (they lie as readings do: a number, a slice of bytes), rows of them appended to others. Conditions: each theorem's own.
  casematekeep.Txns: two rows of transactions that are the same are. Conditions: rows shorter than 2^20.
  Two rows of readings of one's own, that are written over reading by reading. Conditions: each theorem's own.
  What the laws of package scan ask of its function. Conditions: none (a list of conditions, 'Csc').
-/
import Derived.Test.YtbfdpibjicjagaaGreatDoorGRu
import Derived.Test.YtbfdpibjicjagaaGreatDoorGRg
import Derived.Test.YtbfdpibjicjagaaGreatDoorGRc
import Derived.Deep.RegionHeld3
import Derived.IntWalk
import Derived.Test.YtbfdpibjicjagaaGreatDoorGSa
import Derived.Test.YtbfdpibjicjagaaGreatDoorGNw
import Derived.Test.YtbfdpibjicjagaaGreatDoorGRi
import Derived.Test.YtbfdpibjicjagaaGreatDoorGPp
import Derived.Test.YtbfdpibjicjagaaGreatDoorGImg
import Derived.Test.YtbfdpibjicjagaaGreatDoorGAw
import Derived.Test.YtbfdpibjicjagaaGreatDoorGAm
import Derived.Test.YtbfdpibjicjagaaGreatDoorAnF
set_option maxHeartbeats 8000000
set_option maxRecDepth 100000
namespace Go.Proofs.YtbfdpibjicjagaaGreatDoor.scn
open Go.RowKit Go.Lib
open Go.Proofs.YtbfdpibjicjagaaGreatDoor.crc (Turned TurnedAll turn xor_u8 sum ref_sum sum_lt)
open Go.Proofs.YtbfdpibjicjagaaGreatDoor.pck (num le le_length ref_put ref_part)
open Go.Proofs.YtbfdpibjicjagaaGreatDoor.sel (Lies enc body Three three_new put_form rpart_form bl kst kal)
theorem put_own (k m n q : Nat) (A : Option Addr) (c : Nat) (l : List UInt8) (w : World) (hk : k ≤ 8) (hm : m < 4294967296) (hln : l.length = n) (hq : n + k = q) (hl : n ≤ 1048576) (hA : Sl w w.heap.size A l) :
  Calls Tryz.prog 58 #[.slice A n c, .int .i64 m, .int .i64 k] w fun e w' => (∃ X x, e = .returned (.slice X q x) ∧ Own w' w.heap.size 5 (.slice X q x) (l ++ le k m)) ∧ Below w.heap.size w w' := by
 refine (ref_put k m n A c l w hk hm hln hl hA).mono ?_
 rintro e w' ⟨⟨v, rfl, ho⟩, hb⟩
 obtain ⟨X, x, hv, -, -, -, -⟩ := id ho.form
 have : (l ++ le k m).length = q := by rw [List.length_append, le_length]; omega
 rw [this] at hv
 subst hv
 exact ⟨⟨X, x, rfl, ho⟩, hb⟩
theorem seal_own' (a s n c q : Nat) (A : Option Addr) (l L1 L2 L3 : List UInt8) (w : World) (e1 : le 1 n ++ l = L1) (e2 : L1 ++ le 2 a = L2) (e3 : L2 ++ le 4 s = L3) (e4 : sum L3 = q) (ha : a < 65536) (hs : s < 4294967296) (hln : l.length = n) (hn : n ≤ 96) (hA : Sl w w.heap.size A l) :
  Calls Tryz.prog 72 #[.agg #[.int .i64 a, .int .i64 s, .slice A n c]] w fun e w' => (∃ X x, e = .returned (.slice X (n + 11) x) ∧ Own w' w.heap.size 5 (.slice X (n + 11) x) (L3 ++ le 4 q)) ∧ Below w.heap.size w w' := by
 have f1 : L1.length = n + 1 := by rw [← e1, List.length_append, le_length]; omega
 have f2 : L2.length = n + 3 := by rw [← e2, List.length_append, le_length]; omega
 have f3 : L3.length = n + 7 := by rw [← e3, List.length_append, le_length]; omega
 have hq : q < 4294967296 := by rw [← e4]; exact sum_lt L3
 have cP := fun (W : World) (hb : Below w.heap.size w W) => rpart_form n A c l W hln (by omega) ((hA.below hb).more hb.size)
 have cA : ∀ (W : World) (X : Option Addr) (x : Nat), Lies W X x L1 → Calls Tryz.prog 58 #[.slice X (n + 1) x, .int .i64 a, .int .i64 2] W fun e w' => (∃ X x, e = .returned (.slice X (n + 3) x) ∧ Lies w' X x L2) ∧ Below W.heap.size W w' := fun W X x h => by
  have := put_form 2 a (n + 1) (n + 3) X x L1 W (by omega) (by omega) f1 rfl (by omega) h.2.2
  rwa [e2] at this
 have cB : ∀ (W : World) (X : Option Addr) (x : Nat), Lies W X x L2 → Calls Tryz.prog 58 #[.slice X (n + 3) x, .int .i64 s, .int .i64 4] W fun e w' => (∃ X x, e = .returned (.slice X (n + 7) x) ∧ Lies w' X x L3) ∧ Below W.heap.size W w' := fun W X x h => by
  have := put_form 4 s (n + 3) (n + 7) X x L2 W (by omega) hs f2 rfl (by omega) h.2.2
  rwa [e3] at this
 have cC : ∀ (W : World) (X : Option Addr) (x : Nat), Lies W X x L3 → Calls Tryz.prog 58 #[.slice X (n + 7) x, .int .i64 q, .int .i64 4] W fun e w' => (∃ X x, e = .returned (.slice X (n + 11) x) ∧ Own w' W.heap.size 5 (.slice X (n + 11) x) (L3 ++ le 4 q)) ∧ Below W.heap.size W w' := fun W X x h => put_own 4 q (n + 7) (n + 11) X x L3 W (by omega) hq f3 rfl (by omega) h.2.2
 have cS : ∀ (W : World) (X : Option Addr) (x : Nat), Lies W X x L3 → Calls Tryz.prog 74 #[.slice X (n + 7) x] W fun e w' => e = .returned (.int .i64 q) ∧ W = w' := fun W X x h => by
  have := ref_sum X x _ L3 W h.2.2 (by rw [f3]; unfold maxLen; omega)
  rwa [f3, e4] at this
 rw [e1] at cP
 have HP := Lib.hid cP
 have HA := Lib.hid cA
 have HB := Lib.hid cB
 have HC := Lib.hid cC
 have HS := Lib.hid cS
 have hb0 := bl w (.cells #[.int .i64 a, .int .i64 s, .slice A n c] 124)
 obtain ⟨g0, g1, g2, -, -, -⟩ := three_new w (.int .i64 a) (.int .i64 s) (.slice A n c) 124
 have hl : w.heap.size < (w.alloc (.cells #[.int .i64 a, .int .i64 s, .slice A n c] 124)).heap.size := by simp
 clear cP cA cB cC cS e1 e2 e3 e4 f1 f2 f3 hA hln ha hs hq
 go_enter Tryz.func72, Tryz.ntmps72
 go_wp2
 generalize w.alloc (.cells #[.int .i64 a, .int .i64 s, .slice A n c] 124) = w0 at *
 go_region_held3 (fun W => W.cell? ⟨w.heap.size, 0, none⟩ = some (.int .i64 a) ∧ W.cell? ⟨w.heap.size, 1, none⟩ = some (.int .i64 s) ∧ W.cell? ⟨w.heap.size, 2, none⟩ = some (.slice A n c) ∧ Below w0.heap.size w0 W)
  ((go_split_ands; refine ⟨?_, ?_, ?_, ?_⟩ <;> (first
   | assumption | exact below_dr (Below.refl _ _) | exact bt (by assumption) (by assumption)
   | exact kst (below_dr (Below.refl _ _)) hl (by assumption) | exact kst (bt (by assumption) (by assumption)) hl (by assumption) | exact kst (by assumption) hl (by assumption) | fail)))
  (first
   | (go_at_call 73; (with_reducible refine (HP.out _ (bt hb0 (below_dr (Below.refl _ _)))).mono ?_); rintro e w1 ⟨⟨X1, x1, rfl, h1⟩, hb1⟩)
   | (go_at_call 58; (with_reducible refine (HA.out _ _ _ h1).mono ?_); rintro e w2 ⟨⟨X2, x2, rfl, h2⟩, hb2⟩)
   | (go_at_call 58; (with_reducible refine (HB.out _ _ _ h2).mono ?_); rintro e w3 ⟨⟨X3, x3, rfl, h3⟩, hb3⟩)
   | fail)
 go_split_ands
 have hb3' : Below w0.heap.size w0 w3 := by assumption
 go_wp2_with (first
  | (go_at_call 74; (with_reducible refine (HS.out _ _ _ h3).mono ?_); rintro e w4 ⟨rfl, rfl⟩)
  | (go_at_call 58; (with_reducible refine (HC.out _ _ _ h3).mono ?_); rintro e w5 ⟨⟨X5, x5, rfl, h5⟩, hb5⟩))
 go_ret
 exact ⟨⟨X5, x5, rfl, h5.less (bt hb0 hb3').size⟩, bt (bt hb0 hb3') hb5⟩
theorem seal_own (a s n c : Nat) (A : Option Addr) (l : List UInt8) (w : World) (ha : a < 65536) (hs : s < 4294967296) (hln : l.length = n) (hn : n ≤ 96) (hA : Sl w w.heap.size A l) :
  Calls Tryz.prog 72 #[.agg #[.int .i64 a, .int .i64 s, .slice A n c]] w fun e w' => (∃ X x, e = .returned (.slice X (n + 11) x) ∧ Own w' w.heap.size 5 (.slice X (n + 11) x) (enc a s l)) ∧ Below w.heap.size w w' := by
 have h := seal_own' a s n c _ A l _ _ _ w rfl rfl rfl rfl ha hs hln hn hA
 have e : enc a s l = le 1 n ++ l ++ le 2 a ++ le 4 s ++ le 4 (sum (le 1 n ++ l ++ le 2 a ++ le 4 s)) := by
  rw [← hln]
  unfold enc body
  simp only [List.append_assoc]
 rwa [← e] at h
end Go.Proofs.YtbfdpibjicjagaaGreatDoor.scn
namespace Go.Proofs.YtbfdpibjicjagaaGreatDoor.scn
open Go.RowKit Go.Lib
open Go.Proofs.YtbfdpibjicjagaaGreatDoor.gmt (Ok)
open Go.Proofs.YtbfdpibjicjagaaGreatDoor.anc (bl kal kst ks bm ka)
open Go.Proofs.YtbfdpibjicjagaaGreatDoor.tbl (C1 c1_new G5 g5_new)
open Go.Proofs.YtbfdpibjicjagaaGreatDoor.img
open Go.Proofs.YtbfdpibjicjagaaGreatDoor.pck (le le_length)
open Go.Proofs.YtbfdpibjicjagaaGreatDoor.sel (enc)
open Go.Proofs.YtbfdpibjicjagaaGreatDoor.lrc
def BytO (base q : Nat) (l : List UInt8) (e : Ending) (w' : World) : Prop := ∃ (X : Option Addr) (x : Nat), e = .returned (.slice X q x) ∧ Own w' base 5 (.slice X q x) l
theorem rcell_own (a s n c : Nat) (A : Option Addr) (l : List UInt8) (w : World) (ha : a < 65536) (hs : s < 4294967296) (hln : l.length = n) (hn : n ≤ 96) (hA : Sl w w.heap.size A l) :
  Calls Tryz.prog 55 #[.int .i64 a, .int .i64 s, .slice A n c] w fun e w' => BytO w.heap.size (n + 11) (enc a s l) e w' ∧ Below w.heap.size w w' := by
 have HS := Lib.hid (seal_own a s n c A l w ha hs hln hn hA)
 clear hA hln
 go_enter Tryz.func55, Tryz.ntmps55
 go_wp2_with (go_at_call 72; (with_reducible refine HS.out.mono ?_); rintro e w1 ⟨⟨X, x, rfl, hx⟩, hb1⟩)
 go_ret
 exact ⟨⟨X, x, rfl, hx⟩, hb1⟩
theorem rrec_own (z d s l a cp sl : Int) (r : RcR) (n q : Nat) (w : World) (ho : Ok z d s l a) (hx : BIn w w.heap.size r.i) (hn : r.i.l.length = n) (hr : RecOk z d r.d) (hs : SlotOk l cp sl) (hq : (encR r.d).length = q) :
  Calls Tryz.prog 38 #[.agg #[.int .i64 z, .int .i64 d, .int .i64 s, .int .i64 l, .int .i64 a], .agg #[.int .i64 r.kd, .int .i64 r.sq, .int .i64 r.ep, .int .i64 r.ps, .int .i64 r.nm, .int .i64 r.i.z, .int .i64 r.i.wh, .slice r.i.A n r.i.c], .int .i64 cp, .int .i64 sl] w fun e w' => BytO w.heap.size (q + 11) (enc (cellN l a cp sl) r.sq.toNat (encR r.d)) e w' ∧ Below w.heap.size w w' := by
 have s1 : (w.alloc (.cells #[.int .i64 z, .int .i64 d, .int .i64 s, .int .i64 l, .int .i64 a] 23)).heap.size = w.heap.size + 1 := by simp
 have XX := c8_new (w.alloc (.cells #[.int .i64 z, .int .i64 d, .int .i64 s, .int .i64 l, .int .i64 a] 23)) (.int .i64 r.kd) (.int .i64 r.sq) (.int .i64 r.ep) (.int .i64 r.ps) (.int .i64 r.nm) (.int .i64 r.i.z) (.int .i64 r.i.wh) (.slice r.i.A n r.i.c) 83
 rw [s1] at XX
 have hw := kal (bl w (.cells #[.int .i64 z, .int .i64 d, .int .i64 s, .int .i64 l, .int .i64 a] 23)) (.cells #[.int .i64 r.kd, .int .i64 r.sq, .int .i64 r.ep, .int .i64 r.ps, .int .i64 r.nm, .int .i64 r.i.z, .int .i64 r.i.wh, .slice r.i.A n r.i.c] 83)
 have l2 : ((w.alloc (.cells #[.int .i64 z, .int .i64 d, .int .i64 s, .int .i64 l, .int .i64 a] 23)).alloc (.cells #[.int .i64 r.kd, .int .i64 r.sq, .int .i64 r.ep, .int .i64 r.ps, .int .i64 r.nm, .int .i64 r.i.z, .int .i64 r.i.wh, .slice r.i.A n r.i.c] 83)).heap.size = w.heap.size + 2 := by simp
 have GG : G5 ((w.alloc (.cells #[.int .i64 z, .int .i64 d, .int .i64 s, .int .i64 l, .int .i64 a] 23)).alloc (.cells #[.int .i64 r.kd, .int .i64 r.sq, .int .i64 r.ep, .int .i64 r.ps, .int .i64 r.nm, .int .i64 r.i.z, .int .i64 r.i.wh, .slice r.i.A n r.i.c] 83)) w.heap.size z d s l a := (g5_new w z d s l a).keep (bl _ _) (by simp)
 have h59 := (encR_short hr ⟨ho.2.1.1, ho.2.1.2⟩).2
 have hN : (cellN l a cp sl : Int) = a + cp * l + sl ∧ cellN l a cp sl < 65536 := by
  obtain ⟨h1, h2, h3, h4, h5⟩ := ho
  obtain ⟨k1, k2⟩ := hs
  unfold cellN
  rcases k1 with rfl | rfl <;> omega
 have hsq : 0 ≤ r.sq ∧ r.sq < 4294967296 := by
  rcases hr with ⟨h0, h1, h2, h3, h4, h5, h6, h7⟩ | ⟨⟨g1, g2, g3⟩, h0, h1, h5, h6, h7⟩ | ⟨⟨g1, g2, g3⟩, h0, h1, h2⟩ <;> (simp only [RcR.d] at *; omega)
 have HLA := Lib.hid (show ∀ W, Calls Tryz.prog 25 #[.agg #[.int .i64 z, .int .i64 d, .int .i64 s, .int .i64 l, .int .i64 a], .int .i64 cp, .int .i64 sl] W fun e w' => e = .returned (.int .i64 (cellN l a cp sl)) ∧ Below W.heap.size W w' from fun W => by
  have h := gmt.rlog_at z d s l a cp sl W ho (by have := hs.1; omega) (by have := hs.2; omega)
  rwa [← hN.1] at h)
 have HBY := Lib.hid (show ∀ W, Below w.heap.size w W → Calls Tryz.prog 56 #[.agg #[.int .i64 r.kd, .int .i64 r.sq, .int .i64 r.ep, .int .i64 r.ps, .int .i64 r.nm, .int .i64 r.i.z, .int .i64 r.i.wh, .slice r.i.A n r.i.c]] W fun e w' => One W.heap.size (encR r.d) e w' ∧ Below W.heap.size W w' from fun W hW => rbytes_c z d s l a r n W ho (hx.next hW) hn hr)
 have HCE := Lib.hid (show ∀ (W : World) (A : Option Addr) (c : Nat), Sl W W.heap.size A (encR r.d) → Calls Tryz.prog 55 #[.int .i64 (cellN l a cp sl), .int .i64 r.sq, .slice A q c] W fun e w' => BytO W.heap.size (q + 11) (enc (cellN l a cp sl) r.sq.toNat (encR r.d)) e w' ∧ Below W.heap.size W w' from fun W A c h => by
  have h9 := rcell_own (cellN l a cp sl) r.sq.toNat q c A (encR r.d) W hN.2 (by omega) hq (by omega) h
  rwa [Int.toNat_of_nonneg hsq.1] at h9)
 have HQ := Lib.hid hq
 clear hx hn hr hs ho hN hsq h59 hq
 generalize cellN l a cp sl = N at *
 go_enter Tryz.func38, Tryz.ntmps38
 go_upto_region 1 with fail
 generalize (w.alloc (.cells #[.int .i64 z, .int .i64 d, .int .i64 s, .int .i64 l, .int .i64 a] 23)).alloc (.cells #[.int .i64 r.kd, .int .i64 r.sq, .int .i64 r.ep, .int .i64 r.ps, .int .i64 r.nm, .int .i64 r.i.z, .int .i64 r.i.wh, .slice r.i.A n r.i.c] 83) = w0 at *
 have HF := Lib.hid (show ∀ W, Below w0.heap.size w0 W → (W.cell? ⟨w.heap.size, 0, none⟩ = some (.int .i64 z) ∧ W.cell? ⟨w.heap.size, 1, none⟩ = some (.int .i64 d) ∧ W.cell? ⟨w.heap.size, 2, none⟩ = some (.int .i64 s) ∧ W.cell? ⟨w.heap.size, 3, none⟩ = some (.int .i64 l) ∧ W.cell? ⟨w.heap.size, 4, none⟩ = some (.int .i64 a) ∧ W.cell? ⟨(w.heap.size + 1), 0, none⟩ = some (.int .i64 r.kd) ∧ W.cell? ⟨(w.heap.size + 1), 1, none⟩ = some (.int .i64 r.sq) ∧ W.cell? ⟨(w.heap.size + 1), 2, none⟩ = some (.int .i64 r.ep) ∧ W.cell? ⟨(w.heap.size + 1), 3, none⟩ = some (.int .i64 r.ps) ∧ W.cell? ⟨(w.heap.size + 1), 4, none⟩ = some (.int .i64 r.nm) ∧ W.cell? ⟨(w.heap.size + 1), 5, none⟩ = some (.int .i64 r.i.z) ∧ W.cell? ⟨(w.heap.size + 1), 6, none⟩ = some (.int .i64 r.i.wh) ∧ W.cell? ⟨(w.heap.size + 1), 7, none⟩ = some (.slice r.i.A n r.i.c)) ∧ Below w0.heap.size w0 W from fun W h => by
  obtain ⟨g0, g1, g2, g3, g4⟩ := GG.keep h (by omega)
  obtain ⟨c0, c1, c2, c3, c4, c5, c6, c7⟩ := XX.keep h (by omega)
  exact ⟨⟨g0, g1, g2, g3, g4, c0, c1, c2, c3, c4, c5, c6, c7⟩, h⟩)
 clear GG XX
 go_region_held3 (fun W => (W.cell? ⟨w.heap.size, 0, none⟩ = some (.int .i64 z) ∧ W.cell? ⟨w.heap.size, 1, none⟩ = some (.int .i64 d) ∧ W.cell? ⟨w.heap.size, 2, none⟩ = some (.int .i64 s) ∧ W.cell? ⟨w.heap.size, 3, none⟩ = some (.int .i64 l) ∧ W.cell? ⟨w.heap.size, 4, none⟩ = some (.int .i64 a) ∧ W.cell? ⟨(w.heap.size + 1), 0, none⟩ = some (.int .i64 r.kd) ∧ W.cell? ⟨(w.heap.size + 1), 1, none⟩ = some (.int .i64 r.sq) ∧ W.cell? ⟨(w.heap.size + 1), 2, none⟩ = some (.int .i64 r.ep) ∧ W.cell? ⟨(w.heap.size + 1), 3, none⟩ = some (.int .i64 r.ps) ∧ W.cell? ⟨(w.heap.size + 1), 4, none⟩ = some (.int .i64 r.nm) ∧ W.cell? ⟨(w.heap.size + 1), 5, none⟩ = some (.int .i64 r.i.z) ∧ W.cell? ⟨(w.heap.size + 1), 6, none⟩ = some (.int .i64 r.i.wh) ∧ W.cell? ⟨(w.heap.size + 1), 7, none⟩ = some (.slice r.i.A n r.i.c)) ∧ Below w0.heap.size w0 W)
  ((refine HF.out _ ?_; first
   | with_reducible exact hb3
   | with_reducible exact hb2
   | with_reducible exact hb1
   | with_reducible exact below_dr (Below.refl _ _)
   | fail))
  (first
   | (go_at_call 25; (with_reducible refine (HLA.out _).mono ?_); rintro e w1 ⟨rfl, hbq⟩; have hb1 := bt (below_dr (Below.refl w0.heap.size w0)) hbq; clear hbq)
   | (go_at_call 56; (with_reducible refine (HBY.out _ (bt hw hb1)).mono ?_); rintro e w2 ⟨⟨v2, rfl, o2⟩, hbq⟩; obtain ⟨X2, x2, hv2, o2'⟩ := own_q5 o2 HQ.out; subst hv2; have hs2 := (own_bytes o2').2.2.2; have hb2 := bt hb1 hbq; clear hbq)
   | (go_at_call 55; (with_reducible refine (HCE.out _ _ _ hs2).mono ?_); rintro e w3 ⟨⟨X3, x3, rfl, hl3⟩, hbq⟩; have hb3 := bt hb2 hbq; clear hbq)
   | fail)
 go_wp2_with fail
 go_ret
 exact ⟨⟨X3, x3, rfl, hl3.less (bt hw hb2).size⟩, bt hw hb3⟩
end Go.Proofs.YtbfdpibjicjagaaGreatDoor.scn
namespace Go.Proofs.YtbfdpibjicjagaaGreatDoor.scn
open Go.RowKit Go.Lib
open Go.Proofs.YtbfdpibjicjagaaGreatDoor.gmt (Ok)
open Go.Proofs.YtbfdpibjicjagaaGreatDoor.anc (bl kal kst ks bm ka)
open Go.Proofs.YtbfdpibjicjagaaGreatDoor.tbl (G5 g5_new)
open Go.Proofs.YtbfdpibjicjagaaGreatDoor.rng (XV TxR Txd tds tvs TIn txn_at tds_length whoN whoE has)
theorem rwho_c (z d s l a sl : Int) (t : XV) (n : Nat) (w : World) (ho : Ok z d s l a) (h0 : 0 ≤ sl ∧ sl ≤ l - 1) (ht : t.In w w.heap.size) (hn : t.ts.length = n) (hn1 : n ≤ 1048576) (hin : ∀ x ∈ tds t.ts, (0 ≤ x.ps ∧ x.ps ≤ l - 1) ∧ (0 ≤ x.nm ∧ x.nm ≤ l)) :
  Calls Tryz.prog 26 #[.agg #[.int .i64 z, .int .i64 d, .int .i64 s, .int .i64 l, .int .i64 a], .slice t.A n t.c, .int .i64 sl] w fun e w' => e = .returned (whoE l sl (tds t.ts)) ∧ Below w.heap.size w w' := by
 have GG := g5_new w z d s l a
 have hb0 := bl w (.cells #[.int .i64 z, .int .i64 d, .int .i64 s, .int .i64 l, .int .i64 a] 23)
 have lw0 : w.heap.size < (w.alloc (.cells #[.int .i64 z, .int .i64 d, .int .i64 s, .int .i64 l, .int .i64 a] 23)).heap.size := by simp
 have hll : 14 ≤ l ∧ l ≤ 30 := ho.2.2.2.1
 have T0 := ht.next hb0
 have v1 : IntKind.i64.wrap (l - 1) = l - 1 := IntWalk.i64_in _ (by omega)
 have HI0 := Lib.hid fun W => lrc.in15 true sl 0 (l - 1) W (iff_of_true rfl h0)
 have HIN := Lib.hid hin
 clear hin ht ho
 go_enter Tryz.func26, Tryz.ntmps26
 go_upto_region 1 with fail
 generalize w.alloc (.cells #[.int .i64 z, .int .i64 d, .int .i64 s, .int .i64 l, .int .i64 a] 23) = w0 at *
 obtain ⟨-, -, -, g3, -⟩ := id GG
 have z1 : ¬ l = 0 := by omega
 have z2 : (l == 0) = false := beq_eq_false_iff_ne.2 z1
 go_upto_region 4 with (go_at_call 44; (with_reducible refine (HI0.out _).mono ?_); rintro e wq ⟨rfl, rfl⟩)
 go_loopw [9] (fun i w' => ∃ k : Nat, k ≤ n ∧ i = .int .i64 k ∧ Hid (whoN l sl 0 (tds t.ts) = whoN l sl k ((tds t.ts).drop k)) ∧ Below w0.heap.size w0 w') (fun i _ => n - (RowKit.intOf i).toNat)
 case atStart => exact ⟨0, by omega, rfl, Lib.hid rfl, Below.refl _ _⟩
 case round =>
  obtain ⟨w5, rfl⟩ : ∃ x, x = wr := ⟨wr, rfl⟩
  obtain ⟨k, hk, rfl, HW, hbr⟩ := hrel
  have lw := hbr.size
  replace g3 := ks hbr lw0 g3
  by_cases hlt : k < n
  ·obtain ⟨b1, off, x, hA, hb1, p0, p1, p2, p3, -, -, -, e1⟩ := txn_at (T0.below hbr).h (T0.below hbr).i (show k < t.ts.length by omega)
   rw [hA]
   have i1 : (k : Int) < (n : Int) := by omega
   have hx := HIN.out x.d (List.mem_of_getElem? e1)
   have hx1 : (0 ≤ x.ps ∧ x.ps ≤ l - 1) ∧ (0 ≤ x.nm ∧ x.nm ≤ l) := hx
   have hdk : (tds t.ts).drop k = x.d :: (tds t.ts).drop (k + 1) := by
    rw [List.drop_eq_getElem_cons (by rw [tds_length]; omega)]
    congr 1
    have := List.getElem?_eq_getElem (l := tds t.ts) (i := k) (by rw [tds_length]; omega)
    rw [e1] at this
    exact (Option.some.inj this).symm
   have HI1 := Lib.hid fun W => lrc.in15 true x.ps 0 (l - 1) W (iff_of_true rfl hx1.1)
   have HI2 := Lib.hid fun W => lrc.in15 true x.nm 0 l W (iff_of_true rfl hx1.2)
   have hb1' : b1 < w5.heap.size := Nat.lt_of_lt_of_le hb1 lw
   have lw0' : w.heap.size < w5.heap.size := Nat.lt_of_lt_of_le lw0 lw
   have HF := Lib.hid (show ∀ W, Below w5.heap.size w5 W → (W.cell? ⟨w.heap.size, 3, none⟩ = some (.int .i64 l) ∧ W.cell? ⟨b1, off + k * 4 + 1, none⟩ = some (.int .i64 x.ps) ∧ W.cell? ⟨b1, off + k * 4 + 2, none⟩ = some (.int .i64 x.nm)) ∧ Below w5.heap.size w5 W from fun W h => ⟨⟨ks h lw0' g3, ks h hb1' p1, ks h hb1' p2⟩, h⟩)
   have hd0 := below_dr (Below.refl w5.heap.size w5)
   go_upto_region 6 with fail
   go_region_held3 (fun W => (W.cell? ⟨w.heap.size, 3, none⟩ = some (.int .i64 l) ∧ W.cell? ⟨b1, off + k * 4 + 1, none⟩ = some (.int .i64 x.ps) ∧ W.cell? ⟨b1, off + k * 4 + 2, none⟩ = some (.int .i64 x.nm)) ∧ Below w5.heap.size w5 W)
    ((refine HF.out _ ?_; first
     | with_reducible exact hd0
     | fail))
    (first
     | (go_at_call 44; (with_reducible refine (HI1.out _).mono ?_); rintro e wx ⟨rfl, rfl⟩)
     | (go_at_call 44; (with_reducible refine (HI2.out _).mono ?_); rintro e wx ⟨rfl, rfl⟩)
     | fail)
   have u1 : IntKind.i64.wrap (sl - x.ps) = sl - x.ps := IntWalk.i64_in _ (by omega)
   have u2 : IntKind.i64.wrap (sl - x.ps + l) = sl - x.ps + l := IntWalk.i64_in _ (by omega)
   have u3 : (sl - x.ps + l).tmod l = (sl - x.ps + l) % l := Int.tmod_eq_emod_of_nonneg (by omega)
   go_upto_region 7 with fail
   go_region
   go_upto_region 8 with fail
   have hqq : (sl - x.ps + l) % l = (sl - x.ps) % l := Int.add_emod_right _ _
   have hd1 := bt hd0 (below_dr (Below.refl _ _))
   by_cases hq : (sl - x.ps) % l < x.nm
   ·have q1 : decide ((sl - x.ps) % l < x.nm) = true := decide_eq_true hq
    have HE := Lib.hid (show whoE l sl (tds t.ts) = .tuple #[.int .i64 (k : Int), .int .i64 ((sl - x.ps) % l), .bool true] from by
     unfold whoE
     rw [HW.out, hdk, whoN, if_pos (show has l sl x.d from ⟨hx1.1, hx1.2, by show (sl - x.ps + l) % l < x.nm; rw [hqq]; exact hq⟩)]
     show Value.tuple #[.int .i64 (k : Int), .int .i64 ((sl - x.ps + l) % l), .bool true] = _
     rw [hqq])
    clear hq hdk hx hx1 HIN HW HI0 HI1 HI2 hqq
    go_wp2_with fail
    exact bodyPost_ret (v := .tuple #[.int .i64 (k : Int), .int .i64 ((sl - x.ps) % l), .bool true]) (by simp [results, Tryz.results26, go_sem]) rfl ⟨by rw [HE.out], hb0.trans ((hbr.trans (hd1.mono lw)).mono (Nat.le_of_lt lw0))⟩
   ·have q1 : decide ((sl - x.ps) % l < x.nm) = false := decide_eq_false hq
    have HE := Lib.hid (show whoN l sl 0 (tds t.ts) = whoN l sl (k + 1) ((tds t.ts).drop (k + 1)) from by
     rw [HW.out, hdk, whoN, if_neg (fun h : has l sl x.d => hq (by rw [← hqq]; exact h.2.2))])
    clear hq hdk hx hx1 HIN HW HI0 HI1 HI2 hqq
    go_wp2_with fail
    go_roundw
    case rel => exact ⟨k + 1, by omega, by go_num, HE, hbr.trans (hd1.mono lw)⟩
    case measure => simp [RowKit.intOf]; omega
  ·have i1 : ¬ (k : Int) < (n : Int) := by omega
   have HE := Lib.hid (show whoE l sl (tds t.ts) = .tuple #[.int .i64 0, .int .i64 0, .bool false] from by
    unfold whoE
    rw [HW.out, List.drop_of_length_le (by rw [tds_length]; omega)]
    rfl)
   go_wp2_with fail
   exact bodyPost_ret (v := .tuple #[.int .i64 0, .int .i64 0, .bool false]) (by simp [results, Tryz.results26, go_sem]) rfl ⟨by rw [HE.out], hb0.trans (hbr.mono (Nat.le_of_lt lw0))⟩
end Go.Proofs.YtbfdpibjicjagaaGreatDoor.scn
namespace Go.Proofs.YtbfdpibjicjagaaGreatDoor.scn
open Go.RowKit Go.Lib
open Go.Proofs.YtbfdpibjicjagaaGreatDoor.gmt (Ok)
open Go.Proofs.YtbfdpibjicjagaaGreatDoor.anc (bl kal kst ks bm ka row_apart row_form row_below)
open Go.Proofs.YtbfdpibjicjagaaGreatDoor.tbl (G5 g5_new)
open Go.Proofs.YtbfdpibjicjagaaGreatDoor.lrc (Rcd RcR C8 c8_new noRec RecOk NumOk SlotOk cellN encR rds txnR RV ownR_in rrecords_c rec_at)
open Go.Proofs.YtbfdpibjicjagaaGreatDoor.rng (XV TxR Txd tds tvs TIn txn_at tds_length LogOk whoN whoE)
open Go.Proofs.YtbfdpibjicjagaaGreatDoor.nwt (GV GotR gds gvs OwnG ownG_nil ownG_gv src_got u8_got gds_length gvs_append gds_append)
open Go.Proofs.YtbfdpibjicjagaaGreatDoor.prr (f8_rowW blk_far c8_all below_8)
open Go.Proofs.YtbfdpibjicjagaaGreatDoor.img
theorem wpList_rowS {P : Program} (w : World) {ops : Array Oper} {rest : List Oper} {o : Oper} {a : Act} {Q : Exit → Act → World → Prop} (hgd : o.guard = none) (s x : Operand) (t tx : TypeId)
  (ho : o.op = .call { callee := .builtin .append, args := #[s, x], argTypes := #[t, tx] })
  (base k bytes : Nat) (e : TypeId) (z : Value) (ht : P.underlying t = some (.slice e)) (hi : (P.info? e).map (fun i => (i.zero, i.size, i.bytes)) = some (some z, k, bytes)) (hz : z.cells.size = k)
  (v : Value) (n : Nat) (xs : List Value) (hv : a.eval s = v) (hown : w.ownsRow base e k v n xs) (u : Value) (m : Nat) (news : List Value) (hu : a.eval x = u) (hs : Src P k tx u m news w)
  (h63 : n + m ≤ maxLen) (hlen : (n + m) * bytes ≤ 140737488355328) (hbase : base ≤ w.heap.size)
  (h : ∀ v' w', w'.ownsRow base e k v' (n + m) (xs ++ news) → w.grownBy w' v.ownBlock → (v'.ownBlock = v.ownBlock ∨ v'.ownBlock = some w.heap.size) → wpList P ops Q rest (a.put o.dst v') w') : wpList P ops Q (o :: rest) a w :=
 wpList_plain hgd fun _ hK => by
  cases hi' : P.info? e with
  | none => rw [hi'] at hi; cases hi
  | some i =>
   rw [hi'] at hi
   simp only [Option.map_some, Option.some.injEq, Prod.mk.injEq] at hi
   obtain ⟨v', w', hrun, h2, h3, h4⟩ := run_app (P := P) w base t tx o.type e i z k bytes ht hi' hi.1 hi.2.1 hi.2.2 hz v n xs hown u m news hs h63 hlen hbase
   have hK' := hK _ _ (h v' w' h2 h3 h4)
   unfold Oper.wp execOp
   simp only [ho, resolve, invoke, builtin, Sem.run_bind, Sem.run_pure, Result.andThen_ok, List.map_toArray, List.map_cons, List.map_nil, hv, hu, hrun]
   exact hK'
theorem wpAnyH_sub {P : Program} {md : Region.Mode} {ops : Array Oper} {Q : Exit → Act → World → Prop} {S S' : World → Prop} (h : ∀ w, S' w → S w) : ∀ (fuel : Nat) (listed : Array Bool) (a : Act) (w : World), wpAnyH P md ops Q S' fuel listed a w → wpAnyH P md ops Q S fuel listed a w
 | 0, _, _, _, k => k
 | fuel + 1, _, _, _, k => ⟨k.1, fun i hi => wpOp_mono (fun a' w' h' => ⟨h _ h'.1, wpAnyH_sub h fuel _ a' w' h'.2⟩) (k.2 i hi)⟩
theorem own_cS {w : World} {base g o : Nat} {e : TypeId} {v : Value} {l : List UInt8} (h : Own w base e v l) (hg : g < base) (u : Value) : Own (w.setCell ⟨g, o, none⟩ u) base e v l :=
 ownsRow_setCell_other h (fun k => by have := (World.ownsRow.lt h g k).1; omega) u
theorem own_8S {W : World} {base g : Nat} {e : TypeId} {v : Value} {l : List UInt8} (h : Own W base e v l) (hg : g < base) (b0 b1 b2 b3 b4 b5 b6 b7 : Value) : Own ((((((((W.setCell ⟨g, 0, none⟩ b0).setCell ⟨g, 1, none⟩ b1).setCell ⟨g, 2, none⟩ b2).setCell ⟨g, 3, none⟩ b3).setCell ⟨g, 4, none⟩ b4).setCell ⟨g, 5, none⟩ b5).setCell ⟨g, 6, none⟩ b6).setCell ⟨g, 7, none⟩ b7) base e v l :=
 own_cS (own_cS (own_cS (own_cS (own_cS (own_cS (own_cS (own_cS h hg b0) hg b1) hg b2) hg b3) hg b4) hg b5) hg b6) hg b7
theorem cells_8 {W : World} {g k o : Nat} {v : Value} (hk : k ≠ g) (h : W.cell? ⟨k, o, none⟩ = some v) (b0 b1 b2 b3 b4 b5 b6 b7 : Value) : ((((((((W.setCell ⟨g, 0, none⟩ b0).setCell ⟨g, 1, none⟩ b1).setCell ⟨g, 2, none⟩ b2).setCell ⟨g, 3, none⟩ b3).setCell ⟨g, 4, none⟩ b4).setCell ⟨g, 5, none⟩ b5).setCell ⟨g, 6, none⟩ b6).setCell ⟨g, 7, none⟩ b7).cell? ⟨k, o, none⟩ = some v :=
 (World.cell?_of_block (a := ⟨k, o, none⟩) (prr.heap_8 hk b0 b1 b2 b3 b4 b5 b6 b7)).trans h
def Ap (v u : Value) : Prop := ∀ q, v.ownBlock = some q → u.ownBlock ≠ some q
theorem Ap.or {v u : Value} (h : Ap v u) : v.ownBlock = none ∨ v.ownBlock ≠ u.ownBlock := by
 cases hv : v.ownBlock with
 | none => exact .inl rfl
 | some q => exact .inr fun e => h q hv e.symm
theorem Ap.symm {v u : Value} (h : Ap v u) : Ap u v := fun q hq e => h q e hq
theorem Ap.grown {v v' u : Value} {w : World} {base n k : Nat} {e : TypeId} {xs : List Value} (h : Ap v u) (hd : v'.ownBlock = v.ownBlock ∨ v'.ownBlock = some w.heap.size) (hu : w.ownsRow base e k u n xs) : Ap v' u := fun q hq e => by
 rcases hd with d | d
 ·exact h q (by rw [← d]; exact hq) e
 ·rw [d] at hq
  have := (World.ownsRow.lt hu q e).2
  have : w.heap.size = q := Option.some.inj hq
  omega
theorem keptG {w w' : World} {base base' m : Nat} {v u : Value} {rs : List GotR} {ys : List Value} (h : OwnG w base v rs) (hu : w.ownsRow base' 51 2 u m ys) (hg : w.grownBy w' u.ownBlock) (ha : Ap v u) : OwnG w' base v rs :=
 ⟨World.ownsRow.kept h.1 hg ha.or, fun r hr => (h.2 r hr).kept hg (row_apart (h.2 r hr) hu u8_got)⟩
theorem own_binS {w : World} {base : Nat} {e : TypeId} {r : ImR} (h : Own w base e (.slice r.A r.l.length r.c) r.l) : BIn w w.heap.size r := by
 obtain ⟨A, c, hv, h1, h2, hs, _⟩ := h.form
 simp only [Value.slice.injEq] at hv
 obtain ⟨ha, -, hc⟩ := hv
 exact ⟨by rw [ha]; exact hs, by omega, by omega⟩
theorem c8_grown {W W' : World} {g : Nat} {row : Option Nat} {a0 a1 a2 a3 a4 a5 a6 a7 : Value} (h : C8 W g a0 a1 a2 a3 a4 a5 a6 a7) (hg : W.grownBy W' row) (hr : some g ≠ row) : C8 W' g a0 a1 a2 a3 a4 a5 a6 a7 :=
 ⟨hg.cell h.c0 hr, hg.cell h.c1 hr, hg.cell h.c2 hr, hg.cell h.c3 hr, hg.cell h.c4 hr, hg.cell h.c5 hr, hg.cell h.c6 hr, hg.cell h.c7 hr⟩
theorem take_writ {l a cp ep : Int} {ts : List Txd} {k : Nat} (h : (k : Int) < l) : (writF l a cp ep ts).take (k + 1) = (writF l a cp ep ts).take k ++ [(0, writB l a cp ep ts k)] := by
 rw [List.take_add_one]
 congr 1
 unfold writF
 rw [List.getElem?_map, List.getElem?_range (by omega)]
 rfl
theorem written_c (z d s l a ep pos sq : Int) (t : XV) (n : Nat) (w : World) (ho : Ok z d s l a) (ht : t.In w w.heap.size) (hn : t.ts.length = n) (hn1 : n ≤ 1048576) (hp : 0 ≤ pos ∧ pos < l) (hlog : LogOk z d l pos sq 0 (tds t.ts)) (hq : 0 ≤ sq) (he : NumOk ep) :
  Calls Tryz.prog 22 #[.agg #[.int .i64 z, .int .i64 d, .int .i64 s, .int .i64 l, .int .i64 a], .slice t.A n t.c, .int .i64 ep] w fun e w' => (∃ F S : GV, e = .returned (.tuple #[F.v, S.v]) ∧ gds F.rs = writF l a 0 ep (tds t.ts) ∧ gds S.rs = writF l a 1 ep (tds t.ts) ∧ F.Own w' w.heap.size ∧ S.Own w' w.heap.size ∧ Ap F.v S.v) ∧ Below w.heap.size w w' := by
 have GG := g5_new w z d s l a
 have hb0 := bl w (.cells #[.int .i64 z, .int .i64 d, .int .i64 s, .int .i64 l, .int .i64 a] 23)
 have lw0 : w.heap.size < (w.alloc (.cells #[.int .i64 z, .int .i64 d, .int .i64 s, .int .i64 l, .int .i64 a] 23)).heap.size := by simp
 have hll : 14 ≤ l ∧ l ≤ 30 := ho.2.2.2.1
 have HT := Lib.hid (ht.next hb0)
 have HO := Lib.hid ho
 have HLOG := Lib.hid hlog
 have HEP := Lib.hid he
 have HP := Lib.hid hp
 have HREC := Lib.hid (fun s => recAt_ok hll hp hlog hq he s)
 have HWHO := Lib.hid (show ∀ (k : Nat) (W : World), (k : Int) < l → Below (w.alloc (.cells #[.int .i64 z, .int .i64 d, .int .i64 s, .int .i64 l, .int .i64 a] 23)).heap.size (w.alloc (.cells #[.int .i64 z, .int .i64 d, .int .i64 s, .int .i64 l, .int .i64 a] 23)) W → Calls Tryz.prog 26 #[.agg #[.int .i64 z, .int .i64 d, .int .i64 s, .int .i64 l, .int .i64 a], .slice t.A n t.c, .int .i64 (k : Int)] W fun e w' => e = .returned (whoE l k (tds t.ts)) ∧ Below W.heap.size W w' from fun k W hk hW =>
  rwho_c z d s l a k t n W ho (by omega) ((ht.next hb0).next hW) hn hn1 (fun x hx => by
   obtain ⟨j, hj, rfl⟩ := List.getElem_of_mem hx
   obtain ⟨q1, q2, q3, -⟩ := LogOk.nm30 hll.2 _ _ _ _ (Int.le_refl 0) hlog _ (List.getElem_mem hj)
   obtain ⟨e1, e2, -⟩ := LogOk.place (pos := pos) _ pos sq 0 j hj (by rw [Int.add_zero, Int.emod_eq_of_lt hp.1 hp.2]) hlog
   have h0 := rng.offN_nonneg hlog j
   have h1 : 0 ≤ (pos + 0 + rng.offN (tds t.ts) j) % l ∧ (pos + 0 + rng.offN (tds t.ts) j) % l < l := slot_of (by omega)
   exact ⟨by rw [e1]; omega, by omega⟩))
 clear hlog hq he ht ho hp
 go_enter Tryz.func22, Tryz.ntmps22
 go_upto_region 1 with fail
 generalize w.alloc (.cells #[.int .i64 z, .int .i64 d, .int .i64 s, .int .i64 l, .int .i64 a] 23) = w0 at *
 go_upto_region 3 with fail
 have HMG := Lib.hid (show ∀ W, Below w0.heap.size w0 W → G5 W w.heap.size z d s l a from fun W hW => GG.keep hW (by omega))
 clear GG
 go_loopw [8, 9, 10] (fun v u i w' => ∃ (k : Nat) (F S : List GotR), (k : Int) ≤ l ∧ i = .int .i64 (k : Int) ∧ gds F = (writF l a 0 ep (tds t.ts)).take k ∧ gds S = (writF l a 1 ep (tds t.ts)).take k ∧ OwnG w' w0.heap.size v F ∧ OwnG w' w0.heap.size u S ∧ Ap v u ∧ Below w0.heap.size w0 w') (fun _ _ i _ => l.toNat - (RowKit.intOf i).toNat)
 case atStart => exact ⟨0, [], [], by omega, rfl, rfl, rfl, ownG_nil _ _, ownG_nil _ _, fun q h => (by cases h), Below.refl _ _⟩
 case round =>
  obtain ⟨w5, rfl⟩ : ∃ x, x = wr := ⟨wr, rfl⟩
  obtain ⟨k, F, S, hk, rfl, hF, hS, hOF, hOS, hAp, hbr⟩ := hrel
  have lw := hbr.size
  obtain ⟨g0, g1, g2, g3, g4⟩ := HMG.out w5 hbr
  have HKF := Lib.hid hF
  have HKS := Lib.hid hS
  have hlF : F.length = k := by
   have := congrArg List.length hF
   rw [gds_length, List.length_take, writF_length] at this
   omega
  have hlS : S.length = k := by
   have := congrArg List.length hS
   rw [gds_length, List.length_take, writF_length] at this
   omega
  have HLF := Lib.hid hlF
  have HLS := Lib.hid hlS
  clear hF hS hlF hlS
  by_cases hlt : (k : Int) < l
  case neg =>
   obtain ⟨fF, hvF, hgF, hoF⟩ := ownG_gv hOF
   obtain ⟨fS, hvS, hgS, hoS⟩ := ownG_gv hOS
   have i1 : ¬ (k : Int) < l := hlt
   have HZ := Lib.hid (show gds fF.rs = writF l a 0 ep (tds t.ts) ∧ gds fS.rs = writF l a 1 ep (tds t.ts) from ⟨by rw [hgF, HKF.out, List.take_of_length_le (by rw [writF_length]; omega)], by rw [hgS, HKS.out, List.take_of_length_le (by rw [writF_length]; omega)]⟩)
   have hge : w.heap.size ≤ w0.heap.size := Nat.le_of_lt lw0
   have hoF' : fF.Own w5 w.heap.size := OwnG.less hoF hge
   have hoS' : fS.Own w5 w.heap.size := OwnG.less hoS hge
   subst hvF hvS
   clear hgF hgS hoF hoS hOF hOS
   unfold GV.v at *
   go_wp2_with fail
   exact bodyPost_ret (v := .tuple #[.slice fF.A fF.rs.length fF.c, .slice fS.A fS.rs.length fS.c]) (by simp [results, Tryz.results22, go_sem]) rfl ⟨⟨fF, fS, rfl, HZ.out.1, HZ.out.2, hoF', hoS', hAp⟩, hb0.trans (hbr.mono hge)⟩
  have i1 : (k : Int) < l := hlt
  go_upto_region 6 with fail
  have RZ := c8_new w5 (.int .i64 0) (.int .i64 0) (.int .i64 0) (.int .i64 0) (.int .i64 0) (.int .i64 0) (.int .i64 0) (.slice none 0 0) 83
  have PZ := heap_alloc_new w5 (.cells #[.int .i64 0, .int .i64 0, .int .i64 0, .int .i64 0, .int .i64 0, .int .i64 0, .int .i64 0, .slice none 0 0] 83)
  have hxA := bl w5 (.cells #[.int .i64 0, .int .i64 0, .int .i64 0, .int .i64 0, .int .i64 0, .int .i64 0, .int .i64 0, .slice none 0 0] 83)
  have lA : w5.heap.size < (w5.alloc (.cells #[.int .i64 0, .int .i64 0, .int .i64 0, .int .i64 0, .int .i64 0, .int .i64 0, .int .i64 0, .slice none 0 0] 83)).heap.size := by simp
  have hbA : Below w0.heap.size w0 (w5.alloc (.cells #[.int .i64 0, .int .i64 0, .int .i64 0, .int .i64 0, .int .i64 0, .int .i64 0, .int .i64 0, .slice none 0 0] 83)) := kal hbr _
  have hOFA := hOF.below hxA
  have hOSA := hOS.below hxA
  clear g0 g1 g2 g3 g4
  generalize hgR : w5.heap.size = gR at *
  generalize w5.alloc (.cells #[.int .i64 0, .int .i64 0, .int .i64 0, .int .i64 0, .int .i64 0, .int .i64 0, .int .i64 0, .slice none 0 0] 83) = wA at *
  obtain ⟨g0, g1, g2, g3, g4⟩ := HMG.out wA hbA
  have HW := Lib.hid (HWHO.out k wA hlt hbA)
  cases hw : whoN l k 0 (tds t.ts) with
  | none =>
   have hwe : whoE l k (tds t.ts) = .tuple #[.int .i64 0, .int .i64 0, .bool false] := by unfold whoE; rw [hw]
   have hrc : recAt l ep (tds t.ts) k = noRec := by unfold recAt; rw [hw]
   rw [hwe] at HW
   go_upto_region 9 with (go_at_call 26; (with_reducible refine HW.out.mono ?_); rintro e w6 ⟨rfl, hb6⟩)
   have R6 := RZ.keep hb6 lA
   have hrec : ∃ r : RcR, r = ⟨0, 0, 0, 0, 0, ⟨0, 0, none, 0, []⟩⟩ := ⟨_, rfl⟩
   obtain ⟨r, hr⟩ := hrec
   have hrd : r.d = recAt l ep (tds t.ts) k := by rw [hrc, hr]; rfl
   have hro : Own w6 w0.heap.size 5 (.slice r.i.A r.i.l.length r.i.c) r.i.l := by rw [hr]; exact own_nil _ _ _
   have R7 : C8 w6 gR (.int .i64 r.kd) (.int .i64 r.sq) (.int .i64 r.ep) (.int .i64 r.ps) (.int .i64 r.nm) (.int .i64 r.i.z) (.int .i64 r.i.wh) (.slice r.i.A r.i.l.length r.i.c) := by rw [hr]; exact R6
   have h6 : Below gR w5 w6 := hxA.trans (hb6.mono (Nat.le_of_lt lA))
   have lR : gR < w6.heap.size := Nat.lt_of_lt_of_le lA hb6.size
   clear RZ R6 hr hw hwe hrc
   have HRO := Lib.hid (HREC.out k)
   have hNG := HMG.out w6 (hbr.trans (h6.mono lw))
   obtain ⟨B0, hB0⟩ : ∃ B, B = writB l a 0 ep (tds t.ts) k := ⟨_, rfl⟩
   obtain ⟨B1, hB1⟩ : ∃ B, B = writB l a 1 ep (tds t.ts) k := ⟨_, rfl⟩
   have hsq : r.sq = (recAt l ep (tds t.ts) k).sq := congrArg Rcd.sq hrd
   have e0 : sel.enc (cellN l a 0 k) r.sq.toNat (encR r.d) = B0 := by rw [hB0, hsq, hrd, writB]
   have e1 : sel.enc (cellN l a 1 k) r.sq.toNat (encR r.d) = B1 := by rw [hB1, hsq, hrd, writB]
   have n0 : (encR r.d).length + 11 = B0.length := by rw [← e0, sel.enc_length]
   have n1 : (encR r.d).length + 11 = B1.length := by rw [← e1, sel.enc_length]
   have HRD := Lib.hid (show RecOk z d r.d by rw [hrd]; exact HRO.out)
   have HC0 := Lib.hid (show ∀ W, BIn W W.heap.size r.i → Calls Tryz.prog 38 #[.agg #[.int .i64 z, .int .i64 d, .int .i64 s, .int .i64 l, .int .i64 a], .agg #[.int .i64 r.kd, .int .i64 r.sq, .int .i64 r.ep, .int .i64 r.ps, .int .i64 r.nm, .int .i64 r.i.z, .int .i64 r.i.wh, .slice r.i.A r.i.l.length r.i.c], .int .i64 0, .int .i64 (k : Int)] W fun e w' => BytO W.heap.size B0.length B0 e w' ∧ Below W.heap.size W w' from fun W hW => by
    have h9 := rrec_own z d s l a 0 k r _ _ W HO.out hW rfl HRD.out ⟨.inl rfl, by omega, by omega⟩ rfl
    rw [e0, n0] at h9
    exact h9)
   have HC1 := Lib.hid (show ∀ W, BIn W W.heap.size r.i → Calls Tryz.prog 38 #[.agg #[.int .i64 z, .int .i64 d, .int .i64 s, .int .i64 l, .int .i64 a], .agg #[.int .i64 r.kd, .int .i64 r.sq, .int .i64 r.ep, .int .i64 r.ps, .int .i64 r.nm, .int .i64 r.i.z, .int .i64 r.i.wh, .slice r.i.A r.i.l.length r.i.c], .int .i64 1, .int .i64 (k : Int)] W fun e w' => BytO W.heap.size B1.length B1 e w' ∧ Below W.heap.size W w' from fun W hW => by
    have h9 := rrec_own z d s l a 1 k r _ _ W HO.out hW rfl HRD.out ⟨.inr rfl, by omega, by omega⟩ rfl
    rw [e1, n1] at h9
    exact h9)
   have HB := Lib.hid (And.intro hB0 hB1)
   clear hB0 hB1 e0 e1 n0 n1 hsq hrd HW
   obtain ⟨r0, r1, r2, r3, r4, r5, r6, r7⟩ := id R7
   clear g0 g1 g2 g3 g4
   obtain ⟨g0, g1, g2, g3, g4⟩ := id hNG
   have h65 : Below w5.heap.size w5 w6 := by rw [hgR]; exact h6
   have hF6 := hOF.below h65
   have hS6 := hOS.below h65
   have hne1 : some gR ≠ u8.ownBlock := fun e => by have := (World.ownsRow.lt hOF.1 gR e.symm).2; omega
   have hne2 : some gR ≠ u9.ownBlock := fun e => by have := (World.ownsRow.lt hOS.1 gR e.symm).2; omega
   have hfar1 : ∀ q, u8.ownBlock = some q → w0.heap.size ≤ q := fun q hq => (World.ownsRow.lt hOF.1 q hq).1
   have hfar2 : ∀ q, u9.ownBlock = some q → w0.heap.size ≤ q := fun q hq => (World.ownsRow.lt hOS.1 q hq).1
   have hbr6 := hbr.trans (h6.mono lw)
   have l06 : w0.heap.size ≤ w6.heap.size := hbr6.size
   clear hOF hOS
   go_upto_region 10 with (first
    | (go_at_call 38; (with_reducible refine (HC0.out w6 (own_binS hro)).mono ?_); rintro e w7 ⟨⟨X0, x0, rfl, o7⟩, hb7⟩; have hF7 := hF6.below hb7; have l07 := Nat.le_trans l06 hb7.size)
    | (at_builtin; refine wpList_rowS _ rfl (.tmp 45) (.tmp 51) _ _ rfl w0.heap.size 2 32 51 (.agg #[.int .i64 0, .slice none 0 0]) Tryz.underlying27 nwt.g_info rfl u8 F.length (gvs F) rfl (World.ownsRow.alloc hF7.1 _) _ 1 _ rfl (src_got (P := Tryz.prog) (heap_alloc_new w7 _) Tryz.underlying27 (by simp [Value.oneCell'])) (by rw [HLF.out]; unfold maxLen; omega) (by rw [HLF.out]; omega) (by simp; omega) ?_; intro v8 w8 h8 hg8 hd8)
    | fail)
   have L7 := bl w7 (.cells #[.int .i64 0, .slice X0 B0.length x0] 51)
   have F8 := (hF7.below L7).more (r := ⟨0, X0, x0, B0⟩) hg8 ((o7.below L7).less l06) h8
   have S8 := keptG ((hS6.below hb7).below L7) (hF7.below L7).1 hg8 hAp.symm
   have A8 := hAp.grown hd8 ((hS6.below hb7).below L7).1
   have R8 := c8_grown (R7.keep (kal hb7 (.cells #[.int .i64 0, .slice X0 B0.length x0] 51)) lR) hg8 hne1
   have b8 : Below w0.heap.size w6 w8 := ((hb7.mono l06).alloc l07 (.cells #[.int .i64 0, .slice X0 B0.length x0] 51)).grown hg8 (by simp; omega) hfar1
   have hro8 := ((hro.below hb7).below L7).kept hg8 (row_apart ((hro.below hb7).below L7) (hF7.below L7).1 u8_got)
   have l08 : w0.heap.size ≤ w8.heap.size := Nat.le_trans l06 b8.size
   have lR8 : gR < w8.heap.size := Nat.lt_of_lt_of_le lR b8.size
   clear r0 r1 r2 r3 r4 r5 r6 r7 g0 g1 g2 g3 g4 L7 R7 hF6 hS6 hF7 hro hg8 hd8 h8 o7
   obtain ⟨r0, r1, r2, r3, r4, r5, r6, r7⟩ := id R8
   obtain ⟨g0, g1, g2, g3, g4⟩ := HMG.out w8 (hbr6.trans b8)
   go_upto_region 4 with (first
    | (go_at_call 38; (with_reducible refine (HC1.out w8 (own_binS hro8)).mono ?_); rintro e w9 ⟨⟨X1, x1, rfl, o9⟩, hb9⟩; have hS9 := S8.below hb9; have l09 := Nat.le_trans l08 hb9.size)
    | (at_builtin; refine wpList_rowS _ rfl (.tmp 53) (.tmp 59) _ _ rfl w0.heap.size 2 32 51 (.agg #[.int .i64 0, .slice none 0 0]) Tryz.underlying27 nwt.g_info rfl u9 S.length (gvs S) rfl (World.ownsRow.alloc hS9.1 _) _ 1 _ rfl (src_got (P := Tryz.prog) (heap_alloc_new w9 _) Tryz.underlying27 (by simp [Value.oneCell'])) (by rw [HLS.out]; unfold maxLen; omega) (by rw [HLS.out]; omega) (by simp; omega) ?_; intro vA wA9 hA hgA hdA)
    | fail)
   have L9 := bl w9 (.cells #[.int .i64 0, .slice X1 B1.length x1] 51)
   have SA := (hS9.below L9).more (r := ⟨0, X1, x1, B1⟩) hgA ((o9.below L9).less l08) hA
   have FA := keptG ((F8.below hb9).below L9) (hS9.below L9).1 hgA A8
   have AA := (A8.symm.grown hdA ((F8.below hb9).below L9).1).symm
   have bA : Below w0.heap.size w8 wA9 := ((hb9.mono l08).alloc l09 (.cells #[.int .i64 0, .slice X1 B1.length x1] 51)).grown hgA (by simp; omega) hfar2
   have HFI := Lib.hid (show gds (F ++ [⟨0, X0, x0, B0⟩]) = (writF l a 0 ep (tds t.ts)).take (k + 1) ∧ gds (S ++ [⟨0, X1, x1, B1⟩]) = (writF l a 1 ep (tds t.ts)).take (k + 1) from ⟨by rw [gds_append, HKF.out, take_writ hlt, HB.out.1]; rfl, by rw [gds_append, HKS.out, take_writ hlt, HB.out.2]; rfl⟩)
   go_wp2_with fail
   go_roundw
   case rel => exact ⟨k + 1, F ++ [⟨0, X0, x0, B0⟩], S ++ [⟨0, X1, x1, B1⟩], by omega, by go_num, HFI.out.1, HFI.out.2, FA, SA, AA, hbr6.trans (b8.trans bA)⟩
   case measure => simp [RowKit.intOf]; omega
  | some jk =>
   obtain ⟨j, q⟩ := jk
   obtain ⟨hj, -, hq0, hq1⟩ := (rng.whoN_some (by omega) HP.out HLOG.out (k : Int) j q).1 hw
   obtain ⟨Q, rfl⟩ : ∃ Q : Nat, q = (Q : Int) := ⟨q.toNat, by omega⟩
   have hwe : whoE l k (tds t.ts) = .tuple #[.int .i64 (j : Int), .int .i64 (Q : Int), .bool true] := by unfold whoE; rw [hw]
   rw [hwe] at HW
   go_upto_region 8 with (go_at_call 26; (with_reducible refine HW.out.mono ?_); rintro e w6 ⟨rfl, hb6⟩)
   have R6 := RZ.keep hb6 lA
   have P6 := blk_far hb6 lA PZ
   have h6 : Below gR w5 w6 := hxA.trans (hb6.mono (Nat.le_of_lt lA))
   have hT6 := HT.out.below (hbr.trans (h6.mono lw))
   obtain ⟨b1, off, x, hTA, hb1, p0, p1, p2, p3, hiv, -, -, e1⟩ := txn_at hT6.h hT6.i (show j < t.ts.length by rw [tds_length] at hj; exact hj)
   have l06 : w0.heap.size ≤ w6.heap.size := (hbr.trans (h6.mono lw)).size
   have hxj : (tds t.ts)[j] = x.d := by rw [List.getElem?_eq_getElem hj] at e1; exact Option.some.inj e1
   obtain ⟨q1, q2, q3, q4, -, -⟩ := LogOk.nm30 hll.2 _ _ _ _ (Int.le_refl 0) HLOG.out _ (List.getElem_mem hj)
   rw [hxj] at q1 q2 q3 q4 hq1
   have hQl : Q ≤ (ids x.rs).length := by have : x.d.nm = ((ids x.rs).length : Int) + 1 := q2; have : (Q : Int) < x.d.nm := hq1; omega
   have HRS := Lib.hid (show ∀ W, Below w6.heap.size w6 W → Calls Tryz.prog 42 #[.int .i64 x.sq, .int .i64 ep, .slice x.A x.rs.length x.c] W fun e w' => (∃ (v : Value) (rs : List RcR), e = .returned v ∧ rds rs = txnR x.sq ep (ids x.rs) ∧ lrc.OwnR w' W.heap.size v rs) ∧ Below W.heap.size W w' from fun W hW => rrecords_c x.sq ep x.iv _ W ((hiv.more l06).next hW) rfl (by show x.rs.length ≤ 1048576; have h3 := ids_length x.rs; have : x.d.nm = ((ids x.rs).length : Int) + 1 := q2; omega) (fun y hy => by
    have h9 := lrc.imOk_len (q4 y.d (List.mem_map.2 ⟨y, hy, rfl⟩)) HO.out.2.1
    have h9 : y.l.length ≤ 45 ∧ 8 ≤ y.l.length := h9
    omega))
   rw [hTA]
   have HF := Lib.hid (show ∀ W, Below w0.heap.size w6 W → ((W.cell? ⟨b1, off + j * 4, none⟩ = some (.int .i64 x.sq) ∧ W.cell? ⟨b1, off + j * 4 + 3, none⟩ = some (.slice x.A x.rs.length x.c)) ∧ Below w0.heap.size w6 W) from fun W h => ⟨⟨ks h hb1 p0, ks h hb1 p3⟩, h⟩)
   have hd0 := below_dr (Below.refl w6.heap.size w6)
   have hjn : (j : Int) < (n : Int) := by rw [tds_length] at hj; omega
   clear p0 p1 p2 p3
   refine wp_region_held_drew (S := fun W => ((W.cell? ⟨b1, off + j * 4, none⟩ = some (.int .i64 x.sq) ∧ W.cell? ⟨b1, off + j * 4 + 3, none⟩ = some (.slice x.A x.rs.length x.c)) ∧ Below w0.heap.size w6 W)) (by kernel_rfl) (HF.out _ (hd0.mono l06)) (fun hHeld => ?_)
   (refine wpAnyH_take (i := 0) (v := ?_) rfl (by kernel_rfl) (by kernel_rfl) (by kernel_rfl) (fun _ _ _ h => h) (Or.inl ⟨by rfl, ?_⟩) (by assumption) ?_; rotate_left; (focus (intro w hSw; (try dsimp only at hSw); go_split_ands; go_simp <;> with_reducible rfl)); simp only [List.getElem_toArray, List.getElem_cons_zero, Act.put, List.setIfInBounds_toArray, List.set_cons_zero, List.set_cons_succ])
   (refine wpAnyH_take (i := 1) (v := ?_) rfl (by kernel_rfl) (by kernel_rfl) (by kernel_rfl) (fun _ _ _ h => h) (Or.inl ⟨by rfl, ?_⟩) (by assumption) ?_; rotate_left; (focus (intro w hSw; (try dsimp only at hSw); go_split_ands; go_simp <;> with_reducible rfl)); simp only [List.getElem_toArray, List.getElem_cons_zero, List.getElem_cons_succ, Act.put, List.setIfInBounds_toArray, List.set_cons_zero, List.set_cons_succ])
   (refine wpAnyH_take (i := 2) (v := ?_) rfl (by kernel_rfl) (by kernel_rfl) (by kernel_rfl) (fun _ _ _ h => h) (Or.inl ⟨by rfl, ?_⟩) (by assumption) ?_; rotate_left; (focus (intro w hSw; (try dsimp only at hSw); go_split_ands; go_simp <;> with_reducible rfl)); simp only [List.getElem_toArray, List.getElem_cons_zero, List.getElem_cons_succ, Act.put, List.setIfInBounds_toArray, List.set_cons_zero, List.set_cons_succ])
   (refine wpAnyH_take (i := 3) (v := ?_) rfl (by kernel_rfl) (by kernel_rfl) (by kernel_rfl) (fun _ _ _ h => h) (Or.inl ⟨by rfl, ?_⟩) (by assumption) ?_; rotate_left; (focus (intro w hSw; (try dsimp only at hSw); go_split_ands; go_simp <;> with_reducible rfl)); simp only [List.getElem_toArray, List.getElem_cons_zero, List.getElem_cons_succ, Act.put, List.setIfInBounds_toArray, List.set_cons_zero, List.set_cons_succ])
   (refine wpAnyH_take (i := 4) (v := ?_) rfl (by kernel_rfl) (by kernel_rfl) (by kernel_rfl) (fun _ _ _ h => h) (Or.inl ⟨by rfl, ?_⟩) (by assumption) ?_; rotate_left; (focus (intro w hSw; (try dsimp only at hSw); go_split_ands; go_simp <;> with_reducible rfl)); simp only [List.getElem_toArray, List.getElem_cons_zero, List.getElem_cons_succ, Act.put, List.setIfInBounds_toArray, List.set_cons_zero, List.set_cons_succ])
   (refine wpAnyH_take (i := 5) (v := ?_) rfl (by kernel_rfl) (by kernel_rfl) (by kernel_rfl) (fun _ _ _ h => h) (Or.inl ⟨by rfl, ?_⟩) (by assumption) ?_; rotate_left; (focus (intro w hSw; (try dsimp only at hSw); go_split_ands; go_simp <;> with_reducible rfl)); simp only [List.getElem_toArray, List.getElem_cons_zero, List.getElem_cons_succ, Act.put, List.setIfInBounds_toArray, List.set_cons_zero, List.set_cons_succ])
   (refine wpAnyH_take (i := 6) (v := ?_) rfl (by kernel_rfl) (by kernel_rfl) (by kernel_rfl) (fun _ _ _ h => h) (Or.inl ⟨by rfl, ?_⟩) (by assumption) ?_; rotate_left; (focus (intro w hSw; (try dsimp only at hSw); go_split_ands; go_simp <;> with_reducible rfl)); simp only [List.getElem_toArray, List.getElem_cons_zero, List.getElem_cons_succ, Act.put, List.setIfInBounds_toArray, List.set_cons_zero, List.set_cons_succ])
   (refine wpAnyH_take (i := 7) (v := ?_) rfl (by kernel_rfl) (by kernel_rfl) (by kernel_rfl) (fun _ _ _ h => h) (Or.inl ⟨by rfl, ?_⟩) (by assumption) ?_; rotate_left; (focus (intro w hSw; (try dsimp only at hSw); go_split_ands; go_simp <;> with_reducible rfl)); simp only [List.getElem_toArray, List.getElem_cons_zero, List.getElem_cons_succ, Act.put, List.setIfInBounds_toArray, List.set_cons_zero, List.set_cons_succ])
   (refine wpAnyH_take (i := 8) (v := ?_) rfl (by kernel_rfl) (by kernel_rfl) (by kernel_rfl) (fun _ _ _ h => h) (Or.inl ⟨by rfl, ?_⟩) (by assumption) ?_; rotate_left; (focus (intro w hSw; (try dsimp only at hSw); go_split_ands; go_simp <;> with_reducible rfl)); simp only [List.getElem_toArray, List.getElem_cons_zero, List.getElem_cons_succ, Act.put, List.setIfInBounds_toArray, List.set_cons_zero, List.set_cons_succ])
   (refine wpAnyH_take (i := 9) (v := ?_) rfl (by kernel_rfl) (by kernel_rfl) (by kernel_rfl) (fun _ _ _ h => h) (Or.inl ⟨by rfl, ?_⟩) (by assumption) ?_; rotate_left; (focus (intro w hSw; (try dsimp only at hSw); go_split_ands; go_simp <;> with_reducible rfl)); simp only [List.getElem_toArray, List.getElem_cons_zero, List.getElem_cons_succ, Act.put, List.setIfInBounds_toArray, List.set_cons_zero, List.set_cons_succ])
   (refine wpAnyH_take (i := 10) (v := ?_) rfl (by kernel_rfl) (by kernel_rfl) (by kernel_rfl) (fun _ _ _ h => h) (Or.inl ⟨by rfl, ?_⟩) (by assumption) ?_; rotate_left; (focus (intro w hSw; (try dsimp only at hSw); go_split_ands; go_simp <;> with_reducible rfl)); simp only [List.getElem_toArray, List.getElem_cons_zero, List.getElem_cons_succ, Act.put, List.setIfInBounds_toArray, List.set_cons_zero, List.set_cons_succ])
   (refine wpAnyH_take (i := 12) (v := ?_) rfl (by kernel_rfl) (by kernel_rfl) (by kernel_rfl) (fun _ _ _ h => h) (Or.inl ⟨by rfl, ?_⟩) (by assumption) ?_; rotate_left; (focus (intro w hSw; (try dsimp only at hSw); go_split_ands; go_simp <;> with_reducible rfl)); simp only [List.getElem_toArray, List.getElem_cons_zero, List.getElem_cons_succ, Act.put, List.setIfInBounds_toArray, List.set_cons_zero, List.set_cons_succ])
   refine wpAnyH_ready (rs := [11]) (by kernel_rfl) (by simp) ?_
   refine AllReadyH.cons rfl (fun K hK => ?_) AllReadyH.nil
   go_simp
   go_at_call 42
   (with_reducible refine (HRS.out _ hd0).mono ?_)
   rintro e wB ⟨⟨v, rs, rfl, hrs, hOR⟩, hbq⟩
   have hbB := bt hd0 hbq
   refine hK.out _ _ (HF.out wB (hbB.mono l06)) (fun hS2 => ?_)
   clear hK K
   try simp only [Act.put, List.setIfInBounds_toArray, List.set_cons_zero, List.set_cons_succ]
   obtain ⟨Ar, cr, hv, hRV⟩ := ownR_in hOR
   have hrl : rs.length = (ids x.rs).length + 1 := by have := congrArg List.length hrs; rw [lrc.rds_length, lrc.txnR_length] at this; exact this
   obtain ⟨b2, off2, r, hAr, hb2, c0, c1, c2, c3, c4, c5, c6, c7, -, hrm, hrr⟩ := rec_at hRV.h hRV.i (show Q < rs.length by omega)
   have hAr2 : Ar = some ⟨b2, off2, none⟩ := hAr
   have hbl : w6.heap.size ≤ b2 := (World.ownsRow.lt hOR.1 b2 (by rw [hv, hAr2]; rfl)).1
   have hro0 := hOR.2 r hrm
   have hrd : r.d = recAt l ep (tds t.ts) k := by
    have h9 : (rds rs)[Q]? = some r.d := by simp [lrc.rds, hrr]
    rw [hrs] at h9
    unfold recAt
    rw [hw]
    show r.d = recT ep ((tds t.ts).getD j ⟨0, 0, 0, []⟩) (Q : Int).toNat
    rw [List.getD_eq_getElem?_getD, e1, show ((Q : Int)).toNat = Q by omega]
    show r.d = ((txnR x.sq ep (ids x.rs))[Q]?).getD noRec
    rw [h9]
    rfl
   have hQr : (Q : Int) < (rs.length : Int) := by omega
   have PB := blk_far hbB (Nat.lt_of_lt_of_le lA hb6.size) P6
   obtain ⟨f0, f1, f2, f3, f4, f5, f6, f7⟩ := prr.f8_all (f8_rowW PB)
   obtain ⟨z0', z1', z2', z3', z4', z5', z6', z7'⟩ := (f8_rowW PB).c
   have hS3 : ((wB.cell? ⟨b1, off + j * 4, none⟩ = some (.int .i64 x.sq) ∧ wB.cell? ⟨b1, off + j * 4 + 3, none⟩ = some (.slice x.A x.rs.length x.c)) ∧ Below w0.heap.size w6 wB) ∧ (wB.cell? ⟨b2, off2 + Q * 8, none⟩ = some (.int .i64 r.kd) ∧ wB.cell? ⟨b2, off2 + Q * 8 + 1, none⟩ = some (.int .i64 r.sq) ∧ wB.cell? ⟨b2, off2 + Q * 8 + 2, none⟩ = some (.int .i64 r.ep) ∧ wB.cell? ⟨b2, off2 + Q * 8 + 3, none⟩ = some (.int .i64 r.ps) ∧ wB.cell? ⟨b2, off2 + Q * 8 + 4, none⟩ = some (.int .i64 r.nm) ∧ wB.cell? ⟨b2, off2 + Q * 8 + 5, none⟩ = some (.int .i64 r.i.z) ∧ wB.cell? ⟨b2, off2 + Q * 8 + 6, none⟩ = some (.int .i64 r.i.wh) ∧ wB.cell? ⟨b2, off2 + Q * 8 + 7, none⟩ = some (.slice r.i.A r.i.l.length r.i.c)) := ⟨hS2, c0, c1, c2, c3, c4, c5, c6, c7⟩
   subst hv
   rw [hAr2]
   have HQQ := Lib.hid (And.intro hrd hro0)
   clear hrl hRV hOR hrs hrm hrr hro0 hrd c0 c1 c2 c3 c4 c5 c6 c7 hS2
   refine wpAnyH_sub (S' := fun W => ((W.cell? ⟨b1, off + j * 4, none⟩ = some (.int .i64 x.sq) ∧ W.cell? ⟨b1, off + j * 4 + 3, none⟩ = some (.slice x.A x.rs.length x.c)) ∧ Below w0.heap.size w6 W) ∧ (W.cell? ⟨b2, off2 + Q * 8, none⟩ = some (.int .i64 r.kd) ∧ W.cell? ⟨b2, off2 + Q * 8 + 1, none⟩ = some (.int .i64 r.sq) ∧ W.cell? ⟨b2, off2 + Q * 8 + 2, none⟩ = some (.int .i64 r.ep) ∧ W.cell? ⟨b2, off2 + Q * 8 + 3, none⟩ = some (.int .i64 r.ps) ∧ W.cell? ⟨b2, off2 + Q * 8 + 4, none⟩ = some (.int .i64 r.nm) ∧ W.cell? ⟨b2, off2 + Q * 8 + 5, none⟩ = some (.int .i64 r.i.z) ∧ W.cell? ⟨b2, off2 + Q * 8 + 6, none⟩ = some (.int .i64 r.i.wh) ∧ W.cell? ⟨b2, off2 + Q * 8 + 7, none⟩ = some (.slice r.i.A r.i.l.length r.i.c))) (fun w h => h.1) _ _ _ _ ?_
   (refine wpAnyH_take (i := 13) (v := ?_) rfl (by kernel_rfl) (by kernel_rfl) (by kernel_rfl) (fun _ _ _ h => h) (Or.inl ⟨by rfl, ?_⟩) (by assumption) ?_; rotate_left; (focus (intro w hSw; (try dsimp only at hSw); go_split_ands; go_simp <;> with_reducible rfl)); simp only [List.getElem_toArray, List.getElem_cons_zero, List.getElem_cons_succ, Act.put, List.setIfInBounds_toArray, List.set_cons_zero, List.set_cons_succ])
   (refine wpAnyH_take (i := 14) (v := ?_) rfl (by kernel_rfl) (by kernel_rfl) (by kernel_rfl) (fun _ _ _ h => h) (Or.inl ⟨by rfl, ?_⟩) (by assumption) ?_; rotate_left; (focus (intro w hSw; (try dsimp only at hSw); go_split_ands; go_simp <;> with_reducible rfl)); simp only [List.getElem_toArray, List.getElem_cons_zero, List.getElem_cons_succ, Act.put, List.setIfInBounds_toArray, List.set_cons_zero, List.set_cons_succ])
   refine wpAnyH_ready (rs := [15]) (by kernel_rfl) (by simp) ?_
   refine AllReadyH.cons rfl (fun K hK => ?_) AllReadyH.nil
   go_simp
   have hgb : b2 ≠ gR := by have : gR < w6.heap.size := Nat.lt_of_lt_of_le lA hb6.size; omega
   have hEb : Below w0.heap.size w6 (((((((((wB.setCell ⟨gR, 0, none⟩ (.int .i64 r.kd)).setCell ⟨gR, 1, none⟩ (.int .i64 r.sq)).setCell ⟨gR, 2, none⟩ (.int .i64 r.ep)).setCell ⟨gR, 3, none⟩ (.int .i64 r.ps)).setCell ⟨gR, 4, none⟩ (.int .i64 r.nm)).setCell ⟨gR, 5, none⟩ (.int .i64 r.i.z)).setCell ⟨gR, 6, none⟩ (.int .i64 r.i.wh)).setCell ⟨gR, 7, none⟩ (.slice r.i.A r.i.l.length r.i.c))) := below_8 (hbB.mono l06) lw (.int .i64 r.kd) (.int .i64 r.sq) (.int .i64 r.ep) (.int .i64 r.ps) (.int .i64 r.nm) (.int .i64 r.i.z) (.int .i64 r.i.wh) (.slice r.i.A r.i.l.length r.i.c)
   have hE6 : Below gR w5 (((((((((wB.setCell ⟨gR, 0, none⟩ (.int .i64 r.kd)).setCell ⟨gR, 1, none⟩ (.int .i64 r.sq)).setCell ⟨gR, 2, none⟩ (.int .i64 r.ep)).setCell ⟨gR, 3, none⟩ (.int .i64 r.ps)).setCell ⟨gR, 4, none⟩ (.int .i64 r.nm)).setCell ⟨gR, 5, none⟩ (.int .i64 r.i.z)).setCell ⟨gR, 6, none⟩ (.int .i64 r.i.wh)).setCell ⟨gR, 7, none⟩ (.slice r.i.A r.i.l.length r.i.c))) := below_8 (h6.trans (hbB.mono (Nat.le_of_lt (Nat.lt_of_lt_of_le lA hb6.size)))) (Nat.le_refl _) (.int .i64 r.kd) (.int .i64 r.sq) (.int .i64 r.ep) (.int .i64 r.ps) (.int .i64 r.nm) (.int .i64 r.i.z) (.int .i64 r.i.wh) (.slice r.i.A r.i.l.length r.i.c)
   have R7 : C8 (((((((((wB.setCell ⟨gR, 0, none⟩ (.int .i64 r.kd)).setCell ⟨gR, 1, none⟩ (.int .i64 r.sq)).setCell ⟨gR, 2, none⟩ (.int .i64 r.ep)).setCell ⟨gR, 3, none⟩ (.int .i64 r.ps)).setCell ⟨gR, 4, none⟩ (.int .i64 r.nm)).setCell ⟨gR, 5, none⟩ (.int .i64 r.i.z)).setCell ⟨gR, 6, none⟩ (.int .i64 r.i.wh)).setCell ⟨gR, 7, none⟩ (.slice r.i.A r.i.l.length r.i.c))) gR (.int .i64 r.kd) (.int .i64 r.sq) (.int .i64 r.ep) (.int .i64 r.ps) (.int .i64 r.nm) (.int .i64 r.i.z) (.int .i64 r.i.wh) (.slice r.i.A r.i.l.length r.i.c) := c8_all (f8_rowW PB).c (.int .i64 r.kd) (.int .i64 r.sq) (.int .i64 r.ep) (.int .i64 r.ps) (.int .i64 r.nm) (.int .i64 r.i.z) (.int .i64 r.i.wh) (.slice r.i.A r.i.l.length r.i.c)
   have hro : Own (((((((((wB.setCell ⟨gR, 0, none⟩ (.int .i64 r.kd)).setCell ⟨gR, 1, none⟩ (.int .i64 r.sq)).setCell ⟨gR, 2, none⟩ (.int .i64 r.ep)).setCell ⟨gR, 3, none⟩ (.int .i64 r.ps)).setCell ⟨gR, 4, none⟩ (.int .i64 r.nm)).setCell ⟨gR, 5, none⟩ (.int .i64 r.i.z)).setCell ⟨gR, 6, none⟩ (.int .i64 r.i.wh)).setCell ⟨gR, 7, none⟩ (.slice r.i.A r.i.l.length r.i.c))) w0.heap.size 5 (.slice r.i.A r.i.l.length r.i.c) r.i.l := (own_8S (g := gR) HQQ.out.2 (show gR < w6.drew.heap.size from Nat.lt_of_lt_of_le lA hb6.size) (.int .i64 r.kd) (.int .i64 r.sq) (.int .i64 r.ep) (.int .i64 r.ps) (.int .i64 r.nm) (.int .i64 r.i.z) (.int .i64 r.i.wh) (.slice r.i.A r.i.l.length r.i.c)).less l06
   have lR : gR < (((((((((wB.setCell ⟨gR, 0, none⟩ (.int .i64 r.kd)).setCell ⟨gR, 1, none⟩ (.int .i64 r.sq)).setCell ⟨gR, 2, none⟩ (.int .i64 r.ep)).setCell ⟨gR, 3, none⟩ (.int .i64 r.ps)).setCell ⟨gR, 4, none⟩ (.int .i64 r.nm)).setCell ⟨gR, 5, none⟩ (.int .i64 r.i.z)).setCell ⟨gR, 6, none⟩ (.int .i64 r.i.wh)).setCell ⟨gR, 7, none⟩ (.slice r.i.A r.i.l.length r.i.c))).heap.size := by simp; exact Nat.lt_of_lt_of_le (Nat.lt_of_lt_of_le lA hb6.size) hbB.size
   obtain ⟨-, n0', n1', n2', n3', n4', n5', n6', n7'⟩ := hS3
   refine hK.out _ _ ⟨HF.out _ hEb, cells_8 hgb n0' (.int .i64 r.kd) (.int .i64 r.sq) (.int .i64 r.ep) (.int .i64 r.ps) (.int .i64 r.nm) (.int .i64 r.i.z) (.int .i64 r.i.wh) (.slice r.i.A r.i.l.length r.i.c), cells_8 hgb n1' (.int .i64 r.kd) (.int .i64 r.sq) (.int .i64 r.ep) (.int .i64 r.ps) (.int .i64 r.nm) (.int .i64 r.i.z) (.int .i64 r.i.wh) (.slice r.i.A r.i.l.length r.i.c), cells_8 hgb n2' (.int .i64 r.kd) (.int .i64 r.sq) (.int .i64 r.ep) (.int .i64 r.ps) (.int .i64 r.nm) (.int .i64 r.i.z) (.int .i64 r.i.wh) (.slice r.i.A r.i.l.length r.i.c), cells_8 hgb n3' (.int .i64 r.kd) (.int .i64 r.sq) (.int .i64 r.ep) (.int .i64 r.ps) (.int .i64 r.nm) (.int .i64 r.i.z) (.int .i64 r.i.wh) (.slice r.i.A r.i.l.length r.i.c), cells_8 hgb n4' (.int .i64 r.kd) (.int .i64 r.sq) (.int .i64 r.ep) (.int .i64 r.ps) (.int .i64 r.nm) (.int .i64 r.i.z) (.int .i64 r.i.wh) (.slice r.i.A r.i.l.length r.i.c), cells_8 hgb n5' (.int .i64 r.kd) (.int .i64 r.sq) (.int .i64 r.ep) (.int .i64 r.ps) (.int .i64 r.nm) (.int .i64 r.i.z) (.int .i64 r.i.wh) (.slice r.i.A r.i.l.length r.i.c), cells_8 hgb n6' (.int .i64 r.kd) (.int .i64 r.sq) (.int .i64 r.ep) (.int .i64 r.ps) (.int .i64 r.nm) (.int .i64 r.i.z) (.int .i64 r.i.wh) (.slice r.i.A r.i.l.length r.i.c), cells_8 hgb n7' (.int .i64 r.kd) (.int .i64 r.sq) (.int .i64 r.ep) (.int .i64 r.ps) (.int .i64 r.nm) (.int .i64 r.i.z) (.int .i64 r.i.wh) (.slice r.i.A r.i.l.length r.i.c)⟩ (fun hS4 => ?_)
   clear hK K hS4 hEb n0' n1' n2' n3' n4' n5' n6' n7' f0 f1 f2 f3 f4 f5 f6 f7 z0' z1' z2' z3' z4' z5' z6' z7' PB P6 PZ RZ R6 HF HRS hHeld hd0 hT6
   try simp only [Act.put, List.setIfInBounds_toArray, List.set_cons_zero, List.set_cons_succ]
   refine wpAnyH_done (by kernel_rfl) ?_ _
   have hrd := HQQ.out.1
   clear HQQ
   generalize ((((((((wB.setCell ⟨gR, 0, none⟩ (.int .i64 r.kd)).setCell ⟨gR, 1, none⟩ (.int .i64 r.sq)).setCell ⟨gR, 2, none⟩ (.int .i64 r.ep)).setCell ⟨gR, 3, none⟩ (.int .i64 r.ps)).setCell ⟨gR, 4, none⟩ (.int .i64 r.nm)).setCell ⟨gR, 5, none⟩ (.int .i64 r.i.z)).setCell ⟨gR, 6, none⟩ (.int .i64 r.i.wh)).setCell ⟨gR, 7, none⟩ (.slice r.i.A r.i.l.length r.i.c)) = wE at *
   go_upto_region 9 with fail
   have HRO := Lib.hid (HREC.out k)
   have hNG := HMG.out wE (hbr.trans (hE6.mono lw))
   obtain ⟨B0, hB0⟩ : ∃ B, B = writB l a 0 ep (tds t.ts) k := ⟨_, rfl⟩
   obtain ⟨B1, hB1⟩ : ∃ B, B = writB l a 1 ep (tds t.ts) k := ⟨_, rfl⟩
   have hsq : r.sq = (recAt l ep (tds t.ts) k).sq := congrArg Rcd.sq hrd
   have e0 : sel.enc (cellN l a 0 k) r.sq.toNat (encR r.d) = B0 := by rw [hB0, hsq, hrd, writB]
   have e1 : sel.enc (cellN l a 1 k) r.sq.toNat (encR r.d) = B1 := by rw [hB1, hsq, hrd, writB]
   have n0 : (encR r.d).length + 11 = B0.length := by rw [← e0, sel.enc_length]
   have n1 : (encR r.d).length + 11 = B1.length := by rw [← e1, sel.enc_length]
   have HRD := Lib.hid (show RecOk z d r.d by rw [hrd]; exact HRO.out)
   have HC0 := Lib.hid (show ∀ W, BIn W W.heap.size r.i → Calls Tryz.prog 38 #[.agg #[.int .i64 z, .int .i64 d, .int .i64 s, .int .i64 l, .int .i64 a], .agg #[.int .i64 r.kd, .int .i64 r.sq, .int .i64 r.ep, .int .i64 r.ps, .int .i64 r.nm, .int .i64 r.i.z, .int .i64 r.i.wh, .slice r.i.A r.i.l.length r.i.c], .int .i64 0, .int .i64 (k : Int)] W fun e w' => BytO W.heap.size B0.length B0 e w' ∧ Below W.heap.size W w' from fun W hW => by
    have h9 := rrec_own z d s l a 0 k r _ _ W HO.out hW rfl HRD.out ⟨.inl rfl, by omega, by omega⟩ rfl
    rw [e0, n0] at h9
    exact h9)
   have HC1 := Lib.hid (show ∀ W, BIn W W.heap.size r.i → Calls Tryz.prog 38 #[.agg #[.int .i64 z, .int .i64 d, .int .i64 s, .int .i64 l, .int .i64 a], .agg #[.int .i64 r.kd, .int .i64 r.sq, .int .i64 r.ep, .int .i64 r.ps, .int .i64 r.nm, .int .i64 r.i.z, .int .i64 r.i.wh, .slice r.i.A r.i.l.length r.i.c], .int .i64 1, .int .i64 (k : Int)] W fun e w' => BytO W.heap.size B1.length B1 e w' ∧ Below W.heap.size W w' from fun W hW => by
    have h9 := rrec_own z d s l a 1 k r _ _ W HO.out hW rfl HRD.out ⟨.inr rfl, by omega, by omega⟩ rfl
    rw [e1, n1] at h9
    exact h9)
   have HB := Lib.hid (And.intro hB0 hB1)
   clear hB0 hB1 e0 e1 n0 n1 hsq hrd HW
   obtain ⟨r0, r1, r2, r3, r4, r5, r6, r7⟩ := id R7
   clear g0 g1 g2 g3 g4
   obtain ⟨g0, g1, g2, g3, g4⟩ := id hNG
   have h65 : Below w5.heap.size w5 wE := by rw [hgR]; exact hE6
   have hF6 := hOF.below h65
   have hS6 := hOS.below h65
   have hne1 : some gR ≠ u8.ownBlock := fun e => by have := (World.ownsRow.lt hOF.1 gR e.symm).2; omega
   have hne2 : some gR ≠ u9.ownBlock := fun e => by have := (World.ownsRow.lt hOS.1 gR e.symm).2; omega
   have hfar1 : ∀ q, u8.ownBlock = some q → w0.heap.size ≤ q := fun q hq => (World.ownsRow.lt hOF.1 q hq).1
   have hfar2 : ∀ q, u9.ownBlock = some q → w0.heap.size ≤ q := fun q hq => (World.ownsRow.lt hOS.1 q hq).1
   have hbr6 := hbr.trans (hE6.mono lw)
   have l06 : w0.heap.size ≤ wE.heap.size := hbr6.size
   clear hOF hOS
   go_upto_region 10 with (first
    | (go_at_call 38; (with_reducible refine (HC0.out wE (own_binS hro)).mono ?_); rintro e w7 ⟨⟨X0, x0, rfl, o7⟩, hb7⟩; have hF7 := hF6.below hb7; have l07 := Nat.le_trans l06 hb7.size)
    | (at_builtin; refine wpList_rowS _ rfl (.tmp 45) (.tmp 51) _ _ rfl w0.heap.size 2 32 51 (.agg #[.int .i64 0, .slice none 0 0]) Tryz.underlying27 nwt.g_info rfl u8 F.length (gvs F) rfl (World.ownsRow.alloc hF7.1 _) _ 1 _ rfl (src_got (P := Tryz.prog) (heap_alloc_new w7 _) Tryz.underlying27 (by simp [Value.oneCell'])) (by rw [HLF.out]; unfold maxLen; omega) (by rw [HLF.out]; omega) (by simp; omega) ?_; intro v8 w8 h8 hg8 hd8)
    | fail)
   have L7 := bl w7 (.cells #[.int .i64 0, .slice X0 B0.length x0] 51)
   have F8 := (hF7.below L7).more (r := ⟨0, X0, x0, B0⟩) hg8 ((o7.below L7).less l06) h8
   have S8 := keptG ((hS6.below hb7).below L7) (hF7.below L7).1 hg8 hAp.symm
   have A8 := hAp.grown hd8 ((hS6.below hb7).below L7).1
   have R8 := c8_grown (R7.keep (kal hb7 (.cells #[.int .i64 0, .slice X0 B0.length x0] 51)) lR) hg8 hne1
   have b8 : Below w0.heap.size wE w8 := ((hb7.mono l06).alloc l07 (.cells #[.int .i64 0, .slice X0 B0.length x0] 51)).grown hg8 (by simp; omega) hfar1
   have hro8 := ((hro.below hb7).below L7).kept hg8 (row_apart ((hro.below hb7).below L7) (hF7.below L7).1 u8_got)
   have l08 : w0.heap.size ≤ w8.heap.size := Nat.le_trans l06 b8.size
   have lR8 : gR < w8.heap.size := Nat.lt_of_lt_of_le lR b8.size
   clear r0 r1 r2 r3 r4 r5 r6 r7 g0 g1 g2 g3 g4 L7 R7 hF6 hS6 hF7 hro hg8 hd8 h8 o7
   obtain ⟨r0, r1, r2, r3, r4, r5, r6, r7⟩ := id R8
   obtain ⟨g0, g1, g2, g3, g4⟩ := HMG.out w8 (hbr6.trans b8)
   go_upto_region 4 with (first
    | (go_at_call 38; (with_reducible refine (HC1.out w8 (own_binS hro8)).mono ?_); rintro e w9 ⟨⟨X1, x1, rfl, o9⟩, hb9⟩; have hS9 := S8.below hb9; have l09 := Nat.le_trans l08 hb9.size)
    | (at_builtin; refine wpList_rowS _ rfl (.tmp 53) (.tmp 59) _ _ rfl w0.heap.size 2 32 51 (.agg #[.int .i64 0, .slice none 0 0]) Tryz.underlying27 nwt.g_info rfl u9 S.length (gvs S) rfl (World.ownsRow.alloc hS9.1 _) _ 1 _ rfl (src_got (P := Tryz.prog) (heap_alloc_new w9 _) Tryz.underlying27 (by simp [Value.oneCell'])) (by rw [HLS.out]; unfold maxLen; omega) (by rw [HLS.out]; omega) (by simp; omega) ?_; intro vA wA9 hA hgA hdA)
    | fail)
   have L9 := bl w9 (.cells #[.int .i64 0, .slice X1 B1.length x1] 51)
   have SA := (hS9.below L9).more (r := ⟨0, X1, x1, B1⟩) hgA ((o9.below L9).less l08) hA
   have FA := keptG ((F8.below hb9).below L9) (hS9.below L9).1 hgA A8
   have AA := (A8.symm.grown hdA ((F8.below hb9).below L9).1).symm
   have bA : Below w0.heap.size w8 wA9 := ((hb9.mono l08).alloc l09 (.cells #[.int .i64 0, .slice X1 B1.length x1] 51)).grown hgA (by simp; omega) hfar2
   have HFI := Lib.hid (show gds (F ++ [⟨0, X0, x0, B0⟩]) = (writF l a 0 ep (tds t.ts)).take (k + 1) ∧ gds (S ++ [⟨0, X1, x1, B1⟩]) = (writF l a 1 ep (tds t.ts)).take (k + 1) from ⟨by rw [gds_append, HKF.out, take_writ hlt, HB.out.1]; rfl, by rw [gds_append, HKS.out, take_writ hlt, HB.out.2]; rfl⟩)
   go_wp2_with fail
   rw [← hTA]
   go_roundw
   case rel => exact ⟨k + 1, F ++ [⟨0, X0, x0, B0⟩], S ++ [⟨0, X1, x1, B1⟩], by omega, by go_num, HFI.out.1, HFI.out.2, FA, SA, AA, hbr6.trans (b8.trans bA)⟩
   case measure => simp [RowKit.intOf]; omega
end Go.Proofs.YtbfdpibjicjagaaGreatDoor.scn
namespace Go.Proofs.YtbfdpibjicjagaaGreatDoor.scn
open Go.RowKit Go.Lib
open Go.Proofs.YtbfdpibjicjagaaGreatDoor.anc (bl kal kst ks bm ka row_apart row_form row_below)
open Go.Proofs.YtbfdpibjicjagaaGreatDoor.nwt (GV GotR gvs gds gvs_length gds_length gvs_append gvs_one BIn GIn)
def OwnWr (w : World) (base : Nat) (v : Value) (rs : List GotR) : Prop :=
 w.ownsRow base 56 2 v rs.length (gvs rs) ∧ ∀ r ∈ rs, Own w base 5 (.slice r.A r.l.length r.c) r.l
theorem u8_wri : 5 ≠ 56 := by decide
theorem wri_info : (Tryz.prog.info? 56).map (fun i => (i.zero, i.size, i.bytes)) = some (some (.agg #[.int .i64 0, .slice none 0 0]), 2, 32) := by kernel_rfl
theorem src_wrs {P : Program} {w : World} {B : Nat} {A : Option Addr} {ws : List GotR} (h : SlV w B A (gvs ws)) {tx e' : TypeId} (hk : P.underlying tx = some (.slice e')) (c : Nat) : Src P 2 tx (.slice A ws.length c) ws.length (gvs ws) w := by
 by_cases hl : 0 < ws.length
 ·obtain ⟨b, off, rfl, _, hc⟩ := h (by rw [gvs_length]; omega)
  refine Src.ofSlice w hk _ _ _ _ (gvs_length ws) (fun j u hu => ?_) (gvs_one ws)
  obtain ⟨hj, rfl⟩ := List.getElem?_eq_some_iff.1 hu
  rw [Addr.add_lit, hc j hj]
 ·have : ws = [] := List.eq_nil_of_length_eq_zero (by omega)
  subst this
  cases A with
  | none => exact Src.ofNil w hk c
  | some a => exact Src.ofSlice w hk a 0 c [] rfl (fun j u hu => by simp at hu) (fun _ h => by cases h)
section
variable {w w' : World} {base : Nat} {v v' : Value} {rs : List GotR}
theorem ownWr_nil (w : World) (base : Nat) : OwnWr w base (.slice none 0 0) [] := ⟨World.ownsRow_nil w base _ 2, fun r hr => by cases hr⟩
theorem OwnWr.below (h : OwnWr w base v rs) (hb : Below w.heap.size w w') : OwnWr w' base v rs := ⟨row_below h.1 hb, fun r hr => (h.2 r hr).below hb⟩
theorem OwnWr.less {base' : Nat} (h : OwnWr w base v rs) (hb : base' ≤ base) : OwnWr w base' v rs := by
 refine ⟨⟨h.1.1, ?_⟩, fun r hr => (h.2 r hr).less hb⟩
 rcases h.1.2 with k | ⟨g, cap, cur, a, b, c⟩
 ·exact .inl k
 ·exact .inr ⟨g, cap, cur, a, by omega, c⟩
theorem OwnWr.far (h : OwnWr w base v rs) : ∀ q, v.ownBlock = some q → base ≤ q := fun q hq => (World.ownsRow.lt h.1 q hq).1
theorem OwnWr.kept {row : Option Nat} (h : OwnWr w base v rs) (hg : w.grownBy w' row) (h1 : v.ownBlock = none ∨ v.ownBlock ≠ row) (h2 : ∀ r ∈ rs, (Value.slice r.A r.l.length r.c).ownBlock = none ∨ (Value.slice r.A r.l.length r.c).ownBlock ≠ row) : OwnWr w' base v rs :=
 ⟨World.ownsRow.kept h.1 hg h1, fun r hr => (h.2 r hr).kept hg (h2 r hr)⟩
theorem OwnWr.app {ws : List GotR} (h : OwnWr w base v rs) (hg : w.grownBy w' v.ownBlock) (hp : ∀ r ∈ ws, Own w base 5 (.slice r.A r.l.length r.c) r.l) (h' : w'.ownsRow base 56 2 v' (rs.length + ws.length) (gvs rs ++ gvs ws)) : OwnWr w' base v' (rs ++ ws) := by
 have hk : ∀ {q : GotR}, Own w base 5 (.slice q.A q.l.length q.c) q.l → Own w' base 5 (.slice q.A q.l.length q.c) q.l := fun hq => hq.kept hg (row_apart hq h.1 u8_wri)
 refine ⟨?_, fun x hx => ?_⟩
 ·rw [List.length_append, gvs_append]
  exact h'
 ·rcases List.mem_append.1 hx with k | k
  ·exact hk (h.2 x k)
  ·exact hk (hp x k)
theorem OwnWr.more {r : GotR} (h : OwnWr w base v rs) (hg : w.grownBy w' v.ownBlock) (hp : Own w base 5 (.slice r.A r.l.length r.c) r.l) (h' : w'.ownsRow base 56 2 v' (rs.length + 1) (gvs rs ++ r.vs)) : OwnWr w' base v' (rs ++ [r]) :=
 h.app (ws := [r]) hg (fun x hx => by obtain rfl := List.mem_singleton.1 hx; exact hp) (by simpa [gvs] using h')
theorem OwnWr.cell_set {g o : Nat} (h : OwnWr w base v rs) (hg : g < base) (x : Value) : OwnWr (w.setCell ⟨g, o, none⟩ x) base v rs := by
 have hne : ∀ {e : TypeId} {u : Value} {k n : Nat} {xs : List Value}, w.ownsRow base e k u n xs → u.ownBlock ≠ some g := fun hu k => by have := (World.ownsRow.lt hu g k).1; omega
 exact ⟨ownsRow_setCell_other h.1 (hne h.1) x, fun r hr => ownsRow_setCell_other (h.2 r hr) (hne (h.2 r hr)) x⟩
theorem ownWr_gv (h : OwnWr w base v rs) : ∃ g : GV, v = .slice g.A g.rs.length g.c ∧ g.rs = rs ∧ g.In w w.heap.size ∧ OwnWr w base (.slice g.A g.rs.length g.c) g.rs := by
 obtain ⟨A, c, hv, h1, h2, hs⟩ := row_form h.1
 exact ⟨⟨A, c, rs⟩, hv, rfl, ⟨hs, fun r hr => nwt.own_bin (h.2 r hr), h1, h2⟩, hv ▸ h⟩
end
end Go.Proofs.YtbfdpibjicjagaaGreatDoor.scn
namespace Go.Proofs.YtbfdpibjicjagaaGreatDoor.scn
open Go.RowKit Go.Lib
open Go.Proofs.YtbfdpibjicjagaaGreatDoor.anc (bl kal kst ks bm ka)
open Go.Proofs.YtbfdpibjicjagaaGreatDoor.rng (XV TxR Txd tds tvs TIn txn_at tds_length)
open Go.Proofs.YtbfdpibjicjagaaGreatDoor.img
def TSmall (ts : List TxR) : Prop := ∀ r ∈ ts, r.rs.length ≤ 1048576 ∧ IShort 1048576 r.rs
theorem txns_same (A A' : Option Addr) (c c' m n : Nat) (a b : List TxR) (w : World) (ha : a.length = m) (hb : b.length = n) (hA : SlV w w.heap.size A (tvs a)) (hA' : SlV w w.heap.size A' (tvs b)) (hR : TIn w w.heap.size a) (hR' : TIn w w.heap.size b) (hn : m ≤ 1048576) (hs : TSmall a) (he : tds a = tds b) :
  Calls Tryz.prog 19 #[.slice A m c, .slice A' n c'] w fun e w' => e = .returned (.bool true) ∧ Below w.heap.size w w' := by
 have hmn : m = n := by have := congrArg List.length he; rw [tds_length, tds_length, ha, hb] at this; exact this
 subst hmn
 have h2 : ((m : Int) != (m : Int)) = false := bne_self_eq_false _
 have HE := Lib.hid he
 clear he
 go_enter Tryz.func19, Tryz.ntmps19
 go_upto_region 4 with fail
 go_loopw [5] (fun i w' => ∃ k : Nat, k ≤ m ∧ i = .int .i64 k ∧ Below w.heap.size w w') (fun i _ => m - (RowKit.intOf i).toNat)
 case atStart => exact ⟨0, by omega, rfl, Below.refl _ _⟩
 case round =>
  obtain ⟨w5, rfl⟩ : ∃ x, x = wr := ⟨wr, rfl⟩
  obtain ⟨k, hk, rfl, hbr⟩ := hrel
  by_cases hlt : k < m
  ·obtain ⟨b1, off, x, rfl, hb1, p0, p1, p2, p3, m1, hx, -, e1⟩ := txn_at (hA.below hbr) (hR.below hbr) (show k < a.length by omega)
   obtain ⟨b2, off', y, rfl, hb2, q0, q1, q2, q3, m2, -, -, e2⟩ := txn_at (hA'.below hbr) (hR'.below hbr) (show k < b.length by omega)
   have i1 : (k : Int) < (m : Int) := by omega
   have m3 := hs _ hx
   have lw := hbr.size
   have hxy : x.d = y.d := by
    rw [HE.out, e2] at e1
    exact (Option.some.inj e1).symm
   have y0 : y.sq = x.sq := (congrArg Txd.sq hxy).symm
   have y1 : y.ps = x.ps := (congrArg Txd.ps hxy).symm
   have y2 : y.nm = x.nm := (congrArg Txd.nm hxy).symm
   have y3 : ids x.rs = ids y.rs := congrArg Txd.ims hxy
   rw [y0] at q0
   rw [y1] at q1
   rw [y2] at q2
   have HI := Lib.hid (show ∀ W, Below w5.heap.size w5 W → Calls Tryz.prog 39 #[.slice x.A x.rs.length x.c, .slice y.A y.rs.length y.c] W fun e w' => e = .returned (.bool true) ∧ Below W.heap.size W w' from fun W hW => by
    have h9 := imgs_any x.A y.A x.c y.c _ _ x.rs y.rs W rfl rfl ((m1.more lw).next hW).h ((m2.more lw).next hW).h ((m1.more lw).next hW).i ((m2.more lw).next hW).i m3.1 m3.2
    rw [decide_eq_true y3] at h9
    exact h9)
   have hb1' : b1 < w5.heap.size := Nat.lt_of_lt_of_le hb1 lw
   have hb2' : b2 < w5.heap.size := Nat.lt_of_lt_of_le hb2 lw
   have HF := Lib.hid (show ∀ W, Below w5.heap.size w5 W → (W.cell? ⟨b1, off + k * 4, none⟩ = some (.int .i64 x.sq) ∧ W.cell? ⟨b1, off + k * 4 + 1, none⟩ = some (.int .i64 x.ps) ∧ W.cell? ⟨b1, off + k * 4 + 2, none⟩ = some (.int .i64 x.nm) ∧ W.cell? ⟨b1, off + k * 4 + 3, none⟩ = some (.slice x.A x.rs.length x.c) ∧ W.cell? ⟨b2, off' + k * 4, none⟩ = some (.int .i64 x.sq) ∧ W.cell? ⟨b2, off' + k * 4 + 1, none⟩ = some (.int .i64 x.ps) ∧ W.cell? ⟨b2, off' + k * 4 + 2, none⟩ = some (.int .i64 x.nm) ∧ W.cell? ⟨b2, off' + k * 4 + 3, none⟩ = some (.slice y.A y.rs.length y.c)) ∧ Below w5.heap.size w5 W from fun W h => ⟨⟨ks h hb1' p0, ks h hb1' p1, ks h hb1' p2, ks h hb1' p3, ks h hb2' q0, ks h hb2' q1, ks h hb2' q2, ks h hb2' q3⟩, h⟩)
   have n0 : (x.sq != x.sq) = false := bne_self_eq_false _
   have n1 : (x.ps != x.ps) = false := bne_self_eq_false _
   have n2 : (x.nm != x.nm) = false := bne_self_eq_false _
   have hd0 := below_dr (Below.refl w5.heap.size w5)
   clear m1 m2 m3 e1 e2 hA hA' hR hR' hs ha hb hx hxy y0 y1 y2 y3 h2
   go_upto_region 6 with fail
   clear p0 p1 p2 p3 q0 q1 q2 q3
   go_region_held3 (fun W => (W.cell? ⟨b1, off + k * 4, none⟩ = some (.int .i64 x.sq) ∧ W.cell? ⟨b1, off + k * 4 + 1, none⟩ = some (.int .i64 x.ps) ∧ W.cell? ⟨b1, off + k * 4 + 2, none⟩ = some (.int .i64 x.nm) ∧ W.cell? ⟨b1, off + k * 4 + 3, none⟩ = some (.slice x.A x.rs.length x.c) ∧ W.cell? ⟨b2, off' + k * 4, none⟩ = some (.int .i64 x.sq) ∧ W.cell? ⟨b2, off' + k * 4 + 1, none⟩ = some (.int .i64 x.ps) ∧ W.cell? ⟨b2, off' + k * 4 + 2, none⟩ = some (.int .i64 x.nm) ∧ W.cell? ⟨b2, off' + k * 4 + 3, none⟩ = some (.slice y.A y.rs.length y.c)) ∧ Below w5.heap.size w5 W)
    ((refine HF.out _ ?_; first
     | with_reducible exact hbx
     | with_reducible exact hd0
     | fail))
    (first
     | (go_at_call 39; (with_reducible refine (HI.out _ hd0).mono ?_); rintro e wx ⟨rfl, hbq⟩; have hbx := bt hd0 hbq; clear hbq)
     | fail)
   have hbw := bt hbr hbx
   go_wp2_with fail
   go_roundw
   case rel => exact ⟨k + 1, by omega, by go_num, hbw⟩
   case measure => simp [RowKit.intOf]; omega
  ·have i1 : ¬ (k : Int) < (m : Int) := by omega
   go_wp2_with fail
   go_ret
   exact ⟨rfl, hbr⟩
end Go.Proofs.YtbfdpibjicjagaaGreatDoor.scn
namespace Go.Proofs.YtbfdpibjicjagaaGreatDoor.scn
open Go.RowKit Go.Lib
open Go.Proofs.YtbfdpibjicjagaaGreatDoor.anc (bl kal kst ks bm ka row_form row_below flat_set row_apart)
open Go.Proofs.YtbfdpibjicjagaaGreatDoor.nwt (GV GotR gds gvs gds_length gvs_length got_at OwnG u8_got)
open Go.Proofs.YtbfdpibjicjagaaGreatDoor.gmt (Ok)
open Go.Proofs.YtbfdpibjicjagaaGreatDoor.rng (XV TxR Txd tds tvs TIn LogOk)
structure ByT (w : World) (p q : Nat) (r : GotR) : Prop where
 h : nwt.BIn w w.heap.size r
 f : ∀ a, r.A = some a → 0 < r.l.length → a.block ≠ p ∧ a.block ≠ q
section
variable {w w' : World} {p q : Nat} {r : GotR}
theorem ByT.next (h : ByT w p q r) (hb : Below w.heap.size w w') : ByT w' p q r := ⟨h.h.next hb, h.f⟩
theorem ByT.set {o : Nat} {b : Nat} (h : ByT w p q r) (hb : b = p ∨ b = q) (v : Value) : ByT (w.setCell ⟨b, o, none⟩ v) p q r := by
 refine ⟨⟨fun hl => ?_, h.h.2⟩, h.f⟩
 obtain ⟨b', off, hA, hb', hc⟩ := h.h.1 hl
 have hf := h.f _ hA hl
 have hne : b' ≠ b := by
  rcases hb with rfl | rfl
  ·exact hf.1
  ·exact hf.2
 refine ⟨b', off, hA, by rw [World.size_setCell]; exact hb', fun j hj => ?_⟩
 rw [World.cell?_setCell_other _ _ _ _ (by simp only [ne_eq, Addr.mk.injEq, not_and]; intro k; exact absurd k.symm hne)]
 exact hc j hj
theorem byT_nil (w : World) (p q : Nat) (e : Int) (c : Nat) (hc : c ≤ maxLen) : ByT w p q ⟨e, none, c, []⟩ := ⟨⟨fun h => absurd h (by simp), by simp, hc⟩, fun a ha => by cases ha⟩
theorem byT_own {base : Nat} {e : TypeId} {v : Int} {X : Option Addr} {n c : Nat} {L : List UInt8} (h : Own w base e (.slice X n c) L) (hp : p < base) (hq : q < base) : ByT w p q ⟨v, X, c, L⟩ := by
 obtain ⟨A, c', hv, h1, h2, hs, hf⟩ := h.form
 simp only [Value.slice.injEq] at hv
 obtain ⟨rfl, rfl, rfl⟩ := hv
 exact ⟨⟨hs, by show L.length ≤ c; omega, by show c ≤ maxLen; omega⟩, fun a ha _ => by have := hf a ha; omega⟩
theorem ByT.sw (h : ByT w p q r) : ByT w q p r := ⟨h.h, fun a ha hl => (h.f a ha hl).symm⟩
theorem ByT.err (h : ByT w p q r) (e : Int) : ByT w p q { r with e := e } := ⟨h.h, h.f⟩
end
structure TwoR (w : World) (base p cp q cq n : Nat) (F S : List GotR) : Prop where
 f : w.ownsRow base 51 2 (.slice (some ⟨p, 0, none⟩) n cp) n (gvs F)
 s : w.ownsRow base 51 2 (.slice (some ⟨q, 0, none⟩) n cq) n (gvs S)
 lF : F.length = n
 lS : S.length = n
 ne : p ≠ q
 bf : ∀ r ∈ F, ByT w p q r
 bs : ∀ r ∈ S, ByT w p q r
section
variable {w w' : World} {base p cp q cq n : Nat} {F S : List GotR}
theorem TwoR.below (h : TwoR w base p cp q cq n F S) (hb : Below w.heap.size w w') : TwoR w' base p cp q cq n F S :=
 ⟨row_below h.f hb, row_below h.s hb, h.lF, h.lS, h.ne, fun r hr => (h.bf r hr).next hb, fun r hr => (h.bs r hr).next hb⟩
theorem TwoR.swap (h : TwoR w base p cp q cq n F S) : TwoR w base q cq p cp n S F :=
 ⟨h.s, h.f, h.lS, h.lF, h.ne.symm, fun r hr => ⟨(h.bs r hr).h, fun a ha hl => ((h.bs r hr).f a ha hl).symm⟩, fun r hr => ⟨(h.bf r hr).h, fun a ha hl => ((h.bf r hr).f a ha hl).symm⟩⟩
theorem TwoR.lt1 (h : TwoR w base p cp q cq n F S) : base ≤ p ∧ p < w.heap.size := World.ownsRow.lt h.f p rfl
theorem TwoR.lt2 (h : TwoR w base p cp q cq n F S) : base ≤ q ∧ q < w.heap.size := World.ownsRow.lt h.s q rfl
theorem TwoR.fz (h : TwoR w base p cp q cq n F S) (j : Nat) : w.frozen? ⟨p, j, none⟩ = false := World.ownsRow.frozenAt h.f j
theorem TwoR.slF (h : TwoR w base p cp q cq n F S) : GV.In w w.heap.size ⟨some ⟨p, 0, none⟩, cp, F⟩ := by
 obtain ⟨A, c, hv, h1, h2, hs⟩ := row_form h.f
 simp only [Value.slice.injEq] at hv
 obtain ⟨rfl, -, rfl⟩ := hv
 exact ⟨hs, fun r hr => (h.bf r hr).h, by show F.length ≤ cp; rw [h.lF]; exact h1, h2⟩
theorem TwoR.slS (h : TwoR w base p cp q cq n F S) : GV.In w w.heap.size ⟨some ⟨q, 0, none⟩, cq, S⟩ := h.swap.slF
theorem TwoR.atF (h : TwoR w base p cp q cq n F S) {j : Nat} (hj : j < n) : ∃ r, F[j]? = some r ∧ r ∈ F ∧ ByT w p q r ∧ w.cell? ⟨p, j * 2, none⟩ = some (.int .i64 r.e) ∧ w.cell? ⟨p, j * 2 + 1, none⟩ = some (.slice r.A r.l.length r.c) := by
 obtain ⟨b, off, r, hA, -, c0, c1, -, hm, hr, -⟩ := got_at h.slF.h h.slF.i (k := j) (by show j < F.length; rw [h.lF]; exact hj)
 simp only [Option.some.injEq, Addr.mk.injEq, and_true] at hA
 obtain ⟨rfl, rfl⟩ := hA
 rw [Nat.zero_add] at c0 c1
 exact ⟨r, hr, hm, h.bf r hm, c0, c1⟩
theorem TwoR.set0 (h : TwoR w base p cp q cq n F S) {j : Nat} {r : GotR} (hj : F[j]? = some r) (e : Int) : TwoR (w.setCell ⟨p, j * 2, none⟩ (.int .i64 e)) base p cp q cq n (F.set j { r with e := e }) S := by
 have hf : gvs (F.set j { r with e := e }) = (gvs F).set (j * 2 + 0) (.int .i64 e) := flat_set GotR.vs 2 (fun _ => rfl) F j 0 _ _ (by decide) (fun y hy => by
  rw [hj] at hy
  rw [← Option.some.inj hy]
  rfl)
 refine ⟨by rw [hf]; exact (World.ownsRow.stored h.f (j * 2 + 0) _).1, ownsRow_setCell_other h.s (fun k => h.ne (Option.some.inj k).symm) _, by rw [List.length_set]; exact h.lF, h.lS, h.ne, fun x hx => ?_, fun x hx => (h.bs x hx).set (.inl rfl) _⟩
 rcases List.mem_or_eq_of_mem_set hx with k | rfl
 ·exact (h.bf x k).set (.inl rfl) _
 ·exact ((h.bf r (List.mem_of_getElem? hj)).set (.inl rfl) _).err e
theorem TwoR.set1 (h : TwoR w base p cp q cq n F S) {j : Nat} {r : GotR} (hj : F[j]? = some r) {X : Option Addr} {c m : Nat} {L : List UInt8} (hm : L.length = m) (hL : ByT w p q ⟨r.e, X, c, L⟩) : TwoR (w.setCell ⟨p, j * 2 + 1, none⟩ (.slice X m c)) base p cp q cq n (F.set j ⟨r.e, X, c, L⟩) S := by
 subst hm
 have hf : gvs (F.set j ⟨r.e, X, c, L⟩) = (gvs F).set (j * 2 + 1) (.slice X L.length c) := flat_set GotR.vs 2 (fun _ => rfl) F j 1 _ _ (by decide) (fun y hy => by
  rw [hj] at hy
  rw [← Option.some.inj hy]
  rfl)
 refine ⟨by rw [hf]; exact (World.ownsRow.stored h.f (j * 2 + 1) _).1, ownsRow_setCell_other h.s (fun k => h.ne (Option.some.inj k).symm) _, by rw [List.length_set]; exact h.lF, h.lS, h.ne, fun x hx => ?_, fun x hx => (h.bs x hx).set (.inl rfl) _⟩
 rcases List.mem_or_eq_of_mem_set hx with k | rfl
 ·exact (h.bf x k).set (.inl rfl) _
 ·exact hL.set (.inl rfl) _
theorem TwoR.put (h : TwoR w base p cp q cq n F S) {j : Nat} (hj : j < n) {r : GotR} {m : Nat} (hm : r.l.length = m) (hr : ByT w p q r) : TwoR ((w.setCell ⟨p, j * 2, none⟩ (.int .i64 r.e)).setCell ⟨p, j * 2 + 1, none⟩ (.slice r.A m r.c)) base p cp q cq n (F.set j r) S := by
 obtain ⟨r0, h0, -⟩ := h.atF hj
 have h1 := h.set0 h0 r.e
 have h2 := h1.set1 (j := j) (r := { r0 with e := r.e }) (by rw [List.getElem?_set_self (by rw [h.lF]; exact hj)]) (X := r.A) (c := r.c) (L := r.l) hm (hr.set (.inl rfl) _)
 rw [List.set_set] at h2
 exact h2
end
theorem two_own {w : World} {base n : Nat} {F S : GV} (hF : F.Own w base) (hS : S.Own w base) (hAp : Ap F.v S.v) (lF : F.rs.length = n) (lS : S.rs.length = n) (hn : 0 < n) : ∃ p q, F.A = some ⟨p, 0, none⟩ ∧ S.A = some ⟨q, 0, none⟩ ∧ TwoR w base p F.c q S.c n F.rs S.rs := by
 have hrow : ∀ G : GV, G.Own w base → G.rs.length = n → ∃ p, G.A = some ⟨p, 0, none⟩ := fun G hG lG => by
  have h1 : w.ownsRow base 51 2 (.slice G.A G.rs.length G.c) G.rs.length (gvs G.rs) := hG.1
  rcases h1.2 with ⟨e, -⟩ | ⟨g, cap, cur, e, -⟩
  ·simp only [Value.slice.injEq] at e
   omega
  ·simp only [Value.slice.injEq] at e
   exact ⟨g, e.1⟩
 obtain ⟨p, hp⟩ := hrow F hF lF
 obtain ⟨q, hq⟩ := hrow S hS lS
 have hne : p ≠ q := fun e => hAp p (by unfold GV.v; rw [hp]; rfl) (by unfold GV.v; rw [hq, e]; rfl)
 have h1 : w.ownsRow base 51 2 (.slice F.A F.rs.length F.c) F.rs.length (gvs F.rs) := hF.1
 have h2 : w.ownsRow base 51 2 (.slice S.A S.rs.length S.c) S.rs.length (gvs S.rs) := hS.1
 rw [lF, hp] at h1
 rw [lS, hq] at h2
 have hby : ∀ r : GotR, Own w base 5 (.slice r.A r.l.length r.c) r.l → ByT w p q r := fun r hr => by
  refine ⟨nwt.own_bin hr, fun a ha _ => ?_⟩
  have k1 := row_apart hr h1 u8_got
  have k2 := row_apart hr h2 u8_got
  rw [ha] at k1 k2
  obtain ⟨b, off, path⟩ := a
  cases path with
  | some y =>
   obtain ⟨A, c', hv, -, -, hs, -⟩ := hr.form
   simp only [Value.slice.injEq] at hv
   obtain ⟨e1, -, -⟩ := hv
   rw [ha] at e1
   subst e1
   rename_i hl
   obtain ⟨b', off', hA, -, -⟩ := hs hl
   cases hA
  | none =>
   refine ⟨fun e => ?_, fun e => ?_⟩
   ·have e : b = p := e
    subst e
    rcases k1 with k | k
    ·cases k
    ·exact k rfl
   ·have e : b = q := e
    subst e
    rcases k2 with k | k
    ·cases k
    ·exact k rfl
 exact ⟨p, q, hp, hq, h1, h2, lF, lS, hne, fun r hr => hby r (hF.2 r hr), fun r hr => hby r (hS.2 r hr)⟩
theorem wrap_modS (i M : Int) (hM : 0 < M) : ∃ a : Nat, (a : Int) < M ∧ (IntKind.u64.wrap i).tmod M = (a : Int) := by
 obtain ⟨h1, h2⟩ := gmt.wrap_mod i M hM
 exact ⟨((IntKind.u64.wrap i).tmod M).toNat, by omega, by omega⟩
theorem writF_short {z d s' l a pos sq ep cp : Int} {ts : List Txd} (ho : Ok z d s' l a) (hp : 0 ≤ pos ∧ pos < l) (h : LogOk z d l pos sq 0 ts) (hq : 0 ≤ sq) (he : lrc.NumOk ep) {F : List nwt.GotR} (hF : nwt.gds F = writF l a cp ep ts) : nwt.GShort 1048576 F := fun r hr => by
 have h1 : r.d ∈ writF l a cp ep ts := by rw [← hF]; exact List.mem_map.2 ⟨r, hr, rfl⟩
 unfold writF at h1
 obtain ⟨k, -, hk⟩ := List.mem_map.1 h1
 have h2 : r.l = writB l a cp ep ts k := (congrArg Prod.snd hk).symm
 have h3 := lrc.encR_short (recAt_ok ho.2.2.2.1 hp h hq he (k : Int)) ⟨ho.2.1.1, ho.2.1.2⟩
 rw [h2, writB, sel.enc_length]
 omega
theorem slv_pre {w : World} {B : Nat} {A : Option Addr} {u v : List Value} (h : SlV w B A (u ++ v)) : SlV w B A u := fun hp => by
 obtain ⟨b, off, hA, hb, hc⟩ := h (by rw [List.length_append]; omega)
 exact ⟨b, off, hA, hb, fun j hj => by
  have h9 := hc j (by rw [List.length_append]; omega)
  rwa [List.getElem_append_left hj] at h9⟩
theorem log_len {z d l : Int} (hl : l ≤ 30) {ts : List Txd} {pos sq : Int} (h : LogOk z d l pos sq 0 ts) (h0 : 0 ≤ l) : ts.length ≤ 15 := by
 have h1 := offN_le h h0
 have h2 : ∀ (ts : List Txd) (p s u : Int), LogOk z d l p s u ts → 2 * (ts.length : Int) ≤ rng.offN ts ts.length := by
  intro ts
  induction ts with
  | nil => intro p s u _; exact Int.le_refl 0
  | cons y t ih =>
   intro p s u h
   have := ih _ _ _ h.2.2
   have e5 := h.1.2.2.2.2.1
   have eo : rng.offN (y :: t) (y :: t).length = y.nm + rng.offN t t.length := by simp [rng.offN]
   rw [eo, List.length_cons]
   omega
 have := h2 ts _ _ _ h
 omega
end Go.Proofs.YtbfdpibjicjagaaGreatDoor.scn
namespace Go.Proofs.YtbfdpibjicjagaaGreatDoor.scn
open Go.RowKit Go.Lib
open Go.Proofs.YtbfdpibjicjagaaGreatDoor.gmt (Ok)
open Go.Proofs.YtbfdpibjicjagaaGreatDoor.anc (AV bl kal kst ks bm ka)
open Go.Proofs.YtbfdpibjicjagaaGreatDoor.rng (XV Txd tds)
open Go.Proofs.YtbfdpibjicjagaaGreatDoor.nwt (GV GotR gds gvs GShort)
def ScanA (base : Nat) (r : List Txd × List (Int × List UInt8) × Int) (e : Ending) (w' : World) : Prop := ∃ (T : XV) (U : GV), e = .returned (.tuple #[.slice T.A T.ts.length T.c, .slice U.A U.rs.length U.c, .int .i64 r.2.2]) ∧ tds T.ts = r.1 ∧ gds U.rs = r.2.1 ∧ T.In w' w'.heap.size ∧ U.In w' w'.heap.size ∧ rng.OwnT w' base (.slice T.A T.ts.length T.c) T.ts ∧ OwnWr w' base (.slice U.A U.rs.length U.c) U.rs
structure Csc (w : World) : Prop where
 scan : ∀ (z d s l a : Int) (x : AV) (F S : GV) (n m : Nat) (W : World), Below w.heap.size w W → Ok z d s l a → x.In W W.heap.size → x.lab.size ≤ 4294967295 → anc.Good z d s l x.d → F.In W W.heap.size → F.rs.length = n → GShort 1048576 F.rs → S.In W W.heap.size → S.rs.length = m → GShort 1048576 S.rs → (n : Int) = l → (m : Int) = l → Calls Tryz.prog 13 #[.agg #[.int .i64 z, .int .i64 d, .int .i64 s, .int .i64 l, .int .i64 a], .agg #[.int .i64 x.gen, .int .i64 x.ep, .int .i64 x.pos, .int .i64 x.seq, .int .i64 x.last, .string x.lab, .slice x.HA x.hs.length x.hc], .slice F.A n F.c, .slice S.A m S.c] W fun e w' => ScanA W.heap.size (scanN z d l a x.ep x.last x.pos x.seq (gds F.rs) (gds S.rs)) e w' ∧ Below W.heap.size W w'
 scan_no : ∀ (v : Int) (z d s l a : Int) (x : AV) (F S : GV) (n m : Nat) (W : World), Below w.heap.size w W → x.In W W.heap.size → x.lab.size ≤ 4294967295 → x.hs.length ≤ 1048576 → F.In W W.heap.size → F.rs.length = n → S.In W W.heap.size → S.rs.length = m → n ≤ 1048576 → m ≤ 1048576 → (¬ (Ok z d s l a ∧ anc.Good z d s l x.d) ∧ v = 1 ∨ (Ok z d s l a ∧ anc.Good z d s l x.d) ∧ ¬ ((n : Int) = l ∧ (m : Int) = l) ∧ v = 2) → Calls Tryz.prog 13 #[.agg #[.int .i64 z, .int .i64 d, .int .i64 s, .int .i64 l, .int .i64 a], .agg #[.int .i64 x.gen, .int .i64 x.ep, .int .i64 x.pos, .int .i64 x.seq, .int .i64 x.last, .string x.lab, .slice x.HA x.hs.length x.hc], .slice F.A n F.c, .slice S.A m S.c] W fun e w' => ScanA W.heap.size ([], [], v) e w' ∧ Below W.heap.size W w'
theorem Csc.more {w w' : World} (k : Csc w) (hb : Below w.heap.size w w') : Csc w' where
 scan := fun z d s l a x F S n m W hW => k.scan z d s l a x F S n m W (bt hb hW)
 scan_no := fun v z d s l a x F S n m W hW => k.scan_no v z d s l a x F S n m W (bt hb hW)
end Go.Proofs.YtbfdpibjicjagaaGreatDoor.scn
