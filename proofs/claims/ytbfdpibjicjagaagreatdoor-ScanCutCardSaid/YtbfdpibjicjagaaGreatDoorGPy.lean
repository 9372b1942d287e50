/-
  The developers' Is: whether a record is the one that is looked for. Conditions: none.
  The developers' Says: what a reading says, by the answers of geom.Log, seal.Open and rec.Read. Conditions: each law's own.
  The developers' Look: what both copies of a slot come to, by the answers of anchor.Check, geom.Log, Says and Is. Conditions: each law's own.
  What the laws of package pair ask of its functions holds of the developers' code, in every world in which the tables lie as their text lays them. Conditions: none but that.
-/
import Derived.Test.YtbfdpibjicjagaaGreatDoorGPp
import Derived.Test.YtbfdpibjicjagaaGreatDoorEnS
import Derived.Test.YtbfdpibjicjagaaGreatDoorGSl
import Derived.Test.YtbfdpibjicjagaaGreatDoorGGm
import Derived.Test.YtbfdpibjicjagaaGreatDoorGRy
import Derived.Test.YtbfdpibjicjagaaGreatDoorKeepRows
import Derived.IntWalk
import Derived.Test.YtbfdpibjicjagaaGreatDoorGAu
set_option maxHeartbeats 8000000
set_option maxRecDepth 100000
namespace Go.Proofs.YtbfdpibjicjagaaGreatDoor.prr
open Go.RowKit Go.Lib
open Go.Proofs.YtbfdpibjicjagaaGreatDoor.gmt (Ok)
open Go.Proofs.YtbfdpibjicjagaaGreatDoor.anc (AV AC ac_new bl kal kst ks bm ka)
open Go.Proofs.YtbfdpibjicjagaaGreatDoor.lrc (Rcd RcR C8 c8_new)
theorem isY_c (b : Bool) (r : RcR) (n : Nat) (x : AV) (sq at' of left : Int) (w : World) (hE : r.kd ≠ 0 → of = 0 → r.nm = 0 → 0 ≤ left) (hb : b = true ↔ OneR r.d x.ep x.last sq at' of left) :
  Calls Tryz.prog 68 #[.agg #[.int .i64 r.kd, .int .i64 r.sq, .int .i64 r.ep, .int .i64 r.ps, .int .i64 r.nm, .int .i64 r.i.z, .int .i64 r.i.wh, .slice r.i.A n r.i.c], .agg #[.int .i64 x.gen, .int .i64 x.ep, .int .i64 x.pos, .int .i64 x.seq, .int .i64 x.last, .string x.lab, .slice x.HA x.hs.length x.hc], .int .i64 sq, .int .i64 at', .int .i64 of, .int .i64 left] w fun e w' => e = .returned (.bool b) ∧ Below w.heap.size w w' := by
 have HB : Hid (b = true ↔ r.kd ≠ 0 ∧ r.sq = sq ∧ r.ps = at' ∧ (of ≠ 0 → r.nm = of) ∧ (of = 0 → r.nm ≤ left) ∧ (r.ep = x.ep ∨ sq ≤ x.last ∧ r.ep ≤ x.ep)) := Lib.hid hb
 have s1 : (w.alloc (.cells #[.int .i64 r.kd, .int .i64 r.sq, .int .i64 r.ep, .int .i64 r.ps, .int .i64 r.nm, .int .i64 r.i.z, .int .i64 r.i.wh, .slice r.i.A n r.i.c] 83)).heap.size = w.heap.size + 1 := by simp
 have RR := (c8_new w (.int .i64 r.kd) (.int .i64 r.sq) (.int .i64 r.ep) (.int .i64 r.ps) (.int .i64 r.nm) (.int .i64 r.i.z) (.int .i64 r.i.wh) (.slice r.i.A n r.i.c) 83).keep (bl (w.alloc (.cells #[.int .i64 r.kd, .int .i64 r.sq, .int .i64 r.ep, .int .i64 r.ps, .int .i64 r.nm, .int .i64 r.i.z, .int .i64 r.i.wh, .slice r.i.A n r.i.c] 83)) (.cells #[.int .i64 x.gen, .int .i64 x.ep, .int .i64 x.pos, .int .i64 x.seq, .int .i64 x.last, .string x.lab, .slice x.HA x.hs.length x.hc] 26)) (by omega)
 have FF := ac_new (w.alloc (.cells #[.int .i64 r.kd, .int .i64 r.sq, .int .i64 r.ep, .int .i64 r.ps, .int .i64 r.nm, .int .i64 r.i.z, .int .i64 r.i.wh, .slice r.i.A n r.i.c] 83)) x
 rw [s1] at FF
 have hw := kal (bl w (.cells #[.int .i64 r.kd, .int .i64 r.sq, .int .i64 r.ep, .int .i64 r.ps, .int .i64 r.nm, .int .i64 r.i.z, .int .i64 r.i.wh, .slice r.i.A n r.i.c] 83)) (.cells #[.int .i64 x.gen, .int .i64 x.ep, .int .i64 x.pos, .int .i64 x.seq, .int .i64 x.last, .string x.lab, .slice x.HA x.hs.length x.hc] 26)
 clear s1 hb
 go_enter Tryz.func68, Tryz.ntmps68
 go_upto_region 1 with fail
 generalize ((w.alloc (.cells #[.int .i64 r.kd, .int .i64 r.sq, .int .i64 r.ep, .int .i64 r.ps, .int .i64 r.nm, .int .i64 r.i.z, .int .i64 r.i.wh, .slice r.i.A n r.i.c] 83)).alloc (.cells #[.int .i64 x.gen, .int .i64 x.ep, .int .i64 x.pos, .int .i64 x.seq, .int .i64 x.last, .string x.lab, .slice x.HA x.hs.length x.hc] 26)) = w0 at *
 obtain ⟨r0, r1, r2, r3, r4, r5, r6, r7⟩ := id RR
 obtain ⟨c0, c1, c2, c3, c4, c5, c6⟩ := id FF
 clear RR FF
 by_cases h0 : r.kd = 0
 ·clear hE
  have a0 : (r.kd == 0) = true := beq_iff_eq.2 h0
  obtain rfl : b = false := Bool.eq_false_iff.2 fun k => by
   obtain ⟨k0, k1, k2, k3, k4, k5⟩ := HB.out.1 k
   exact k0 h0
  try clear hE
  clear HB h0
  go_wp2_with fail
  go_ret
  exact ⟨rfl, hw⟩
 have a0 : (r.kd == 0) = false := beq_eq_false_iff_ne.2 h0
 by_cases h1 : r.sq = sq
 case neg =>
  have a1 : (r.sq != sq) = true := bne_iff_ne.2 h1
  obtain rfl : b = false := Bool.eq_false_iff.2 fun k => by
   obtain ⟨k0, k1, k2, k3, k4, k5⟩ := HB.out.1 k
   exact h1 k1
  try clear hE
  clear HB h0 h1
  go_wp2_with fail
  go_ret
  exact ⟨rfl, hw⟩
 have a1 : (r.sq != sq) = false := by rw [h1]; exact bne_self_eq_false _
 by_cases h2 : r.ps = at'
 case neg =>
  have a2 : (r.ps != at') = true := bne_iff_ne.2 h2
  obtain rfl : b = false := Bool.eq_false_iff.2 fun k => by
   obtain ⟨k0, k1, k2, k3, k4, k5⟩ := HB.out.1 k
   exact h2 k2
  try clear hE
  clear HB h0 h1 h2
  go_wp2_with fail
  go_ret
  exact ⟨rfl, hw⟩
 have a2 : (r.ps != at') = false := by rw [h2]; exact bne_self_eq_false _
 by_cases h3 : r.nm = of
 case pos =>
  have a3 : (r.nm != of) = false := by rw [h3]; exact bne_self_eq_false _
  have h8 : of = 0 → 0 ≤ left := fun q => hE h0 q (by omega)
  clear hE
  by_cases h5 : r.ep = x.ep
  ·have a5 : (r.ep == x.ep) = true := beq_iff_eq.2 h5
   obtain rfl : b = true := HB.out.2 (⟨h0, h1, h2, fun _ => h3, fun q => by omega, .inl h5⟩)
   try clear hE
   clear HB h0 h1 h2 h3 h8 h5
   go_wp2_with fail
   go_ret
   exact ⟨rfl, hw⟩
  have a5 : (r.ep == x.ep) = false := beq_eq_false_iff_ne.2 h5
  by_cases h6 : sq ≤ x.last
  case neg =>
   have a6 : decide (sq ≤ x.last) = false := decide_eq_false h6
   obtain rfl : b = false := Bool.eq_false_iff.2 fun k => by
    obtain ⟨k0, k1, k2, k3, k4, k5⟩ := HB.out.1 k
    rcases k5 with k | k <;> omega
   try clear hE
   clear HB h0 h1 h2 h3 h8 h5 h6
   go_wp2_with fail
   go_ret
   exact ⟨rfl, hw⟩
  have a6 : decide (sq ≤ x.last) = true := decide_eq_true h6
  by_cases h7 : r.ep ≤ x.ep
  ·have a7 : decide (r.ep ≤ x.ep) = true := decide_eq_true h7
   obtain rfl : b = true := HB.out.2 (⟨h0, h1, h2, fun _ => h3, fun q => by omega, .inr ⟨h6, h7⟩⟩)
   try clear hE
   clear HB h0 h1 h2 h3 h8 h5 h6 h7
   go_wp2_with fail
   go_ret
   exact ⟨rfl, hw⟩
  ·have a7 : decide (r.ep ≤ x.ep) = false := decide_eq_false h7
   obtain rfl : b = false := Bool.eq_false_iff.2 fun k => by
    obtain ⟨k0, k1, k2, k3, k4, k5⟩ := HB.out.1 k
    rcases k5 with k | k <;> omega
   try clear hE
   clear HB h0 h1 h2 h3 h8 h5 h6 h7
   go_wp2_with fail
   go_ret
   exact ⟨rfl, hw⟩
 have a3 : (r.nm != of) = true := bne_iff_ne.2 h3
 by_cases h4 : of = 0
 case neg =>
  have a4 : (of != 0) = true := bne_iff_ne.2 h4
  obtain rfl : b = false := Bool.eq_false_iff.2 fun k => by
   obtain ⟨k0, k1, k2, k3, k4, k5⟩ := HB.out.1 k
   exact h3 (k3 h4)
  try clear hE
  clear HB h0 h1 h2 h3 h4
  go_wp2_with fail
  go_ret
  exact ⟨rfl, hw⟩
 have a4 : (of != 0) = false := by rw [h4]; rfl
 by_cases h8 : left < r.nm
 ·have a8 : decide (left < r.nm) = true := decide_eq_true h8
  obtain rfl : b = false := Bool.eq_false_iff.2 fun k => by
   obtain ⟨k0, k1, k2, k3, k4, k5⟩ := HB.out.1 k
   have := k4 h4; omega
  try clear hE
  clear HB h0 h1 h2 h3 h4 h8
  go_wp2_with fail
  go_ret
  exact ⟨rfl, hw⟩
 have a8 : decide (left < r.nm) = false := decide_eq_false h8
 by_cases h5 : r.ep = x.ep
 ·have a5 : (r.ep == x.ep) = true := beq_iff_eq.2 h5
  obtain rfl : b = true := HB.out.2 (⟨h0, h1, h2, fun q => absurd h4 q, fun _ => by omega, .inl h5⟩)
  try clear hE
  clear HB h0 h1 h2 h3 h4 h8 h5
  go_wp2_with fail
  go_ret
  exact ⟨rfl, hw⟩
 have a5 : (r.ep == x.ep) = false := beq_eq_false_iff_ne.2 h5
 by_cases h6 : sq ≤ x.last
 case neg =>
  have a6 : decide (sq ≤ x.last) = false := decide_eq_false h6
  obtain rfl : b = false := Bool.eq_false_iff.2 fun k => by
   obtain ⟨k0, k1, k2, k3, k4, k5⟩ := HB.out.1 k
   rcases k5 with k | k <;> omega
  try clear hE
  clear HB h0 h1 h2 h3 h4 h8 h5 h6
  go_wp2_with fail
  go_ret
  exact ⟨rfl, hw⟩
 have a6 : decide (sq ≤ x.last) = true := decide_eq_true h6
 by_cases h7 : r.ep ≤ x.ep
 ·have a7 : decide (r.ep ≤ x.ep) = true := decide_eq_true h7
  obtain rfl : b = true := HB.out.2 (⟨h0, h1, h2, fun q => absurd h4 q, fun _ => by omega, .inr ⟨h6, h7⟩⟩)
  try clear hE
  clear HB h0 h1 h2 h3 h4 h8 h5 h6 h7
  go_wp2_with fail
  go_ret
  exact ⟨rfl, hw⟩
 ·have a7 : decide (r.ep ≤ x.ep) = false := decide_eq_false h7
  obtain rfl : b = false := Bool.eq_false_iff.2 fun k => by
   obtain ⟨k0, k1, k2, k3, k4, k5⟩ := HB.out.1 k
   rcases k5 with k | k <;> omega
  try clear hE
  clear HB h0 h1 h2 h3 h4 h8 h5 h6 h7
  go_wp2_with fail
  go_ret
  exact ⟨rfl, hw⟩
end Go.Proofs.YtbfdpibjicjagaaGreatDoor.prr
namespace Go.Proofs.YtbfdpibjicjagaaGreatDoor.prr
open Go.RowKit Go.Lib
open Go.Proofs.YtbfdpibjicjagaaGreatDoor.gmt (Ok)
open Go.Proofs.YtbfdpibjicjagaaGreatDoor.anc (AV bl kal kst ks bm ka)
open Go.Proofs.YtbfdpibjicjagaaGreatDoor.tbl (G5 g5_new)
open Go.Proofs.YtbfdpibjicjagaaGreatDoor.lrc (Rcd RcR C8 c8_new Eig eig_new own_all below_all noRec RdR RdNo RdOk recN SlotOk cellN)
open Go.Proofs.YtbfdpibjicjagaaGreatDoor.sel (Three three_new opened Opn no enc enc_opened open_any)
open Go.Proofs.YtbfdpibjicjagaaGreatDoor.ent (OpR)
theorem open_rY (n c : Nat) (A : Option Addr) (b : List UInt8) (W : World) (hn : b.length = n) (hc : n ≤ c) (hm : c ≤ maxLen) (hA : Sl W W.heap.size A b) :
  Calls Tryz.prog 80 #[.slice A n c] W fun e w' => OpR W.heap.size (opened b) e w' ∧ Below W.heap.size W w' := by
 refine (open_any n A c b W hn hc hm hA).mono ?_
 rintro e w' ⟨⟨v, rfl, ho⟩, hb⟩
 obtain ⟨Y, y, hv, -, -, -, -⟩ := id ho.form
 subst hv
 exact ⟨⟨Y, y, rfl, ho⟩, hb⟩
theorem saysY_err (z d s l a cp sl ge : Int) (gA : Option Addr) (n gc : Nat) (ad e1 : Int) (w : World) (he : e1 ≠ 0 ∨ e1 = 0 ∧ ge ≠ 0) (cL : ∀ W, Below w.heap.size w W → Calls Tryz.prog 66 #[.agg #[.int .i64 z, .int .i64 d, .int .i64 s, .int .i64 l, .int .i64 a], .int .i64 cp, .int .i64 sl] W fun e w' => e = .returned (.tuple #[.int .i64 ad, .int .i64 e1]) ∧ Below W.heap.size W w') :
  Calls Tryz.prog 67 #[.agg #[.int .i64 z, .int .i64 d, .int .i64 s, .int .i64 l, .int .i64 a], .agg #[.int .i64 ge, .slice gA n gc], .int .i64 cp, .int .i64 sl] w fun e w' => SayB w.heap.size false noRec e w' ∧ Below w.heap.size w w' := by
 have HL := Lib.hid cL
 clear cL
 have GG0 := g5_new w z d s l a
 have GX : ((w.alloc (.cells #[.int .i64 z, .int .i64 d, .int .i64 s, .int .i64 l, .int .i64 a] 23)).alloc (.cells #[.int .i64 ge, .slice gA n gc] 51)).cell? ⟨w.heap.size + 1, 0, none⟩ = some (.int .i64 ge) ∧ ((w.alloc (.cells #[.int .i64 z, .int .i64 d, .int .i64 s, .int .i64 l, .int .i64 a] 23)).alloc (.cells #[.int .i64 ge, .slice gA n gc] 51)).cell? ⟨w.heap.size + 1, 1, none⟩ = some (.slice gA n gc) := by
  have h9 := heap_alloc_new (w.alloc (.cells #[.int .i64 z, .int .i64 d, .int .i64 s, .int .i64 l, .int .i64 a] 23)) (.cells #[.int .i64 ge, .slice gA n gc] 51)
  rw [show (w.alloc (.cells #[.int .i64 z, .int .i64 d, .int .i64 s, .int .i64 l, .int .i64 a] 23)).heap.size = w.heap.size + 1 by simp] at h9
  constructor <;> (rw [cell_of_row _ _ _ _ _ _ h9]; rfl)
 have s1 : (w.alloc (.cells #[.int .i64 z, .int .i64 d, .int .i64 s, .int .i64 l, .int .i64 a] 23)).heap.size = w.heap.size + 1 := by simp
 have s2 : ((w.alloc (.cells #[.int .i64 z, .int .i64 d, .int .i64 s, .int .i64 l, .int .i64 a] 23)).alloc (.cells #[.int .i64 ge, .slice gA n gc] 51)).heap.size = w.heap.size + 2 := by simp
 have hbz := bl ((w.alloc (.cells #[.int .i64 z, .int .i64 d, .int .i64 s, .int .i64 l, .int .i64 a] 23)).alloc (.cells #[.int .i64 ge, .slice gA n gc] 51)) (.cells #[.int .i64 0, .int .i64 0, .int .i64 0, .int .i64 0, .int .i64 0, .int .i64 0, .int .i64 0, .slice none 0 0] 83)
 have GG := (GG0.keep (bl (w.alloc (.cells #[.int .i64 z, .int .i64 d, .int .i64 s, .int .i64 l, .int .i64 a] 23)) (.cells #[.int .i64 ge, .slice gA n gc] 51)) (by omega)).keep hbz (by omega)
 have x0 := kst hbz (by omega) GX.1
 have x1 := kst hbz (by omega) GX.2
 have P := eig_new ((w.alloc (.cells #[.int .i64 z, .int .i64 d, .int .i64 s, .int .i64 l, .int .i64 a] 23)).alloc (.cells #[.int .i64 ge, .slice gA n gc] 51)) (.int .i64 0) (.int .i64 0) (.int .i64 0) (.int .i64 0) (.int .i64 0) (.int .i64 0) (.int .i64 0) (.slice none 0 0) 83
 rw [s2] at P
 have hb0 := kal (kal (bl w (.cells #[.int .i64 z, .int .i64 d, .int .i64 s, .int .i64 l, .int .i64 a] 23)) (.cells #[.int .i64 ge, .slice gA n gc] 51)) (.cells #[.int .i64 0, .int .i64 0, .int .i64 0, .int .i64 0, .int .i64 0, .int .i64 0, .int .i64 0, .slice none 0 0] 83)
 have l2 : w.heap.size + 2 < (((w.alloc (.cells #[.int .i64 z, .int .i64 d, .int .i64 s, .int .i64 l, .int .i64 a] 23)).alloc (.cells #[.int .i64 ge, .slice gA n gc] 51)).alloc (.cells #[.int .i64 0, .int .i64 0, .int .i64 0, .int .i64 0, .int .i64 0, .int .i64 0, .int .i64 0, .slice none 0 0] 83)).heap.size := by simp
 clear GX hbz GG0 s1 s2
 go_enter Tryz.func67, Tryz.ntmps67
 go_upto_region 1 with fail
 generalize ((w.alloc (.cells #[.int .i64 z, .int .i64 d, .int .i64 s, .int .i64 l, .int .i64 a] 23)).alloc (.cells #[.int .i64 ge, .slice gA n gc] 51)).alloc (.cells #[.int .i64 0, .int .i64 0, .int .i64 0, .int .i64 0, .int .i64 0, .int .i64 0, .int .i64 0, .slice none 0 0] 83) = w0 at *
 obtain ⟨g0, g1, g2, g3, g4⟩ := id GG
 go_upto_region 2 with (go_at_call 66; (with_reducible refine (HL.out _ hb0).mono ?_); rintro e w1 ⟨rfl, hb1⟩)
 clear g0 g1 g2 g3 g4
 replace GG := GG.keep hb1 (by omega)
 replace P := P.keep hb1 l2
 replace x0 := kst hb1 (by omega) x0
 replace x1 := kst hb1 (by omega) x1
 replace hb0 := bt hb0 hb1
 replace l2 := Nat.lt_of_lt_of_le l2 hb1.size
 clear hb1
 obtain ⟨z0, z1, z2, z3, z4, z5, z6, z7, f0, f1, f2, f3, f4, f5, f6, f7⟩ := id P
 rcases he with he | ⟨rfl, he⟩
 ·have a1 : (e1 != 0) = true := bne_iff_ne.2 he
  clear he
  go_wp2_with fail
  have k7 := P.all (.int .i64 0) (.int .i64 0) (.int .i64 0) (.int .i64 0) (.int .i64 0) (.int .i64 0) (.int .i64 0) (.slice none 0 0)
  exact bodyPost_ret (v := .tuple #[.agg #[.int .i64 0, .int .i64 0, .int .i64 0, .int .i64 0, .int .i64 0, .int .i64 0, .int .i64 0, .slice none 0 0], .bool false]) (by simp [results, Tryz.results67, go_sem, k7.c0, k7.c1, k7.c2, k7.c3, k7.c4, k7.c5, k7.c6, k7.c7]) rfl ⟨⟨none, 0, rfl, own_nil _ _ _⟩, below_all hb0 (by omega) _ _ _ _ _ _ _ _⟩
 ·have a1 : (ge != 0) = true := bne_iff_ne.2 he
  clear he
  go_wp2_with fail
  have k7 := P.all (.int .i64 0) (.int .i64 0) (.int .i64 0) (.int .i64 0) (.int .i64 0) (.int .i64 0) (.int .i64 0) (.slice none 0 0)
  exact bodyPost_ret (v := .tuple #[.agg #[.int .i64 0, .int .i64 0, .int .i64 0, .int .i64 0, .int .i64 0, .int .i64 0, .int .i64 0, .slice none 0 0], .bool false]) (by simp [results, Tryz.results67, go_sem, k7.c0, k7.c1, k7.c2, k7.c3, k7.c4, k7.c5, k7.c6, k7.c7]) rfl ⟨⟨none, 0, rfl, own_nil _ _ _⟩, below_all hb0 (by omega) _ _ _ _ _ _ _ _⟩
theorem saysY_no (z d s l a cp sl ge : Int) (gA : Option Addr) (n gc : Nat) (ad e1 : Int) (w : World) (r : Opn) (hge : ge = 0) (he1 : e1 = 0) (hno : ¬ (r.err = 0 ∧ ((r.addr : Nat) : Int) = ad)) (cL : ∀ W, Below w.heap.size w W → Calls Tryz.prog 66 #[.agg #[.int .i64 z, .int .i64 d, .int .i64 s, .int .i64 l, .int .i64 a], .int .i64 cp, .int .i64 sl] W fun e w' => e = .returned (.tuple #[.int .i64 ad, .int .i64 e1]) ∧ Below W.heap.size W w') (cS : ∀ W, Below w.heap.size w W → Calls Tryz.prog 80 #[.slice gA n gc] W fun e w' => OpR W.heap.size r e w' ∧ Below W.heap.size W w') :
  Calls Tryz.prog 67 #[.agg #[.int .i64 z, .int .i64 d, .int .i64 s, .int .i64 l, .int .i64 a], .agg #[.int .i64 ge, .slice gA n gc], .int .i64 cp, .int .i64 sl] w fun e w' => SayB w.heap.size false noRec e w' ∧ Below w.heap.size w w' := by
 have HL := Lib.hid cL
 have HS := Lib.hid cS
 have HN := Lib.hid hno
 clear cL cS hno
 have b1 : (e1 != 0) = false := by rw [he1]; rfl
 have b2 : (ge != 0) = false := by rw [hge]; rfl
 clear hge he1
 have GG0 := g5_new w z d s l a
 have GX : ((w.alloc (.cells #[.int .i64 z, .int .i64 d, .int .i64 s, .int .i64 l, .int .i64 a] 23)).alloc (.cells #[.int .i64 ge, .slice gA n gc] 51)).cell? ⟨w.heap.size + 1, 0, none⟩ = some (.int .i64 ge) ∧ ((w.alloc (.cells #[.int .i64 z, .int .i64 d, .int .i64 s, .int .i64 l, .int .i64 a] 23)).alloc (.cells #[.int .i64 ge, .slice gA n gc] 51)).cell? ⟨w.heap.size + 1, 1, none⟩ = some (.slice gA n gc) := by
  have h9 := heap_alloc_new (w.alloc (.cells #[.int .i64 z, .int .i64 d, .int .i64 s, .int .i64 l, .int .i64 a] 23)) (.cells #[.int .i64 ge, .slice gA n gc] 51)
  rw [show (w.alloc (.cells #[.int .i64 z, .int .i64 d, .int .i64 s, .int .i64 l, .int .i64 a] 23)).heap.size = w.heap.size + 1 by simp] at h9
  constructor <;> (rw [cell_of_row _ _ _ _ _ _ h9]; rfl)
 have s1 : (w.alloc (.cells #[.int .i64 z, .int .i64 d, .int .i64 s, .int .i64 l, .int .i64 a] 23)).heap.size = w.heap.size + 1 := by simp
 have s2 : ((w.alloc (.cells #[.int .i64 z, .int .i64 d, .int .i64 s, .int .i64 l, .int .i64 a] 23)).alloc (.cells #[.int .i64 ge, .slice gA n gc] 51)).heap.size = w.heap.size + 2 := by simp
 have hbz := bl ((w.alloc (.cells #[.int .i64 z, .int .i64 d, .int .i64 s, .int .i64 l, .int .i64 a] 23)).alloc (.cells #[.int .i64 ge, .slice gA n gc] 51)) (.cells #[.int .i64 0, .int .i64 0, .int .i64 0, .int .i64 0, .int .i64 0, .int .i64 0, .int .i64 0, .slice none 0 0] 83)
 have GG := (GG0.keep (bl (w.alloc (.cells #[.int .i64 z, .int .i64 d, .int .i64 s, .int .i64 l, .int .i64 a] 23)) (.cells #[.int .i64 ge, .slice gA n gc] 51)) (by omega)).keep hbz (by omega)
 have x0 := kst hbz (by omega) GX.1
 have x1 := kst hbz (by omega) GX.2
 have P := eig_new ((w.alloc (.cells #[.int .i64 z, .int .i64 d, .int .i64 s, .int .i64 l, .int .i64 a] 23)).alloc (.cells #[.int .i64 ge, .slice gA n gc] 51)) (.int .i64 0) (.int .i64 0) (.int .i64 0) (.int .i64 0) (.int .i64 0) (.int .i64 0) (.int .i64 0) (.slice none 0 0) 83
 rw [s2] at P
 have hb0 := kal (kal (bl w (.cells #[.int .i64 z, .int .i64 d, .int .i64 s, .int .i64 l, .int .i64 a] 23)) (.cells #[.int .i64 ge, .slice gA n gc] 51)) (.cells #[.int .i64 0, .int .i64 0, .int .i64 0, .int .i64 0, .int .i64 0, .int .i64 0, .int .i64 0, .slice none 0 0] 83)
 have l2 : w.heap.size + 2 < (((w.alloc (.cells #[.int .i64 z, .int .i64 d, .int .i64 s, .int .i64 l, .int .i64 a] 23)).alloc (.cells #[.int .i64 ge, .slice gA n gc] 51)).alloc (.cells #[.int .i64 0, .int .i64 0, .int .i64 0, .int .i64 0, .int .i64 0, .int .i64 0, .int .i64 0, .slice none 0 0] 83)).heap.size := by simp
 clear GX hbz GG0 s1 s2
 go_enter Tryz.func67, Tryz.ntmps67
 go_upto_region 1 with fail
 generalize ((w.alloc (.cells #[.int .i64 z, .int .i64 d, .int .i64 s, .int .i64 l, .int .i64 a] 23)).alloc (.cells #[.int .i64 ge, .slice gA n gc] 51)).alloc (.cells #[.int .i64 0, .int .i64 0, .int .i64 0, .int .i64 0, .int .i64 0, .int .i64 0, .int .i64 0, .slice none 0 0] 83) = w0 at *
 obtain ⟨g0, g1, g2, g3, g4⟩ := id GG
 go_upto_region 2 with (go_at_call 66; (with_reducible refine (HL.out _ hb0).mono ?_); rintro e w1 ⟨rfl, hb1⟩)
 clear g0 g1 g2 g3 g4
 replace GG := GG.keep hb1 (by omega)
 replace P := P.keep hb1 l2
 replace x0 := kst hb1 (by omega) x0
 replace x1 := kst hb1 (by omega) x1
 replace hb0 := bt hb0 hb1
 replace l2 := Nat.lt_of_lt_of_le l2 hb1.size
 clear hb1
 go_upto_region 5 with (go_at_call 80; (with_reducible refine (HS.out _ hb0).mono ?_); rintro e w2 ⟨⟨Y, y, rfl, hs⟩, hb1⟩)
 have hxS := bl w2 (.cells #[.int .i64 r.addr, .int .i64 r.stamp, .slice Y r.load.length y] 124)
 have T := three_new w2 (.int .i64 r.addr) (.int .i64 r.stamp) (.slice Y r.load.length y) 124
 obtain ⟨Y', y', hv, h1, h2, hsl, -⟩ := hs.form
 simp only [Value.slice.injEq] at hv
 obtain ⟨rfl, -, rfl⟩ := hv
 have hsl2 := hsl.next hxS
 replace GG := (GG.keep hb1 (by omega)).keep hxS (by have := hb1.size; omega)
 replace P := (P.keep hb1 l2).keep hxS (Nat.lt_of_lt_of_le l2 hb1.size)
 replace hb0 := bt (bt hb0 hb1) hxS
 obtain ⟨gs, hgs⟩ : ∃ q, q = w2.heap.size := ⟨_, rfl⟩
 have lT : gs < (w2.alloc (.cells #[.int .i64 r.addr, .int .i64 r.stamp, .slice Y r.load.length y] 124)).heap.size := by rw [hgs]; simp
 replace l2 : w.heap.size + 2 < gs := by have := hb1.size; omega
 rw [← hgs] at T ⊢
 clear hgs hxS hb1 hs hsl x0 x1
 generalize w2.alloc (.cells #[.int .i64 r.addr, .int .i64 r.stamp, .slice Y r.load.length y] 124) = w3 at *
 obtain ⟨t0, t1, t2, -, -, -⟩ := id T
 obtain ⟨z0, z1, z2, z3, z4, z5, z6, z7, f0, f1, f2, f3, f4, f5, f6, f7⟩ := id P
 by_cases hre : r.err = 0
 ·have a1 : (((r.err : Nat) : Int) != 0) = false := by rw [hre]; rfl
  have a2 : (((r.addr : Nat) : Int) != ad) = true := bne_iff_ne.2 fun k => HN.out ⟨hre, k⟩
  clear hre HS
  go_wp2_with fail
  have k7 := P.all (.int .i64 0) (.int .i64 0) (.int .i64 0) (.int .i64 0) (.int .i64 0) (.int .i64 0) (.int .i64 0) (.slice none 0 0)
  exact bodyPost_ret (v := .tuple #[.agg #[.int .i64 0, .int .i64 0, .int .i64 0, .int .i64 0, .int .i64 0, .int .i64 0, .int .i64 0, .slice none 0 0], .bool false]) (by simp [results, Tryz.results67, go_sem, k7.c0, k7.c1, k7.c2, k7.c3, k7.c4, k7.c5, k7.c6, k7.c7]) rfl ⟨⟨none, 0, rfl, own_nil _ _ _⟩, below_all hb0 (by omega) _ _ _ _ _ _ _ _⟩
 ·have a1 : (((r.err : Nat) : Int) != 0) = true := bne_iff_ne.2 fun k => hre (by omega)
  clear hre HS
  go_wp2_with fail
  have k7 := P.all (.int .i64 0) (.int .i64 0) (.int .i64 0) (.int .i64 0) (.int .i64 0) (.int .i64 0) (.int .i64 0) (.slice none 0 0)
  exact bodyPost_ret (v := .tuple #[.agg #[.int .i64 0, .int .i64 0, .int .i64 0, .int .i64 0, .int .i64 0, .int .i64 0, .int .i64 0, .slice none 0 0], .bool false]) (by simp [results, Tryz.results67, go_sem, k7.c0, k7.c1, k7.c2, k7.c3, k7.c4, k7.c5, k7.c6, k7.c7]) rfl ⟨⟨none, 0, rfl, own_nil _ _ _⟩, below_all hb0 (by omega) _ _ _ _ _ _ _ _⟩
theorem saysY_rno (z d s l a cp sl ge : Int) (gA : Option Addr) (n gc : Nat) (ad e1 : Int) (w : World) (r : Opn) (v : Int) (hv : v ≠ 0) (hge : ge = 0) (he1 : e1 = 0) (hre : r.err = 0) (hra : ((r.addr : Nat) : Int) = ad) (cL : ∀ W, Below w.heap.size w W → Calls Tryz.prog 66 #[.agg #[.int .i64 z, .int .i64 d, .int .i64 s, .int .i64 l, .int .i64 a], .int .i64 cp, .int .i64 sl] W fun e w' => e = .returned (.tuple #[.int .i64 ad, .int .i64 e1]) ∧ Below W.heap.size W w') (cS : ∀ W, Below w.heap.size w W → Calls Tryz.prog 80 #[.slice gA n gc] W fun e w' => OpR W.heap.size r e w' ∧ Below W.heap.size W w') (cR : ∀ (W : World) (Y : Option Addr) (y : Nat), Below w.heap.size w W → Sl W W.heap.size Y r.load → r.load.length ≤ y → y ≤ maxLen → Calls Tryz.prog 81 #[.agg #[.int .i64 z, .int .i64 d, .int .i64 s, .int .i64 l, .int .i64 a], .slice Y r.load.length y] W fun e w' => RdNo v e ∧ Below W.heap.size W w') :
  Calls Tryz.prog 67 #[.agg #[.int .i64 z, .int .i64 d, .int .i64 s, .int .i64 l, .int .i64 a], .agg #[.int .i64 ge, .slice gA n gc], .int .i64 cp, .int .i64 sl] w fun e w' => SayB w.heap.size false noRec e w' ∧ Below w.heap.size w w' := by
 have HL := Lib.hid cL
 have HS := Lib.hid cS
 have HR := Lib.hid cR
 clear cL cS cR
 have a3 : (v != 0) = true := bne_iff_ne.2 hv
 clear hv
 have b1 : (e1 != 0) = false := by rw [he1]; rfl
 have b2 : (ge != 0) = false := by rw [hge]; rfl
 clear hge he1
 have a1 : (((r.err : Nat) : Int) != 0) = false := by rw [hre]; rfl
 have a2 : (((r.addr : Nat) : Int) != ad) = false := by rw [hra]; exact bne_self_eq_false _
 clear hre hra
 have GG0 := g5_new w z d s l a
 have GX : ((w.alloc (.cells #[.int .i64 z, .int .i64 d, .int .i64 s, .int .i64 l, .int .i64 a] 23)).alloc (.cells #[.int .i64 ge, .slice gA n gc] 51)).cell? ⟨w.heap.size + 1, 0, none⟩ = some (.int .i64 ge) ∧ ((w.alloc (.cells #[.int .i64 z, .int .i64 d, .int .i64 s, .int .i64 l, .int .i64 a] 23)).alloc (.cells #[.int .i64 ge, .slice gA n gc] 51)).cell? ⟨w.heap.size + 1, 1, none⟩ = some (.slice gA n gc) := by
  have h9 := heap_alloc_new (w.alloc (.cells #[.int .i64 z, .int .i64 d, .int .i64 s, .int .i64 l, .int .i64 a] 23)) (.cells #[.int .i64 ge, .slice gA n gc] 51)
  rw [show (w.alloc (.cells #[.int .i64 z, .int .i64 d, .int .i64 s, .int .i64 l, .int .i64 a] 23)).heap.size = w.heap.size + 1 by simp] at h9
  constructor <;> (rw [cell_of_row _ _ _ _ _ _ h9]; rfl)
 have s1 : (w.alloc (.cells #[.int .i64 z, .int .i64 d, .int .i64 s, .int .i64 l, .int .i64 a] 23)).heap.size = w.heap.size + 1 := by simp
 have s2 : ((w.alloc (.cells #[.int .i64 z, .int .i64 d, .int .i64 s, .int .i64 l, .int .i64 a] 23)).alloc (.cells #[.int .i64 ge, .slice gA n gc] 51)).heap.size = w.heap.size + 2 := by simp
 have hbz := bl ((w.alloc (.cells #[.int .i64 z, .int .i64 d, .int .i64 s, .int .i64 l, .int .i64 a] 23)).alloc (.cells #[.int .i64 ge, .slice gA n gc] 51)) (.cells #[.int .i64 0, .int .i64 0, .int .i64 0, .int .i64 0, .int .i64 0, .int .i64 0, .int .i64 0, .slice none 0 0] 83)
 have GG := (GG0.keep (bl (w.alloc (.cells #[.int .i64 z, .int .i64 d, .int .i64 s, .int .i64 l, .int .i64 a] 23)) (.cells #[.int .i64 ge, .slice gA n gc] 51)) (by omega)).keep hbz (by omega)
 have x0 := kst hbz (by omega) GX.1
 have x1 := kst hbz (by omega) GX.2
 have P := eig_new ((w.alloc (.cells #[.int .i64 z, .int .i64 d, .int .i64 s, .int .i64 l, .int .i64 a] 23)).alloc (.cells #[.int .i64 ge, .slice gA n gc] 51)) (.int .i64 0) (.int .i64 0) (.int .i64 0) (.int .i64 0) (.int .i64 0) (.int .i64 0) (.int .i64 0) (.slice none 0 0) 83
 rw [s2] at P
 have hb0 := kal (kal (bl w (.cells #[.int .i64 z, .int .i64 d, .int .i64 s, .int .i64 l, .int .i64 a] 23)) (.cells #[.int .i64 ge, .slice gA n gc] 51)) (.cells #[.int .i64 0, .int .i64 0, .int .i64 0, .int .i64 0, .int .i64 0, .int .i64 0, .int .i64 0, .slice none 0 0] 83)
 have l2 : w.heap.size + 2 < (((w.alloc (.cells #[.int .i64 z, .int .i64 d, .int .i64 s, .int .i64 l, .int .i64 a] 23)).alloc (.cells #[.int .i64 ge, .slice gA n gc] 51)).alloc (.cells #[.int .i64 0, .int .i64 0, .int .i64 0, .int .i64 0, .int .i64 0, .int .i64 0, .int .i64 0, .slice none 0 0] 83)).heap.size := by simp
 clear GX hbz GG0 s1 s2
 go_enter Tryz.func67, Tryz.ntmps67
 go_upto_region 1 with fail
 generalize ((w.alloc (.cells #[.int .i64 z, .int .i64 d, .int .i64 s, .int .i64 l, .int .i64 a] 23)).alloc (.cells #[.int .i64 ge, .slice gA n gc] 51)).alloc (.cells #[.int .i64 0, .int .i64 0, .int .i64 0, .int .i64 0, .int .i64 0, .int .i64 0, .int .i64 0, .slice none 0 0] 83) = w0 at *
 obtain ⟨g0, g1, g2, g3, g4⟩ := id GG
 go_upto_region 2 with (go_at_call 66; (with_reducible refine (HL.out _ hb0).mono ?_); rintro e w1 ⟨rfl, hb1⟩)
 clear g0 g1 g2 g3 g4
 replace GG := GG.keep hb1 (by omega)
 replace P := P.keep hb1 l2
 replace x0 := kst hb1 (by omega) x0
 replace x1 := kst hb1 (by omega) x1
 replace hb0 := bt hb0 hb1
 replace l2 := Nat.lt_of_lt_of_le l2 hb1.size
 clear hb1
 go_upto_region 5 with (go_at_call 80; (with_reducible refine (HS.out _ hb0).mono ?_); rintro e w2 ⟨⟨Y, y, rfl, hs⟩, hb1⟩)
 have hxS := bl w2 (.cells #[.int .i64 r.addr, .int .i64 r.stamp, .slice Y r.load.length y] 124)
 have T := three_new w2 (.int .i64 r.addr) (.int .i64 r.stamp) (.slice Y r.load.length y) 124
 obtain ⟨Y', y', hv, h1, h2, hsl, -⟩ := hs.form
 simp only [Value.slice.injEq] at hv
 obtain ⟨rfl, -, rfl⟩ := hv
 have hsl2 := hsl.next hxS
 replace GG := (GG.keep hb1 (by omega)).keep hxS (by have := hb1.size; omega)
 replace P := (P.keep hb1 l2).keep hxS (Nat.lt_of_lt_of_le l2 hb1.size)
 replace hb0 := bt (bt hb0 hb1) hxS
 obtain ⟨gs, hgs⟩ : ∃ q, q = w2.heap.size := ⟨_, rfl⟩
 have lT : gs < (w2.alloc (.cells #[.int .i64 r.addr, .int .i64 r.stamp, .slice Y r.load.length y] 124)).heap.size := by rw [hgs]; simp
 replace l2 : w.heap.size + 2 < gs := by have := hb1.size; omega
 rw [← hgs] at T ⊢
 clear hgs hxS hb1 hs hsl x0 x1
 generalize w2.alloc (.cells #[.int .i64 r.addr, .int .i64 r.stamp, .slice Y r.load.length y] 124) = w3 at *
 obtain ⟨t0, t1, t2, -, -, -⟩ := id T
 have HR2 := Lib.hid (HR.out w3 Y y hb0 hsl2 h1 h2)
 clear hsl2 h1 h2
 obtain ⟨g0, g1, g2, g3, g4⟩ := id GG
 go_upto_region 8 with (go_at_call 81; (with_reducible refine HR2.out.mono ?_); rintro e w4 ⟨⟨X, xc, hxc, rfl⟩, hb3⟩)
 have hxA := bl w4 (.cells #[.int .i64 0, .int .i64 0, .int .i64 0, .int .i64 0, .int .i64 0, .int .i64 0, .int .i64 0, .slice X 0 xc] 83)
 replace T := (T.keep hb3 lT).keep hxA (Nat.lt_of_lt_of_le lT hb3.size)
 replace P := (P.keep hb3 (by omega)).keep hxA (by have := hb3.size; omega)
 replace hb0 := bt (bt hb0 hb3) hxA
 have FQ := c8_new w4 (.int .i64 0) (.int .i64 0) (.int .i64 0) (.int .i64 0) (.int .i64 0) (.int .i64 0) (.int .i64 0) (.slice X 0 xc) 83
 clear hxA hb3 g0 g1 g2 g3 g4 t0 t1 t2 GG HR HR2
 generalize w4.alloc (.cells #[.int .i64 0, .int .i64 0, .int .i64 0, .int .i64 0, .int .i64 0, .int .i64 0, .int .i64 0, .slice X 0 xc] 83) = w5 at *
 obtain ⟨t0, t1, t2, -, -, -⟩ := id T
 obtain ⟨q0, q1, q2, q3, q4, q5, q6, q7⟩ := id FQ
 obtain ⟨z0, z1, z2, z3, z4, z5, z6, z7, f0, f1, f2, f3, f4, f5, f6, f7⟩ := id P
 go_wp2_with fail
 have k7 := P.all (.int .i64 0) (.int .i64 0) (.int .i64 0) (.int .i64 0) (.int .i64 0) (.int .i64 0) (.int .i64 0) (.slice none 0 0)
 exact bodyPost_ret (v := .tuple #[.agg #[.int .i64 0, .int .i64 0, .int .i64 0, .int .i64 0, .int .i64 0, .int .i64 0, .int .i64 0, .slice none 0 0], .bool false]) (by simp [results, Tryz.results67, go_sem, k7.c0, k7.c1, k7.c2, k7.c3, k7.c4, k7.c5, k7.c6, k7.c7]) rfl ⟨⟨none, 0, rfl, own_nil _ _ _⟩, below_all hb0 (by omega) _ _ _ _ _ _ _ _⟩
theorem saysY_sec (z d s l a cp sl ge : Int) (gA : Option Addr) (n gc : Nat) (ad e1 : Int) (w : World) (r : Opn) (q : Rcd) (c : Bool) (hcq : c = true ↔ q.sq = ((r.stamp : Nat) : Int)) (hge : ge = 0) (he1 : e1 = 0) (hre : r.err = 0) (hra : ((r.addr : Nat) : Int) = ad) (cL : ∀ W, Below w.heap.size w W → Calls Tryz.prog 66 #[.agg #[.int .i64 z, .int .i64 d, .int .i64 s, .int .i64 l, .int .i64 a], .int .i64 cp, .int .i64 sl] W fun e w' => e = .returned (.tuple #[.int .i64 ad, .int .i64 e1]) ∧ Below W.heap.size W w') (cS : ∀ W, Below w.heap.size w W → Calls Tryz.prog 80 #[.slice gA n gc] W fun e w' => OpR W.heap.size r e w' ∧ Below W.heap.size W w') (cR : ∀ (W : World) (Y : Option Addr) (y : Nat), Below w.heap.size w W → Sl W W.heap.size Y r.load → r.load.length ≤ y → y ≤ maxLen → Calls Tryz.prog 81 #[.agg #[.int .i64 z, .int .i64 d, .int .i64 s, .int .i64 l, .int .i64 a], .slice Y r.load.length y] W fun e w' => RdR W.heap.size q e w' ∧ Below W.heap.size W w') :
  Calls Tryz.prog 67 #[.agg #[.int .i64 z, .int .i64 d, .int .i64 s, .int .i64 l, .int .i64 a], .agg #[.int .i64 ge, .slice gA n gc], .int .i64 cp, .int .i64 sl] w fun e w' => SayB w.heap.size c (pickR c q) e w' ∧ Below w.heap.size w w' := by
 have HL := Lib.hid cL
 have HS := Lib.hid cS
 have HR := Lib.hid cR
 have HQ := Lib.hid hcq
 clear cL cS cR hcq
 have b1 : (e1 != 0) = false := by rw [he1]; rfl
 have b2 : (ge != 0) = false := by rw [hge]; rfl
 clear hge he1
 have a1 : (((r.err : Nat) : Int) != 0) = false := by rw [hre]; rfl
 have a2 : (((r.addr : Nat) : Int) != ad) = false := by rw [hra]; exact bne_self_eq_false _
 clear hre hra
 have GG0 := g5_new w z d s l a
 have GX : ((w.alloc (.cells #[.int .i64 z, .int .i64 d, .int .i64 s, .int .i64 l, .int .i64 a] 23)).alloc (.cells #[.int .i64 ge, .slice gA n gc] 51)).cell? ⟨w.heap.size + 1, 0, none⟩ = some (.int .i64 ge) ∧ ((w.alloc (.cells #[.int .i64 z, .int .i64 d, .int .i64 s, .int .i64 l, .int .i64 a] 23)).alloc (.cells #[.int .i64 ge, .slice gA n gc] 51)).cell? ⟨w.heap.size + 1, 1, none⟩ = some (.slice gA n gc) := by
  have h9 := heap_alloc_new (w.alloc (.cells #[.int .i64 z, .int .i64 d, .int .i64 s, .int .i64 l, .int .i64 a] 23)) (.cells #[.int .i64 ge, .slice gA n gc] 51)
  rw [show (w.alloc (.cells #[.int .i64 z, .int .i64 d, .int .i64 s, .int .i64 l, .int .i64 a] 23)).heap.size = w.heap.size + 1 by simp] at h9
  constructor <;> (rw [cell_of_row _ _ _ _ _ _ h9]; rfl)
 have s1 : (w.alloc (.cells #[.int .i64 z, .int .i64 d, .int .i64 s, .int .i64 l, .int .i64 a] 23)).heap.size = w.heap.size + 1 := by simp
 have s2 : ((w.alloc (.cells #[.int .i64 z, .int .i64 d, .int .i64 s, .int .i64 l, .int .i64 a] 23)).alloc (.cells #[.int .i64 ge, .slice gA n gc] 51)).heap.size = w.heap.size + 2 := by simp
 have hbz := bl ((w.alloc (.cells #[.int .i64 z, .int .i64 d, .int .i64 s, .int .i64 l, .int .i64 a] 23)).alloc (.cells #[.int .i64 ge, .slice gA n gc] 51)) (.cells #[.int .i64 0, .int .i64 0, .int .i64 0, .int .i64 0, .int .i64 0, .int .i64 0, .int .i64 0, .slice none 0 0] 83)
 have GG := (GG0.keep (bl (w.alloc (.cells #[.int .i64 z, .int .i64 d, .int .i64 s, .int .i64 l, .int .i64 a] 23)) (.cells #[.int .i64 ge, .slice gA n gc] 51)) (by omega)).keep hbz (by omega)
 have x0 := kst hbz (by omega) GX.1
 have x1 := kst hbz (by omega) GX.2
 have P := eig_new ((w.alloc (.cells #[.int .i64 z, .int .i64 d, .int .i64 s, .int .i64 l, .int .i64 a] 23)).alloc (.cells #[.int .i64 ge, .slice gA n gc] 51)) (.int .i64 0) (.int .i64 0) (.int .i64 0) (.int .i64 0) (.int .i64 0) (.int .i64 0) (.int .i64 0) (.slice none 0 0) 83
 rw [s2] at P
 have hb0 := kal (kal (bl w (.cells #[.int .i64 z, .int .i64 d, .int .i64 s, .int .i64 l, .int .i64 a] 23)) (.cells #[.int .i64 ge, .slice gA n gc] 51)) (.cells #[.int .i64 0, .int .i64 0, .int .i64 0, .int .i64 0, .int .i64 0, .int .i64 0, .int .i64 0, .slice none 0 0] 83)
 have l2 : w.heap.size + 2 < (((w.alloc (.cells #[.int .i64 z, .int .i64 d, .int .i64 s, .int .i64 l, .int .i64 a] 23)).alloc (.cells #[.int .i64 ge, .slice gA n gc] 51)).alloc (.cells #[.int .i64 0, .int .i64 0, .int .i64 0, .int .i64 0, .int .i64 0, .int .i64 0, .int .i64 0, .slice none 0 0] 83)).heap.size := by simp
 clear GX hbz GG0 s1 s2
 go_enter Tryz.func67, Tryz.ntmps67
 go_upto_region 1 with fail
 generalize ((w.alloc (.cells #[.int .i64 z, .int .i64 d, .int .i64 s, .int .i64 l, .int .i64 a] 23)).alloc (.cells #[.int .i64 ge, .slice gA n gc] 51)).alloc (.cells #[.int .i64 0, .int .i64 0, .int .i64 0, .int .i64 0, .int .i64 0, .int .i64 0, .int .i64 0, .slice none 0 0] 83) = w0 at *
 obtain ⟨g0, g1, g2, g3, g4⟩ := id GG
 go_upto_region 2 with (go_at_call 66; (with_reducible refine (HL.out _ hb0).mono ?_); rintro e w1 ⟨rfl, hb1⟩)
 clear g0 g1 g2 g3 g4
 replace GG := GG.keep hb1 (by omega)
 replace P := P.keep hb1 l2
 replace x0 := kst hb1 (by omega) x0
 replace x1 := kst hb1 (by omega) x1
 replace hb0 := bt hb0 hb1
 replace l2 := Nat.lt_of_lt_of_le l2 hb1.size
 clear hb1
 go_upto_region 5 with (go_at_call 80; (with_reducible refine (HS.out _ hb0).mono ?_); rintro e w2 ⟨⟨Y, y, rfl, hs⟩, hb1⟩)
 have hxS := bl w2 (.cells #[.int .i64 r.addr, .int .i64 r.stamp, .slice Y r.load.length y] 124)
 have T := three_new w2 (.int .i64 r.addr) (.int .i64 r.stamp) (.slice Y r.load.length y) 124
 obtain ⟨Y', y', hv, h1, h2, hsl, -⟩ := hs.form
 simp only [Value.slice.injEq] at hv
 obtain ⟨rfl, -, rfl⟩ := hv
 have hsl2 := hsl.next hxS
 replace GG := (GG.keep hb1 (by omega)).keep hxS (by have := hb1.size; omega)
 replace P := (P.keep hb1 l2).keep hxS (Nat.lt_of_lt_of_le l2 hb1.size)
 replace hb0 := bt (bt hb0 hb1) hxS
 obtain ⟨gs, hgs⟩ : ∃ q, q = w2.heap.size := ⟨_, rfl⟩
 have lT : gs < (w2.alloc (.cells #[.int .i64 r.addr, .int .i64 r.stamp, .slice Y r.load.length y] 124)).heap.size := by rw [hgs]; simp
 replace l2 : w.heap.size + 2 < gs := by have := hb1.size; omega
 rw [← hgs] at T ⊢
 clear hgs hxS hb1 hs hsl x0 x1
 generalize w2.alloc (.cells #[.int .i64 r.addr, .int .i64 r.stamp, .slice Y r.load.length y] 124) = w3 at *
 obtain ⟨t0, t1, t2, -, -, -⟩ := id T
 have HR2 := Lib.hid (HR.out w3 Y y hb0 hsl2 h1 h2)
 clear hsl2 h1 h2
 obtain ⟨g0, g1, g2, g3, g4⟩ := id GG
 go_upto_region 8 with (go_at_call 81; (with_reducible refine HR2.out.mono ?_); rintro e w4 ⟨⟨X, xc, rfl, hqo⟩, hb3⟩)
 have hxA := bl w4 (.cells #[.int .i64 q.kd, .int .i64 q.sq, .int .i64 q.ep, .int .i64 q.ps, .int .i64 q.nm, .int .i64 q.z, .int .i64 q.wh, .slice X q.l.length xc] 83)
 replace T := (T.keep hb3 lT).keep hxA (Nat.lt_of_lt_of_le lT hb3.size)
 replace P := (P.keep hb3 (by omega)).keep hxA (by have := hb3.size; omega)
 replace hb0 := bt (bt hb0 hb3) hxA
 have FQ := c8_new w4 (.int .i64 q.kd) (.int .i64 q.sq) (.int .i64 q.ep) (.int .i64 q.ps) (.int .i64 q.nm) (.int .i64 q.z) (.int .i64 q.wh) (.slice X q.l.length xc) 83
 have HQO : Hid (Own _ _ _ _ _) := Lib.hid (hqo.below hxA)
 have l3 : w.heap.size + 2 < w3.heap.size := by omega
 clear hqo hxA hb3 g0 g1 g2 g3 g4 t0 t1 t2 GG HR HR2
 generalize w4.alloc (.cells #[.int .i64 q.kd, .int .i64 q.sq, .int .i64 q.ep, .int .i64 q.ps, .int .i64 q.nm, .int .i64 q.z, .int .i64 q.wh, .slice X q.l.length xc] 83) = w5 at *
 obtain ⟨t0, t1, t2, -, -, -⟩ := id T
 obtain ⟨q0, q1, q2, q3, q4, q5, q6, q7⟩ := id FQ
 obtain ⟨z0, z1, z2, z3, z4, z5, z6, z7, f0, f1, f2, f3, f4, f5, f6, f7⟩ := id P
 cases c
 ·have a4 : (((r.stamp : Nat) : Int) != q.sq) = true := bne_iff_ne.2 fun k => by
   have := HQ.out.2 k.symm
   cases this
  clear HQ HS
  go_wp2_with fail
  have k7 := P.all (.int .i64 0) (.int .i64 0) (.int .i64 0) (.int .i64 0) (.int .i64 0) (.int .i64 0) (.int .i64 0) (.slice none 0 0)
  exact bodyPost_ret (v := .tuple #[.agg #[.int .i64 0, .int .i64 0, .int .i64 0, .int .i64 0, .int .i64 0, .int .i64 0, .int .i64 0, .slice none 0 0], .bool false]) (by simp [results, Tryz.results67, go_sem, k7.c0, k7.c1, k7.c2, k7.c3, k7.c4, k7.c5, k7.c6, k7.c7]) rfl ⟨⟨none, 0, rfl, own_nil _ _ _⟩, below_all hb0 (by omega) _ _ _ _ _ _ _ _⟩
 ·have a4 : (((r.stamp : Nat) : Int) != q.sq) = false := by rw [HQ.out.1 rfl]; exact bne_self_eq_false _
  clear HQ HS
  go_wp2_with fail
  have k7 := P.all (.int .i64 q.kd) (.int .i64 q.sq) (.int .i64 q.ep) (.int .i64 q.ps) (.int .i64 q.nm) (.int .i64 q.z) (.int .i64 q.wh) (.slice X q.l.length xc)
  have o9 := own_all (g := w.heap.size + 2) HQO.out l3 (.int .i64 q.kd) (.int .i64 q.sq) (.int .i64 q.ep) (.int .i64 q.ps) (.int .i64 q.nm) (.int .i64 q.z) (.int .i64 q.wh) (.slice X q.l.length xc)
  exact bodyPost_ret (v := .tuple #[.agg #[.int .i64 q.kd, .int .i64 q.sq, .int .i64 q.ep, .int .i64 q.ps, .int .i64 q.nm, .int .i64 q.z, .int .i64 q.wh, .slice X q.l.length xc], .bool true]) (by simp [results, Tryz.results67, go_sem, k7.c0, k7.c1, k7.c2, k7.c3, k7.c4, k7.c5, k7.c6, k7.c7]) rfl ⟨⟨X, xc, rfl, o9.less (by omega)⟩, below_all hb0 (by omega) _ _ _ _ _ _ _ _⟩
theorem saysY_c (c : Bool) (z d s l a cp sl : Int) (g : Gt) (n : Nat) (w : World) (ho : Ok z d s l a) (hs : SlotOk l cp sl) (hg : g.In w w.heap.size) (hn : g.l.length = n) (hc : c = true ↔ SayOk z d g.e g.l (cellN l a cp sl)) :
  Calls Tryz.prog 67 #[.agg #[.int .i64 z, .int .i64 d, .int .i64 s, .int .i64 l, .int .i64 a], .agg #[.int .i64 g.e, .slice g.A n g.c], .int .i64 cp, .int .i64 sl] w fun e w' => SayB w.heap.size c (pickR c (sayR g.l)) e w' ∧ Below w.heap.size w w' := by
 have no_of : ¬ SayOk z d g.e g.l (cellN l a cp sl) → c = false := fun h => Bool.eq_false_iff.2 fun k => h (hc.1 k)
 have hgc : n ≤ g.c := by have := hg.l.1; omega
 have cL : ∀ W, Below w.heap.size w W → Calls Tryz.prog 66 #[.agg #[.int .i64 z, .int .i64 d, .int .i64 s, .int .i64 l, .int .i64 a], .int .i64 cp, .int .i64 sl] W fun e w' => e = .returned (.tuple #[.int .i64 (a + cp * l + sl), .int .i64 0]) ∧ Below W.heap.size W w' := fun W hW =>
  gmt.log_at z d s l a cp sl _ 0 W ho ⟨fun _ => ⟨rfl, rfl⟩, fun h => absurd ⟨by rcases hs.1 with q | q <;> omega, by have := hs.2; omega, by have := hs.2; omega⟩ h⟩
 by_cases he : g.e = 0
 case neg =>
  obtain rfl := no_of fun h => he h.1
  exact saysY_err z d s l a cp sl g.e g.A n g.c _ 0 w (.inr ⟨rfl, he⟩) cL
 have cS : ∀ W, Below w.heap.size w W → Calls Tryz.prog 80 #[.slice g.A n g.c] W fun e w' => OpR W.heap.size (opened g.l) e w' ∧ Below W.heap.size W w' := fun W hW => open_rY n g.c g.A g.l W hn hgc hg.l.2.1 (hg.h.next hW)
 have hN : ((cellN l a cp sl : Nat) : Int) = a + cp * l + sl := by
  obtain ⟨-, -, -, o4, o5⟩ := ho
  obtain ⟨h1, h2, h3⟩ := hs
  unfold cellN
  rcases h1 with rfl | rfl <;> omega
 by_cases hs2 : (opened g.l).err = 0 ∧ ((opened g.l).addr : Int) = a + cp * l + sl
 case neg =>
  obtain rfl := no_of fun h => hs2 ⟨h.2.1, by rw [h.2.2.1]; exact hN⟩
  exact saysY_no z d s l a cp sl g.e g.A n g.c _ 0 w (opened g.l) he rfl hs2 cL cS
 have h96 : (opened g.l).load.length ≤ 1048576 := by have := (enc_opened hs2.1).2.2.2; omega
 by_cases hr : RdOk z d (opened g.l).load
 ·refine saysY_sec z d s l a cp sl g.e g.A n g.c _ 0 w (opened g.l) (sayR g.l) c (hc.trans ⟨fun h => h.2.2.2.2, fun h => ⟨he, hs2.1, by have := hs2.2; omega, hr, h⟩⟩) he rfl hs2.1 hs2.2 cL cS ?_
  intro W Y y hW h1 h2 h3
  exact lrc.read_yes_c z d s l a Y _ y _ W ho rfl h2 h3 h96 h1 hr
 ·obtain rfl := no_of fun h => hr h.2.2.2.1
  refine saysY_rno z d s l a cp sl g.e g.A n g.c _ 0 w (opened g.l) 4 (by decide) he rfl hs2.1 hs2.2 cL cS ?_
  intro W Y y hW h1 h2 h3
  exact lrc.read_no_c 4 z d s l a Y _ y _ W (.inr ⟨ho, hr, rfl⟩) rfl h2 h3 h96 h1
end Go.Proofs.YtbfdpibjicjagaaGreatDoor.prr
namespace Go.Proofs.YtbfdpibjicjagaaGreatDoor.prr
open Go.RowKit Go.Lib
open Go.Proofs.YtbfdpibjicjagaaGreatDoor.gmt (Ok)
open Go.Proofs.YtbfdpibjicjagaaGreatDoor.anc (AV AC ac_new bl kal kst ks bm ka)
open Go.Proofs.YtbfdpibjicjagaaGreatDoor.tbl (G5 g5_new)
open Go.Proofs.YtbfdpibjicjagaaGreatDoor.lrc (Rcd RcR C8 c8_new Eig eig_new own_all below_all noRec SlotOk cellN)
theorem own_formY {w : World} {base : Nat} {x : Int} {vs : List Int} {v : Value} (h : OwnV w base 3 v (ints vs ++ [.int .i64 x])) : ∃ (A : Option Addr) (c : Nat), v = .slice A (vs ++ [x]).length c ∧ OwnV w base 3 (.slice A (vs ++ [x]).length c) (ints (vs ++ [x])) := by
 have e : ints vs ++ [.int .i64 x] = ints (vs ++ [x]) := by simp [ints]
 rw [e] at h
 obtain ⟨A, c, he, -, -, -, -⟩ := h.form
 rw [ints_length] at he
 subst he
 exact ⟨A, c, rfl, h⟩
theorem gotY_new (w : World) (a b : Value) (t : TypeId) : (w.alloc (.cells #[a, b] t)).cell? ⟨w.heap.size, 0, none⟩ = some a ∧ (w.alloc (.cells #[a, b] t)).cell? ⟨w.heap.size, 1, none⟩ = some b := by
 have h9 := heap_alloc_new w (.cells #[a, b] t)
 constructor <;> (rw [cell_of_row _ _ _ _ _ _ h9]; rfl)
structure LSt where
 r : Rcd
 ws : List Int
 how : Int
def stepL (c o : Bool) (k : Int) (q : Rcd) (t : LSt) : LSt := if o = true then (if t.how = 1 then t else ⟨q, t.ws, 1⟩) else ⟨t.r, t.ws ++ [k], if c = true ∧ t.how = 3 then 2 else t.how⟩
def stL (c1 c2 o1 o2 : Bool) (q1 q2 : Rcd) : Nat → LSt
 | 0 => ⟨noRec, [], 3⟩
 | 1 => stepL c1 o1 0 q1 ⟨noRec, [], 3⟩
 | _ => stepL c2 o2 1 q2 (stepL c1 o1 0 q1 ⟨noRec, [], 3⟩)
theorem stL_fin (c1 c2 o1 o2 : Bool) (q1 q2 : Rcd) (h1 : o1 = true → c1 = true) (h2 : o2 = true → c2 = true) :
  ((stL c1 c2 o1 o2 q1 q2 2).how = 1 ∧ lookH c1 c2 o1 o2 = 1 ∧ (stL c1 c2 o1 o2 q1 q2 2).r = lookR o1 o2 q1 q2 ∧ (stL c1 c2 o1 o2 q1 q2 2).ws = lookW o1 o2) ∨ ((stL c1 c2 o1 o2 q1 q2 2).how ≠ 1 ∧ (stL c1 c2 o1 o2 q1 q2 2).how = lookH c1 c2 o1 o2 ∧ lookR o1 o2 q1 q2 = noRec ∧ lookW o1 o2 = []) := by
 cases o1 <;> cases o2 <;> cases c1 <;> cases c2 <;> simp_all [stL, stepL, lookH, lookR, lookW]
theorem stepL_no (o : Bool) (k : Int) (q : Rcd) (t : LSt) (h : o = true → false = true) : stepL false o k q t = ⟨t.r, t.ws ++ [k], t.how⟩ := by
 cases o
 ·simp [stepL]
 ·exact absurd (h rfl) (by decide)
theorem stepL_3 (k : Int) (q : Rcd) (t : LSt) (h : t.how = 3) : stepL true false k q t = ⟨t.r, t.ws ++ [k], 2⟩ := by simp [stepL, h]
theorem stepL_k (k : Int) (q : Rcd) (t : LSt) (h : ¬ t.how = 3) : stepL true false k q t = ⟨t.r, t.ws ++ [k], t.how⟩ := by simp [stepL, h]
theorem stepL_1 (c : Bool) (k : Int) (q : Rcd) (t : LSt) (h : t.how = 1) : stepL c true k q t = t := by simp [stepL, h]
theorem stepL_n (c : Bool) (k : Int) (q : Rcd) (t : LSt) (h : ¬ t.how = 1) : stepL c true k q t = ⟨q, t.ws, 1⟩ := by simp [stepL, h]
theorem lookY_ok (c1 c2 o1 o2 : Bool) (z d s l a : Int) (x : AV) (g h : Gt) (n m : Nat) (sl sq at' of left : Int) (q1 q2 : Rcd) (ad : Int) (w : World) (ho1 : o1 = true → c1 = true) (ho2 : o2 = true → c2 = true) (cA : ∀ W, Below w.heap.size w W → Calls Tryz.prog 29 #[.agg #[.int .i64 z, .int .i64 d, .int .i64 s, .int .i64 l, .int .i64 a], .agg #[.int .i64 x.gen, .int .i64 x.ep, .int .i64 x.pos, .int .i64 x.seq, .int .i64 x.last, .string x.lab, .slice x.HA x.hs.length x.hc]] W fun e w' => e = .returned (.int .i64 0) ∧ Below W.heap.size W w') (cL : ∀ W, Below w.heap.size w W → Calls Tryz.prog 66 #[.agg #[.int .i64 z, .int .i64 d, .int .i64 s, .int .i64 l, .int .i64 a], .int .i64 0, .int .i64 sl] W fun e w' => e = .returned (.tuple #[.int .i64 ad, .int .i64 0]) ∧ Below W.heap.size W w') (cS1 : ∀ W, Below w.heap.size w W → Calls Tryz.prog 67 #[.agg #[.int .i64 z, .int .i64 d, .int .i64 s, .int .i64 l, .int .i64 a], .agg #[.int .i64 g.e, .slice g.A n g.c], .int .i64 0, .int .i64 sl] W fun e w' => SayB W.heap.size c1 (pickR c1 q1) e w' ∧ Below W.heap.size W w') (cS2 : ∀ W, Below w.heap.size w W → Calls Tryz.prog 67 #[.agg #[.int .i64 z, .int .i64 d, .int .i64 s, .int .i64 l, .int .i64 a], .agg #[.int .i64 h.e, .slice h.A m h.c], .int .i64 1, .int .i64 sl] W fun e w' => SayB W.heap.size c2 (pickR c2 q2) e w' ∧ Below W.heap.size W w') (cI1 : c1 = true → ∀ (X : Option Addr) (xc : Nat) (W : World), Calls Tryz.prog 68 #[.agg #[.int .i64 q1.kd, .int .i64 q1.sq, .int .i64 q1.ep, .int .i64 q1.ps, .int .i64 q1.nm, .int .i64 q1.z, .int .i64 q1.wh, .slice X q1.l.length xc], .agg #[.int .i64 x.gen, .int .i64 x.ep, .int .i64 x.pos, .int .i64 x.seq, .int .i64 x.last, .string x.lab, .slice x.HA x.hs.length x.hc], .int .i64 sq, .int .i64 at', .int .i64 of, .int .i64 left] W fun e w' => e = .returned (.bool o1) ∧ Below W.heap.size W w') (cI2 : c2 = true → ∀ (X : Option Addr) (xc : Nat) (W : World), Calls Tryz.prog 68 #[.agg #[.int .i64 q2.kd, .int .i64 q2.sq, .int .i64 q2.ep, .int .i64 q2.ps, .int .i64 q2.nm, .int .i64 q2.z, .int .i64 q2.wh, .slice X q2.l.length xc], .agg #[.int .i64 x.gen, .int .i64 x.ep, .int .i64 x.pos, .int .i64 x.seq, .int .i64 x.last, .string x.lab, .slice x.HA x.hs.length x.hc], .int .i64 sq, .int .i64 at', .int .i64 of, .int .i64 left] W fun e w' => e = .returned (.bool o2) ∧ Below W.heap.size W w') :
  Calls Tryz.prog 50 #[.agg #[.int .i64 z, .int .i64 d, .int .i64 s, .int .i64 l, .int .i64 a], .agg #[.int .i64 x.gen, .int .i64 x.ep, .int .i64 x.pos, .int .i64 x.seq, .int .i64 x.last, .string x.lab, .slice x.HA x.hs.length x.hc], .agg #[.int .i64 g.e, .slice g.A n g.c], .agg #[.int .i64 h.e, .slice h.A m h.c], .int .i64 sl, .int .i64 sq, .int .i64 at', .int .i64 of, .int .i64 left] w fun e w' => LookO w.heap.size (lookR o1 o2 q1 q2) (lookW o1 o2) (lookH c1 c2 o1 o2) 0 e w' ∧ Below w.heap.size w w' := by
 have HA := Lib.hid cA
 have HL := Lib.hid cL
 have HS1 := Lib.hid cS1
 have HS2 := Lib.hid cS2
 have HI1 := Lib.hid cI1
 have HI2 := Lib.hid cI2
 have HO1 := Lib.hid ho1
 have HO2 := Lib.hid ho2
 clear cA cL cS1 cS2 cI1 cI2 ho1 ho2
 have GG0 := g5_new w z d s l a
 have s1 : (w.alloc (.cells #[.int .i64 z, .int .i64 d, .int .i64 s, .int .i64 l, .int .i64 a] 23)).heap.size = w.heap.size + 1 := by simp
 have s2 : ((w.alloc (.cells #[.int .i64 z, .int .i64 d, .int .i64 s, .int .i64 l, .int .i64 a] 23)).alloc (.cells #[.int .i64 x.gen, .int .i64 x.ep, .int .i64 x.pos, .int .i64 x.seq, .int .i64 x.last, .string x.lab, .slice x.HA x.hs.length x.hc] 26)).heap.size = w.heap.size + 2 := by simp
 have s3 : (((w.alloc (.cells #[.int .i64 z, .int .i64 d, .int .i64 s, .int .i64 l, .int .i64 a] 23)).alloc (.cells #[.int .i64 x.gen, .int .i64 x.ep, .int .i64 x.pos, .int .i64 x.seq, .int .i64 x.last, .string x.lab, .slice x.HA x.hs.length x.hc] 26)).alloc (.cells #[.int .i64 g.e, .slice g.A n g.c] 51)).heap.size = w.heap.size + 3 := by simp
 have s4 : ((((w.alloc (.cells #[.int .i64 z, .int .i64 d, .int .i64 s, .int .i64 l, .int .i64 a] 23)).alloc (.cells #[.int .i64 x.gen, .int .i64 x.ep, .int .i64 x.pos, .int .i64 x.seq, .int .i64 x.last, .string x.lab, .slice x.HA x.hs.length x.hc] 26)).alloc (.cells #[.int .i64 g.e, .slice g.A n g.c] 51)).alloc (.cells #[.int .i64 h.e, .slice h.A m h.c] 51)).heap.size = w.heap.size + 4 := by simp
 have FF0 := ac_new (w.alloc (.cells #[.int .i64 z, .int .i64 d, .int .i64 s, .int .i64 l, .int .i64 a] 23)) x
 rw [s1] at FF0
 have GX : (((w.alloc (.cells #[.int .i64 z, .int .i64 d, .int .i64 s, .int .i64 l, .int .i64 a] 23)).alloc (.cells #[.int .i64 x.gen, .int .i64 x.ep, .int .i64 x.pos, .int .i64 x.seq, .int .i64 x.last, .string x.lab, .slice x.HA x.hs.length x.hc] 26)).alloc (.cells #[.int .i64 g.e, .slice g.A n g.c] 51)).cell? ⟨w.heap.size + 2, 0, none⟩ = some (.int .i64 g.e) ∧ (((w.alloc (.cells #[.int .i64 z, .int .i64 d, .int .i64 s, .int .i64 l, .int .i64 a] 23)).alloc (.cells #[.int .i64 x.gen, .int .i64 x.ep, .int .i64 x.pos, .int .i64 x.seq, .int .i64 x.last, .string x.lab, .slice x.HA x.hs.length x.hc] 26)).alloc (.cells #[.int .i64 g.e, .slice g.A n g.c] 51)).cell? ⟨w.heap.size + 2, 1, none⟩ = some (.slice g.A n g.c) := by
  have h9 := heap_alloc_new ((w.alloc (.cells #[.int .i64 z, .int .i64 d, .int .i64 s, .int .i64 l, .int .i64 a] 23)).alloc (.cells #[.int .i64 x.gen, .int .i64 x.ep, .int .i64 x.pos, .int .i64 x.seq, .int .i64 x.last, .string x.lab, .slice x.HA x.hs.length x.hc] 26)) (.cells #[.int .i64 g.e, .slice g.A n g.c] 51)
  rw [s2] at h9
  constructor <;> (rw [cell_of_row _ _ _ _ _ _ h9]; rfl)
 have HX : ((((w.alloc (.cells #[.int .i64 z, .int .i64 d, .int .i64 s, .int .i64 l, .int .i64 a] 23)).alloc (.cells #[.int .i64 x.gen, .int .i64 x.ep, .int .i64 x.pos, .int .i64 x.seq, .int .i64 x.last, .string x.lab, .slice x.HA x.hs.length x.hc] 26)).alloc (.cells #[.int .i64 g.e, .slice g.A n g.c] 51)).alloc (.cells #[.int .i64 h.e, .slice h.A m h.c] 51)).cell? ⟨w.heap.size + 3, 0, none⟩ = some (.int .i64 h.e) ∧ ((((w.alloc (.cells #[.int .i64 z, .int .i64 d, .int .i64 s, .int .i64 l, .int .i64 a] 23)).alloc (.cells #[.int .i64 x.gen, .int .i64 x.ep, .int .i64 x.pos, .int .i64 x.seq, .int .i64 x.last, .string x.lab, .slice x.HA x.hs.length x.hc] 26)).alloc (.cells #[.int .i64 g.e, .slice g.A n g.c] 51)).alloc (.cells #[.int .i64 h.e, .slice h.A m h.c] 51)).cell? ⟨w.heap.size + 3, 1, none⟩ = some (.slice h.A m h.c) := by
  have h9 := heap_alloc_new (((w.alloc (.cells #[.int .i64 z, .int .i64 d, .int .i64 s, .int .i64 l, .int .i64 a] 23)).alloc (.cells #[.int .i64 x.gen, .int .i64 x.ep, .int .i64 x.pos, .int .i64 x.seq, .int .i64 x.last, .string x.lab, .slice x.HA x.hs.length x.hc] 26)).alloc (.cells #[.int .i64 g.e, .slice g.A n g.c] 51)) (.cells #[.int .i64 h.e, .slice h.A m h.c] 51)
  rw [s3] at h9
  constructor <;> (rw [cell_of_row _ _ _ _ _ _ h9]; rfl)
 have hbz := bl ((((w.alloc (.cells #[.int .i64 z, .int .i64 d, .int .i64 s, .int .i64 l, .int .i64 a] 23)).alloc (.cells #[.int .i64 x.gen, .int .i64 x.ep, .int .i64 x.pos, .int .i64 x.seq, .int .i64 x.last, .string x.lab, .slice x.HA x.hs.length x.hc] 26)).alloc (.cells #[.int .i64 g.e, .slice g.A n g.c] 51)).alloc (.cells #[.int .i64 h.e, .slice h.A m h.c] 51)) (.cells #[.int .i64 0, .int .i64 0, .int .i64 0, .int .i64 0, .int .i64 0, .int .i64 0, .int .i64 0, .slice none 0 0] 83)
 have hby := bl (((w.alloc (.cells #[.int .i64 z, .int .i64 d, .int .i64 s, .int .i64 l, .int .i64 a] 23)).alloc (.cells #[.int .i64 x.gen, .int .i64 x.ep, .int .i64 x.pos, .int .i64 x.seq, .int .i64 x.last, .string x.lab, .slice x.HA x.hs.length x.hc] 26)).alloc (.cells #[.int .i64 g.e, .slice g.A n g.c] 51)) (.cells #[.int .i64 h.e, .slice h.A m h.c] 51)
 have GG := (((GG0.keep (bl (w.alloc (.cells #[.int .i64 z, .int .i64 d, .int .i64 s, .int .i64 l, .int .i64 a] 23)) (.cells #[.int .i64 x.gen, .int .i64 x.ep, .int .i64 x.pos, .int .i64 x.seq, .int .i64 x.last, .string x.lab, .slice x.HA x.hs.length x.hc] 26)) (by omega)).keep (bl ((w.alloc (.cells #[.int .i64 z, .int .i64 d, .int .i64 s, .int .i64 l, .int .i64 a] 23)).alloc (.cells #[.int .i64 x.gen, .int .i64 x.ep, .int .i64 x.pos, .int .i64 x.seq, .int .i64 x.last, .string x.lab, .slice x.HA x.hs.length x.hc] 26)) (.cells #[.int .i64 g.e, .slice g.A n g.c] 51)) (by omega)).keep hby (by omega)).keep hbz (by omega)
 have FF := ((FF0.keep (bl ((w.alloc (.cells #[.int .i64 z, .int .i64 d, .int .i64 s, .int .i64 l, .int .i64 a] 23)).alloc (.cells #[.int .i64 x.gen, .int .i64 x.ep, .int .i64 x.pos, .int .i64 x.seq, .int .i64 x.last, .string x.lab, .slice x.HA x.hs.length x.hc] 26)) (.cells #[.int .i64 g.e, .slice g.A n g.c] 51)) (by omega)).keep hby (by omega)).keep hbz (by omega)
 have x0 := kst hbz (by omega) (kst hby (by omega) GX.1)
 have x1 := kst hbz (by omega) (kst hby (by omega) GX.2)
 have y0 := kst hbz (by omega) HX.1
 have y1 := kst hbz (by omega) HX.2
 have P := eig_new ((((w.alloc (.cells #[.int .i64 z, .int .i64 d, .int .i64 s, .int .i64 l, .int .i64 a] 23)).alloc (.cells #[.int .i64 x.gen, .int .i64 x.ep, .int .i64 x.pos, .int .i64 x.seq, .int .i64 x.last, .string x.lab, .slice x.HA x.hs.length x.hc] 26)).alloc (.cells #[.int .i64 g.e, .slice g.A n g.c] 51)).alloc (.cells #[.int .i64 h.e, .slice h.A m h.c] 51)) (.int .i64 0) (.int .i64 0) (.int .i64 0) (.int .i64 0) (.int .i64 0) (.int .i64 0) (.int .i64 0) (.slice none 0 0) 83
 rw [s4] at P
 have hb0 := kal (kal (kal (kal (bl w (.cells #[.int .i64 z, .int .i64 d, .int .i64 s, .int .i64 l, .int .i64 a] 23)) (.cells #[.int .i64 x.gen, .int .i64 x.ep, .int .i64 x.pos, .int .i64 x.seq, .int .i64 x.last, .string x.lab, .slice x.HA x.hs.length x.hc] 26)) (.cells #[.int .i64 g.e, .slice g.A n g.c] 51)) (.cells #[.int .i64 h.e, .slice h.A m h.c] 51)) (.cells #[.int .i64 0, .int .i64 0, .int .i64 0, .int .i64 0, .int .i64 0, .int .i64 0, .int .i64 0, .slice none 0 0] 83)
 have l2 : w.heap.size + 4 < (((((w.alloc (.cells #[.int .i64 z, .int .i64 d, .int .i64 s, .int .i64 l, .int .i64 a] 23)).alloc (.cells #[.int .i64 x.gen, .int .i64 x.ep, .int .i64 x.pos, .int .i64 x.seq, .int .i64 x.last, .string x.lab, .slice x.HA x.hs.length x.hc] 26)).alloc (.cells #[.int .i64 g.e, .slice g.A n g.c] 51)).alloc (.cells #[.int .i64 h.e, .slice h.A m h.c] 51)).alloc (.cells #[.int .i64 0, .int .i64 0, .int .i64 0, .int .i64 0, .int .i64 0, .int .i64 0, .int .i64 0, .slice none 0 0] 83)).heap.size := by simp
 clear GX HX hbz hby GG0 FF0 s1 s2 s3 s4
 go_enter Tryz.func50, Tryz.ntmps50
 go_upto_region 1 with fail
 generalize ((((w.alloc (.cells #[.int .i64 z, .int .i64 d, .int .i64 s, .int .i64 l, .int .i64 a] 23)).alloc (.cells #[.int .i64 x.gen, .int .i64 x.ep, .int .i64 x.pos, .int .i64 x.seq, .int .i64 x.last, .string x.lab, .slice x.HA x.hs.length x.hc] 26)).alloc (.cells #[.int .i64 g.e, .slice g.A n g.c] 51)).alloc (.cells #[.int .i64 h.e, .slice h.A m h.c] 51)).alloc (.cells #[.int .i64 0, .int .i64 0, .int .i64 0, .int .i64 0, .int .i64 0, .int .i64 0, .int .i64 0, .slice none 0 0] 83) = w0 at *
 obtain ⟨g0, g1, g2, g3, g4⟩ := id GG
 obtain ⟨u0, u1, u2, u3, u4, u5, u6⟩ := id FF
 go_upto_region 2 with (go_at_call 29; (with_reducible refine (HA.out _ hb0).mono ?_); rintro e w1 ⟨rfl, hb1⟩)
 clear g0 g1 g2 g3 g4 u0 u1 u2 u3 u4 u5 u6
 replace GG := GG.keep hb1 (by omega)
 replace FF := FF.keep hb1 (by omega)
 replace P := P.keep hb1 l2
 replace x0 := kst hb1 (by omega) x0
 replace x1 := kst hb1 (by omega) x1
 replace y0 := kst hb1 (by omega) y0
 replace y1 := kst hb1 (by omega) y1
 replace hb0 := bt hb0 hb1
 replace l2 := Nat.lt_of_lt_of_le l2 hb1.size
 clear hb1
 obtain ⟨g0, g1, g2, g3, g4⟩ := id GG
 go_upto_region 5 with (go_at_call 66; (with_reducible refine (HL.out _ hb0).mono ?_); rintro e w2 ⟨rfl, hb1⟩)
 clear g0 g1 g2 g3 g4
 replace GG := GG.keep hb1 (by omega)
 replace FF := FF.keep hb1 (by omega)
 replace P := P.keep hb1 l2
 replace x0 := kst hb1 (by omega) x0
 replace x1 := kst hb1 (by omega) x1
 replace y0 := kst hb1 (by omega) y0
 replace y1 := kst hb1 (by omega) y1
 replace hb0 := bt hb0 hb1
 replace l2 := Nat.lt_of_lt_of_le l2 hb1.size
 clear hb1
 go_upto_region 9 with fail
 have HMG := Lib.hid (show ∀ W, Below (w.heap.size + 4) w2 W → G5 W w.heap.size z d s l a ∧ AC W (w.heap.size + 1) x from fun W hW => ⟨GG.keep hW (by omega), FF.keep hW (by omega)⟩)
 have hw0 := Lib.hid hb0
 have i0 : ∀ W, (Instr.index 120 (.agg #[.int .i64 g.e, .slice g.A n g.c, .int .i64 h.e, .slice h.A m h.c]) (.int .i64 0)).run Tryz.prog W = .ok (.agg #[.int .i64 g.e, .slice g.A n g.c]) W := fun _ => by kernel_rfl
 have i1 : ∀ W, (Instr.index 120 (.agg #[.int .i64 g.e, .slice g.A n g.c, .int .i64 h.e, .slice h.A m h.c]) (.int .i64 1)).run Tryz.prog W = .ok (.agg #[.int .i64 h.e, .slice h.A m h.c]) W := fun _ => by kernel_rfl
 clear x0 x1 y0 y1 GG FF
 go_loopw [19, 20, 49] (fun V H i w' => ∃ (k : Nat) (X : Option Addr) (xc : Nat) (A : Option Addr) (ac : Nat) (t : LSt), k ≤ 2 ∧ i = .int .i64 (k : Int) ∧ t = stL c1 c2 o1 o2 q1 q2 k ∧ V = .slice A t.ws.length ac ∧ H = .int .i64 t.how ∧ t.ws.length ≤ k ∧ Eig w' (w.heap.size + 4) (.int .i64 t.r.kd) (.int .i64 t.r.sq) (.int .i64 t.r.ep) (.int .i64 t.r.ps) (.int .i64 t.r.nm) (.int .i64 t.r.z) (.int .i64 t.r.wh) (.slice X t.r.l.length xc) ∧ Own w' w2.heap.size 5 (.slice X t.r.l.length xc) t.r.l ∧ OwnV w' w2.heap.size 3 (.slice A t.ws.length ac) (ints t.ws) ∧ Below (w.heap.size + 4) w2 w' ∧ w2.heap.size ≤ w'.heap.size) (fun _ _ i _ => 2 - (RowKit.intOf i).toNat)
 case atStart => exact ⟨0, none, 0, none, 0, ⟨noRec, [], 3⟩, by omega, rfl, rfl, rfl, rfl, Nat.le_refl _, P, own_nil _ _ _, ownV_nil _ _ _, Below.refl _ _, Nat.le_refl _⟩
 case round =>
  obtain ⟨w5, rfl⟩ : ∃ x, x = wr := ⟨wr, rfl⟩
  obtain ⟨k, X, xc, A, ac, t, hk, rfl, ht, rfl, rfl, hwl, P5, hO5, hV5, hbr, lw⟩ := hrel
  obtain ⟨G5w, F5w⟩ := HMG.out w5 hbr
  have hs0 : Below w.heap.size w w5 := hw0.out.trans (hbr.mono (by omega))
  clear P
  have HT := Lib.hid ht
  clear ht
  have hM : w.heap.size + 4 ≤ w5.heap.size := by omega
  have hN : w.heap.size ≤ w5.heap.size := by omega
  have hk3 : k = 0 ∨ k = 1 ∨ k = 2 := by omega
  rcases hk3 with rfl | rfl | rfl
  case inl =>
   have j1 : (0 : Int) < 2 := by decide
   rw [show ((0 : Nat) : Int) = 0 from rfl]
   obtain ⟨g0, g1, g2, g3, g4⟩ := id G5w
   obtain ⟨u0, u1, u2, u3, u4, u5, u6⟩ := id F5w
   clear G5w F5w
   cases c1
   case false =>
    obtain rfl : o1 = false := by cases o1; rfl; exact absurd (HO1.out rfl) (by decide)
    have hSY := Lib.hid (show ∀ W, Below w.heap.size w W → Calls Tryz.prog 67 #[.agg #[.int .i64 z, .int .i64 d, .int .i64 s, .int .i64 l, .int .i64 a], .agg #[.int .i64 g.e, .slice g.A n g.c], .int .i64 0, .int .i64 sl] W fun e w' => SayB W.heap.size false noRec e w' ∧ Below W.heap.size W w' from HS1.out)
    go_upto_region 11 with fail
    have hA := bl w5 (.cells #[.int .i64 g.e, .slice g.A n g.c] 51)
    have hGB := gotY_new w5 (.int .i64 g.e) (.slice g.A n g.c) 51
    generalize w5.alloc (.cells #[.int .i64 g.e, .slice g.A n g.c] 51) = wA at *
    obtain ⟨k0, k1⟩ := hGB
    (clear g0 g1 g2 g3 g4 u0 u1 u2 u3 u4 u5 u6)
    obtain ⟨⟨g0, g1, g2, g3, g4⟩, ⟨u0, u1, u2, u3, u4, u5, u6⟩⟩ := HMG.out wA (hbr.trans (hA.mono hM))
    go_upto_region 12 with (go_at_call 67; (with_reducible refine (hSY.out _ (hs0.trans (hA.mono hN))).mono ?_); rintro e w6 ⟨⟨Y, yc, rfl, hyo⟩, hb6⟩)
    have hB := kal (bt hA hb6) (.cells #[.int .i64 noRec.kd, .int .i64 noRec.sq, .int .i64 noRec.ep, .int .i64 noRec.ps, .int .i64 noRec.nm, .int .i64 noRec.z, .int .i64 noRec.wh, .slice Y noRec.l.length yc] 83)
    have RB := c8_new w6 (.int .i64 noRec.kd) (.int .i64 noRec.sq) (.int .i64 noRec.ep) (.int .i64 noRec.ps) (.int .i64 noRec.nm) (.int .i64 noRec.z) (.int .i64 noRec.wh) (.slice Y noRec.l.length yc) 83
    have hyB := hyo.below (bl w6 (.cells #[.int .i64 noRec.kd, .int .i64 noRec.sq, .int .i64 noRec.ep, .int .i64 noRec.ps, .int .i64 noRec.nm, .int .i64 noRec.z, .int .i64 noRec.wh, .slice Y noRec.l.length yc] 83))
    have hlA : w2.heap.size ≤ wA.heap.size := Nat.le_trans lw hA.size
    have hlB : w6.heap.size < (w6.alloc (.cells #[.int .i64 noRec.kd, .int .i64 noRec.sq, .int .i64 noRec.ep, .int .i64 noRec.ps, .int .i64 noRec.nm, .int .i64 noRec.z, .int .i64 noRec.wh, .slice Y noRec.l.length yc] 83)).heap.size := by simp
    have hl6 : w5.heap.size ≤ w6.heap.size := (bt hA hb6).size
    clear k0 k1 hyo
    (clear g0 g1 g2 g3 g4 u0 u1 u2 u3 u4 u5 u6)
    generalize w6.heap.size = gB at *
    generalize w6.alloc (.cells #[.int .i64 noRec.kd, .int .i64 noRec.sq, .int .i64 noRec.ep, .int .i64 noRec.ps, .int .i64 noRec.nm, .int .i64 noRec.z, .int .i64 noRec.wh, .slice Y noRec.l.length yc] 83) = wB at *
    obtain ⟨r0, r1, r2, r3, r4, r5, r6, r7⟩ := id RB
    obtain ⟨⟨g0, g1, g2, g3, g4⟩, ⟨u0, u1, u2, u3, u4, u5, u6⟩⟩ := HMG.out wB (hbr.trans (hB.mono hM))
    go_upto_region 13 with fail
    have h7 := hB
    have hV6 := hV5.below h7
    have hl7 : w2.heap.size ≤ wB.heap.size := Nat.le_trans lw h7.size
    have hfar : ∀ x, (Value.slice A t.ws.length ac).ownBlock = some x → w2.heap.size ≤ x := fun x hx => (World.ownsRow.lt hV5 x hx).1
    go_upto_region 14 with (at_builtin; refine wpList_appV _ rfl (.tmp 74) (.tmp 76) _ _ rfl w2.heap.size 3 tvI (.slice A t.ws.length ac) (ints t.ws) rfl (hV6.alloc _) _ [.int .i64 0] rfl ?_ ?_ ?_ ?_ ?_; (focus (exact (SlV.of_block (vs := [.int .i64 0]) (heap_alloc_new _ _) rfl (Nat.lt_succ_self _)).src (ints_one [0]) Tryz.underlying43 1)); (focus (rw [ints_length]; unfold maxLen; simp; omega)); (focus (rw [ints_length]; simp; omega)); (focus (simp; omega)); intro v8 w8 o8 hg8 hd8; obtain ⟨A8, c8, rfl, o8'⟩ := own_formY o8)
    have h8 := (((h7.mono lw).alloc hl7 (.cells #[.int .i64 0] 3))).grown hg8 (by simp; omega) hfar
    have hO8 : Hid (Own _ _ _ _ _) := Lib.hid (((hO5.below h7).alloc (.cells #[.int .i64 0] 3)).kept hg8 (own_apart ((hO5.below h7).alloc (.cells #[.int .i64 0] 3)) (hV6.alloc (.cells #[.int .i64 0] 3)) (by decide)))
    have P8 := P5.keep h8 l2
    have l8 := h8.size
    go_wp2_with fail
    go_roundw
    case rel => exact ⟨1, X, xc, A8, c8, ⟨t.r, t.ws ++ [0], t.how⟩, by omega, by go_num, by rw [show stL _ _ _ _ q1 q2 1 = stepL _ _ 0 q1 (stL _ _ _ _ q1 q2 0) from rfl, ← HT.out]; exact (stepL_no false 0 q1 t (fun q => q)).symm, by simp, rfl, by rw [List.length_append]; exact Nat.add_le_add hwl (Nat.le_refl 1), P8, hO8.out, o8', hbr.trans (h8.mono (by omega)), by omega⟩
    case measure => simp [RowKit.intOf]
   case true =>
    cases o1
    case false =>
     by_cases hH : t.how = 3
     ·have hh3 : (t.how == 3) = true := beq_iff_eq.2 hH
      have hSY := Lib.hid (show ∀ W, Below w.heap.size w W → Calls Tryz.prog 67 #[.agg #[.int .i64 z, .int .i64 d, .int .i64 s, .int .i64 l, .int .i64 a], .agg #[.int .i64 g.e, .slice g.A n g.c], .int .i64 0, .int .i64 sl] W fun e w' => SayB W.heap.size true q1 e w' ∧ Below W.heap.size W w' from HS1.out)
      have hIY := Lib.hid (HI1.out rfl)
      go_upto_region 11 with fail
      have hA := bl w5 (.cells #[.int .i64 g.e, .slice g.A n g.c] 51)
      have hGB := gotY_new w5 (.int .i64 g.e) (.slice g.A n g.c) 51
      generalize w5.alloc (.cells #[.int .i64 g.e, .slice g.A n g.c] 51) = wA at *
      obtain ⟨k0, k1⟩ := hGB
      (clear g0 g1 g2 g3 g4 u0 u1 u2 u3 u4 u5 u6)
      obtain ⟨⟨g0, g1, g2, g3, g4⟩, ⟨u0, u1, u2, u3, u4, u5, u6⟩⟩ := HMG.out wA (hbr.trans (hA.mono hM))
      go_upto_region 12 with (go_at_call 67; (with_reducible refine (hSY.out _ (hs0.trans (hA.mono hN))).mono ?_); rintro e w6 ⟨⟨Y, yc, rfl, hyo⟩, hb6⟩)
      have hB := kal (bt hA hb6) (.cells #[.int .i64 q1.kd, .int .i64 q1.sq, .int .i64 q1.ep, .int .i64 q1.ps, .int .i64 q1.nm, .int .i64 q1.z, .int .i64 q1.wh, .slice Y q1.l.length yc] 83)
      have RB := c8_new w6 (.int .i64 q1.kd) (.int .i64 q1.sq) (.int .i64 q1.ep) (.int .i64 q1.ps) (.int .i64 q1.nm) (.int .i64 q1.z) (.int .i64 q1.wh) (.slice Y q1.l.length yc) 83
      have hyB := hyo.below (bl w6 (.cells #[.int .i64 q1.kd, .int .i64 q1.sq, .int .i64 q1.ep, .int .i64 q1.ps, .int .i64 q1.nm, .int .i64 q1.z, .int .i64 q1.wh, .slice Y q1.l.length yc] 83))
      have hlA : w2.heap.size ≤ wA.heap.size := Nat.le_trans lw hA.size
      have hlB : w6.heap.size < (w6.alloc (.cells #[.int .i64 q1.kd, .int .i64 q1.sq, .int .i64 q1.ep, .int .i64 q1.ps, .int .i64 q1.nm, .int .i64 q1.z, .int .i64 q1.wh, .slice Y q1.l.length yc] 83)).heap.size := by simp
      have hl6 : w5.heap.size ≤ w6.heap.size := (bt hA hb6).size
      clear k0 k1 hyo
      (clear g0 g1 g2 g3 g4 u0 u1 u2 u3 u4 u5 u6)
      generalize w6.heap.size = gB at *
      generalize w6.alloc (.cells #[.int .i64 q1.kd, .int .i64 q1.sq, .int .i64 q1.ep, .int .i64 q1.ps, .int .i64 q1.nm, .int .i64 q1.z, .int .i64 q1.wh, .slice Y q1.l.length yc] 83) = wB at *
      obtain ⟨r0, r1, r2, r3, r4, r5, r6, r7⟩ := id RB
      obtain ⟨⟨g0, g1, g2, g3, g4⟩, ⟨u0, u1, u2, u3, u4, u5, u6⟩⟩ := HMG.out wB (hbr.trans (hB.mono hM))
      go_upto_region 13 with (go_at_call 68; (with_reducible refine (hIY.out Y yc wB).mono ?_); rintro e w7 ⟨rfl, hb7⟩)
      have h7 := bt hB hb7
      have hV6 := hV5.below h7
      have hl7 : w2.heap.size ≤ w7.heap.size := Nat.le_trans lw h7.size
      have hfar : ∀ x, (Value.slice A t.ws.length ac).ownBlock = some x → w2.heap.size ≤ x := fun x hx => (World.ownsRow.lt hV5 x hx).1
      go_upto_region 14 with (at_builtin; refine wpList_appV _ rfl (.tmp 74) (.tmp 76) _ _ rfl w2.heap.size 3 tvI (.slice A t.ws.length ac) (ints t.ws) rfl (hV6.alloc _) _ [.int .i64 0] rfl ?_ ?_ ?_ ?_ ?_; (focus (exact (SlV.of_block (vs := [.int .i64 0]) (heap_alloc_new _ _) rfl (Nat.lt_succ_self _)).src (ints_one [0]) Tryz.underlying43 1)); (focus (rw [ints_length]; unfold maxLen; simp; omega)); (focus (rw [ints_length]; simp; omega)); (focus (simp; omega)); intro v8 w8 o8 hg8 hd8; obtain ⟨A8, c8, rfl, o8'⟩ := own_formY o8)
      have h8 := (((h7.mono lw).alloc hl7 (.cells #[.int .i64 0] 3))).grown hg8 (by simp; omega) hfar
      have hO8 : Hid (Own _ _ _ _ _) := Lib.hid (((hO5.below h7).alloc (.cells #[.int .i64 0] 3)).kept hg8 (own_apart ((hO5.below h7).alloc (.cells #[.int .i64 0] 3)) (hV6.alloc (.cells #[.int .i64 0] 3)) (by decide)))
      have P8 := P5.keep h8 l2
      have l8 := h8.size
      go_wp2_with fail
      go_roundw
      case rel => exact ⟨1, X, xc, A8, c8, ⟨t.r, t.ws ++ [0], 2⟩, by omega, by go_num, by rw [show stL _ _ _ _ q1 q2 1 = stepL _ _ 0 q1 (stL _ _ _ _ q1 q2 0) from rfl, ← HT.out]; exact (stepL_3 0 q1 t hH).symm, by simp, rfl, by rw [List.length_append]; exact Nat.add_le_add hwl (Nat.le_refl 1), P8, hO8.out, o8', hbr.trans (h8.mono (by omega)), by omega⟩
      case measure => simp [RowKit.intOf]
     ·have hh3 : (t.how == 3) = false := beq_eq_false_iff_ne.2 hH
      have hSY := Lib.hid (show ∀ W, Below w.heap.size w W → Calls Tryz.prog 67 #[.agg #[.int .i64 z, .int .i64 d, .int .i64 s, .int .i64 l, .int .i64 a], .agg #[.int .i64 g.e, .slice g.A n g.c], .int .i64 0, .int .i64 sl] W fun e w' => SayB W.heap.size true q1 e w' ∧ Below W.heap.size W w' from HS1.out)
      have hIY := Lib.hid (HI1.out rfl)
      go_upto_region 11 with fail
      have hA := bl w5 (.cells #[.int .i64 g.e, .slice g.A n g.c] 51)
      have hGB := gotY_new w5 (.int .i64 g.e) (.slice g.A n g.c) 51
      generalize w5.alloc (.cells #[.int .i64 g.e, .slice g.A n g.c] 51) = wA at *
      obtain ⟨k0, k1⟩ := hGB
      (clear g0 g1 g2 g3 g4 u0 u1 u2 u3 u4 u5 u6)
      obtain ⟨⟨g0, g1, g2, g3, g4⟩, ⟨u0, u1, u2, u3, u4, u5, u6⟩⟩ := HMG.out wA (hbr.trans (hA.mono hM))
      go_upto_region 12 with (go_at_call 67; (with_reducible refine (hSY.out _ (hs0.trans (hA.mono hN))).mono ?_); rintro e w6 ⟨⟨Y, yc, rfl, hyo⟩, hb6⟩)
      have hB := kal (bt hA hb6) (.cells #[.int .i64 q1.kd, .int .i64 q1.sq, .int .i64 q1.ep, .int .i64 q1.ps, .int .i64 q1.nm, .int .i64 q1.z, .int .i64 q1.wh, .slice Y q1.l.length yc] 83)
      have RB := c8_new w6 (.int .i64 q1.kd) (.int .i64 q1.sq) (.int .i64 q1.ep) (.int .i64 q1.ps) (.int .i64 q1.nm) (.int .i64 q1.z) (.int .i64 q1.wh) (.slice Y q1.l.length yc) 83
      have hyB := hyo.below (bl w6 (.cells #[.int .i64 q1.kd, .int .i64 q1.sq, .int .i64 q1.ep, .int .i64 q1.ps, .int .i64 q1.nm, .int .i64 q1.z, .int .i64 q1.wh, .slice Y q1.l.length yc] 83))
      have hlA : w2.heap.size ≤ wA.heap.size := Nat.le_trans lw hA.size
      have hlB : w6.heap.size < (w6.alloc (.cells #[.int .i64 q1.kd, .int .i64 q1.sq, .int .i64 q1.ep, .int .i64 q1.ps, .int .i64 q1.nm, .int .i64 q1.z, .int .i64 q1.wh, .slice Y q1.l.length yc] 83)).heap.size := by simp
      have hl6 : w5.heap.size ≤ w6.heap.size := (bt hA hb6).size
      clear k0 k1 hyo
      (clear g0 g1 g2 g3 g4 u0 u1 u2 u3 u4 u5 u6)
      generalize w6.heap.size = gB at *
      generalize w6.alloc (.cells #[.int .i64 q1.kd, .int .i64 q1.sq, .int .i64 q1.ep, .int .i64 q1.ps, .int .i64 q1.nm, .int .i64 q1.z, .int .i64 q1.wh, .slice Y q1.l.length yc] 83) = wB at *
      obtain ⟨r0, r1, r2, r3, r4, r5, r6, r7⟩ := id RB
      obtain ⟨⟨g0, g1, g2, g3, g4⟩, ⟨u0, u1, u2, u3, u4, u5, u6⟩⟩ := HMG.out wB (hbr.trans (hB.mono hM))
      go_upto_region 13 with (go_at_call 68; (with_reducible refine (hIY.out Y yc wB).mono ?_); rintro e w7 ⟨rfl, hb7⟩)
      have h7 := bt hB hb7
      have hV6 := hV5.below h7
      have hl7 : w2.heap.size ≤ w7.heap.size := Nat.le_trans lw h7.size
      have hfar : ∀ x, (Value.slice A t.ws.length ac).ownBlock = some x → w2.heap.size ≤ x := fun x hx => (World.ownsRow.lt hV5 x hx).1
      go_upto_region 14 with (at_builtin; refine wpList_appV _ rfl (.tmp 74) (.tmp 76) _ _ rfl w2.heap.size 3 tvI (.slice A t.ws.length ac) (ints t.ws) rfl (hV6.alloc _) _ [.int .i64 0] rfl ?_ ?_ ?_ ?_ ?_; (focus (exact (SlV.of_block (vs := [.int .i64 0]) (heap_alloc_new _ _) rfl (Nat.lt_succ_self _)).src (ints_one [0]) Tryz.underlying43 1)); (focus (rw [ints_length]; unfold maxLen; simp; omega)); (focus (rw [ints_length]; simp; omega)); (focus (simp; omega)); intro v8 w8 o8 hg8 hd8; obtain ⟨A8, c8, rfl, o8'⟩ := own_formY o8)
      have h8 := (((h7.mono lw).alloc hl7 (.cells #[.int .i64 0] 3))).grown hg8 (by simp; omega) hfar
      have hO8 : Hid (Own _ _ _ _ _) := Lib.hid (((hO5.below h7).alloc (.cells #[.int .i64 0] 3)).kept hg8 (own_apart ((hO5.below h7).alloc (.cells #[.int .i64 0] 3)) (hV6.alloc (.cells #[.int .i64 0] 3)) (by decide)))
      have P8 := P5.keep h8 l2
      have l8 := h8.size
      go_wp2_with fail
      go_roundw
      case rel => exact ⟨1, X, xc, A8, c8, ⟨t.r, t.ws ++ [0], t.how⟩, by omega, by go_num, by rw [show stL _ _ _ _ q1 q2 1 = stepL _ _ 0 q1 (stL _ _ _ _ q1 q2 0) from rfl, ← HT.out]; exact (stepL_k 0 q1 t hH).symm, by simp, rfl, by rw [List.length_append]; exact Nat.add_le_add hwl (Nat.le_refl 1), P8, hO8.out, o8', hbr.trans (h8.mono (by omega)), by omega⟩
      case measure => simp [RowKit.intOf]
    case true =>
     by_cases hH : t.how = 1
     ·have hh1 : (t.how != 1) = false := by rw [hH]; rfl
      have hSY := Lib.hid (show ∀ W, Below w.heap.size w W → Calls Tryz.prog 67 #[.agg #[.int .i64 z, .int .i64 d, .int .i64 s, .int .i64 l, .int .i64 a], .agg #[.int .i64 g.e, .slice g.A n g.c], .int .i64 0, .int .i64 sl] W fun e w' => SayB W.heap.size true q1 e w' ∧ Below W.heap.size W w' from HS1.out)
      have hIY := Lib.hid (HI1.out rfl)
      go_upto_region 11 with fail
      have hA := bl w5 (.cells #[.int .i64 g.e, .slice g.A n g.c] 51)
      have hGB := gotY_new w5 (.int .i64 g.e) (.slice g.A n g.c) 51
      generalize w5.alloc (.cells #[.int .i64 g.e, .slice g.A n g.c] 51) = wA at *
      obtain ⟨k0, k1⟩ := hGB
      (clear g0 g1 g2 g3 g4 u0 u1 u2 u3 u4 u5 u6)
      obtain ⟨⟨g0, g1, g2, g3, g4⟩, ⟨u0, u1, u2, u3, u4, u5, u6⟩⟩ := HMG.out wA (hbr.trans (hA.mono hM))
      go_upto_region 12 with (go_at_call 67; (with_reducible refine (hSY.out _ (hs0.trans (hA.mono hN))).mono ?_); rintro e w6 ⟨⟨Y, yc, rfl, hyo⟩, hb6⟩)
      have hB := kal (bt hA hb6) (.cells #[.int .i64 q1.kd, .int .i64 q1.sq, .int .i64 q1.ep, .int .i64 q1.ps, .int .i64 q1.nm, .int .i64 q1.z, .int .i64 q1.wh, .slice Y q1.l.length yc] 83)
      have RB := c8_new w6 (.int .i64 q1.kd) (.int .i64 q1.sq) (.int .i64 q1.ep) (.int .i64 q1.ps) (.int .i64 q1.nm) (.int .i64 q1.z) (.int .i64 q1.wh) (.slice Y q1.l.length yc) 83
      have hyB := hyo.below (bl w6 (.cells #[.int .i64 q1.kd, .int .i64 q1.sq, .int .i64 q1.ep, .int .i64 q1.ps, .int .i64 q1.nm, .int .i64 q1.z, .int .i64 q1.wh, .slice Y q1.l.length yc] 83))
      have hlA : w2.heap.size ≤ wA.heap.size := Nat.le_trans lw hA.size
      have hlB : w6.heap.size < (w6.alloc (.cells #[.int .i64 q1.kd, .int .i64 q1.sq, .int .i64 q1.ep, .int .i64 q1.ps, .int .i64 q1.nm, .int .i64 q1.z, .int .i64 q1.wh, .slice Y q1.l.length yc] 83)).heap.size := by simp
      have hl6 : w5.heap.size ≤ w6.heap.size := (bt hA hb6).size
      clear k0 k1 hyo
      (clear g0 g1 g2 g3 g4 u0 u1 u2 u3 u4 u5 u6)
      generalize w6.heap.size = gB at *
      generalize w6.alloc (.cells #[.int .i64 q1.kd, .int .i64 q1.sq, .int .i64 q1.ep, .int .i64 q1.ps, .int .i64 q1.nm, .int .i64 q1.z, .int .i64 q1.wh, .slice Y q1.l.length yc] 83) = wB at *
      obtain ⟨r0, r1, r2, r3, r4, r5, r6, r7⟩ := id RB
      obtain ⟨⟨g0, g1, g2, g3, g4⟩, ⟨u0, u1, u2, u3, u4, u5, u6⟩⟩ := HMG.out wB (hbr.trans (hB.mono hM))
      go_wp2_with (go_at_call 68; (with_reducible refine (hIY.out Y yc wB).mono ?_); rintro e w7 ⟨rfl, hb7⟩)
      have h7 := bt hB hb7
      go_roundw
      case rel => exact ⟨1, X, xc, A, ac, t, by omega, by go_num, by rw [show stL _ _ _ _ q1 q2 1 = stepL _ _ 0 q1 (stL _ _ _ _ q1 q2 0) from rfl, ← HT.out]; exact (stepL_1 _ 0 q1 t hH).symm, rfl, by rw [hH], by omega, P5.keep h7 (by omega), hO5.below h7, hV5.below h7, hbr.trans (h7.mono hM), Nat.le_trans lw h7.size⟩
      case measure => simp [RowKit.intOf]
     ·have hh1 : (t.how != 1) = true := bne_iff_ne.2 hH
      have hSY := Lib.hid (show ∀ W, Below w.heap.size w W → Calls Tryz.prog 67 #[.agg #[.int .i64 z, .int .i64 d, .int .i64 s, .int .i64 l, .int .i64 a], .agg #[.int .i64 g.e, .slice g.A n g.c], .int .i64 0, .int .i64 sl] W fun e w' => SayB W.heap.size true q1 e w' ∧ Below W.heap.size W w' from HS1.out)
      have hIY := Lib.hid (HI1.out rfl)
      go_upto_region 11 with fail
      have hA := bl w5 (.cells #[.int .i64 g.e, .slice g.A n g.c] 51)
      have hGB := gotY_new w5 (.int .i64 g.e) (.slice g.A n g.c) 51
      generalize w5.alloc (.cells #[.int .i64 g.e, .slice g.A n g.c] 51) = wA at *
      obtain ⟨k0, k1⟩ := hGB
      (clear g0 g1 g2 g3 g4 u0 u1 u2 u3 u4 u5 u6)
      obtain ⟨⟨g0, g1, g2, g3, g4⟩, ⟨u0, u1, u2, u3, u4, u5, u6⟩⟩ := HMG.out wA (hbr.trans (hA.mono hM))
      go_upto_region 12 with (go_at_call 67; (with_reducible refine (hSY.out _ (hs0.trans (hA.mono hN))).mono ?_); rintro e w6 ⟨⟨Y, yc, rfl, hyo⟩, hb6⟩)
      have hB := kal (bt hA hb6) (.cells #[.int .i64 q1.kd, .int .i64 q1.sq, .int .i64 q1.ep, .int .i64 q1.ps, .int .i64 q1.nm, .int .i64 q1.z, .int .i64 q1.wh, .slice Y q1.l.length yc] 83)
      have RB := c8_new w6 (.int .i64 q1.kd) (.int .i64 q1.sq) (.int .i64 q1.ep) (.int .i64 q1.ps) (.int .i64 q1.nm) (.int .i64 q1.z) (.int .i64 q1.wh) (.slice Y q1.l.length yc) 83
      have hyB := hyo.below (bl w6 (.cells #[.int .i64 q1.kd, .int .i64 q1.sq, .int .i64 q1.ep, .int .i64 q1.ps, .int .i64 q1.nm, .int .i64 q1.z, .int .i64 q1.wh, .slice Y q1.l.length yc] 83))
      have hlA : w2.heap.size ≤ wA.heap.size := Nat.le_trans lw hA.size
      have hlB : w6.heap.size < (w6.alloc (.cells #[.int .i64 q1.kd, .int .i64 q1.sq, .int .i64 q1.ep, .int .i64 q1.ps, .int .i64 q1.nm, .int .i64 q1.z, .int .i64 q1.wh, .slice Y q1.l.length yc] 83)).heap.size := by simp
      have hl6 : w5.heap.size ≤ w6.heap.size := (bt hA hb6).size
      clear k0 k1 hyo
      (clear g0 g1 g2 g3 g4 u0 u1 u2 u3 u4 u5 u6)
      generalize w6.heap.size = gB at *
      generalize w6.alloc (.cells #[.int .i64 q1.kd, .int .i64 q1.sq, .int .i64 q1.ep, .int .i64 q1.ps, .int .i64 q1.nm, .int .i64 q1.z, .int .i64 q1.wh, .slice Y q1.l.length yc] 83) = wB at *
      obtain ⟨r0, r1, r2, r3, r4, r5, r6, r7⟩ := id RB
      obtain ⟨⟨g0, g1, g2, g3, g4⟩, ⟨u0, u1, u2, u3, u4, u5, u6⟩⟩ := HMG.out wB (hbr.trans (hB.mono hM))
      go_upto_region 17 with (go_at_call 68; (with_reducible refine (hIY.out Y yc wB).mono ?_); rintro e w7 ⟨rfl, hb7⟩)
      have h7 := bt hB hb7
      have P7 := P5.keep h7 (by omega)
      have R7 := RB.keep hb7 hlB
      clear r0 r1 r2 r3 r4 r5 r6 r7
      obtain ⟨r0, r1, r2, r3, r4, r5, r6, r7⟩ := id R7
      obtain ⟨z0, z1, z2, z3, z4, z5, z6, z7, f0, f1, f2, f3, f4, f5, f6, f7⟩ := id P7
      have hl7 := h7.size
      go_wp2_with fail
      have P9 := P7.all (.int .i64 q1.kd) (.int .i64 q1.sq) (.int .i64 q1.ep) (.int .i64 q1.ps) (.int .i64 q1.nm) (.int .i64 q1.z) (.int .i64 q1.wh) (.slice Y q1.l.length yc)
      have hO9 : Hid (Own _ _ _ _ _) := Lib.hid (own_all (g := w.heap.size + 4) ((hyB.below hb7).less hlA) l2 (.int .i64 q1.kd) (.int .i64 q1.sq) (.int .i64 q1.ep) (.int .i64 q1.ps) (.int .i64 q1.nm) (.int .i64 q1.z) (.int .i64 q1.wh) (.slice Y q1.l.length yc))
      have hV9 : Hid (OwnV _ _ _ _ _) := Lib.hid (ownv_8 (g := w.heap.size + 4) (hV5.below h7) l2 (.int .i64 q1.kd) (.int .i64 q1.sq) (.int .i64 q1.ep) (.int .i64 q1.ps) (.int .i64 q1.nm) (.int .i64 q1.z) (.int .i64 q1.wh) (.slice Y q1.l.length yc))
      have h9 := below_all (g := w.heap.size + 4) (h7.mono hM) (Nat.le_refl _) (.int .i64 q1.kd) (.int .i64 q1.sq) (.int .i64 q1.ep) (.int .i64 q1.ps) (.int .i64 q1.nm) (.int .i64 q1.z) (.int .i64 q1.wh) (.slice Y q1.l.length yc)
      go_roundw
      case rel => exact ⟨1, Y, yc, A, ac, ⟨q1, t.ws, 1⟩, by omega, by go_num, by rw [show stL _ _ _ _ q1 q2 1 = stepL _ _ 0 q1 (stL _ _ _ _ q1 q2 0) from rfl, ← HT.out]; exact (stepL_n _ 0 q1 t hH).symm, rfl, rfl, by show t.ws.length ≤ _; omega, P9, hO9.out, hV9.out, hbr.trans h9, Nat.le_trans lw h9.size⟩
      case measure => simp [RowKit.intOf]
  case inr.inl =>
   have j1 : (1 : Int) < 2 := by decide
   rw [show ((1 : Nat) : Int) = 1 from rfl]
   obtain ⟨g0, g1, g2, g3, g4⟩ := id G5w
   obtain ⟨u0, u1, u2, u3, u4, u5, u6⟩ := id F5w
   clear G5w F5w
   cases c2
   case false =>
    obtain rfl : o2 = false := by cases o2; rfl; exact absurd (HO2.out rfl) (by decide)
    have hSY := Lib.hid (show ∀ W, Below w.heap.size w W → Calls Tryz.prog 67 #[.agg #[.int .i64 z, .int .i64 d, .int .i64 s, .int .i64 l, .int .i64 a], .agg #[.int .i64 h.e, .slice h.A m h.c], .int .i64 1, .int .i64 sl] W fun e w' => SayB W.heap.size false noRec e w' ∧ Below W.heap.size W w' from HS2.out)
    go_upto_region 11 with fail
    have hA := bl w5 (.cells #[.int .i64 h.e, .slice h.A m h.c] 51)
    have hGB := gotY_new w5 (.int .i64 h.e) (.slice h.A m h.c) 51
    generalize w5.alloc (.cells #[.int .i64 h.e, .slice h.A m h.c] 51) = wA at *
    obtain ⟨k0, k1⟩ := hGB
    (clear g0 g1 g2 g3 g4 u0 u1 u2 u3 u4 u5 u6)
    obtain ⟨⟨g0, g1, g2, g3, g4⟩, ⟨u0, u1, u2, u3, u4, u5, u6⟩⟩ := HMG.out wA (hbr.trans (hA.mono hM))
    go_upto_region 12 with (go_at_call 67; (with_reducible refine (hSY.out _ (hs0.trans (hA.mono hN))).mono ?_); rintro e w6 ⟨⟨Y, yc, rfl, hyo⟩, hb6⟩)
    have hB := kal (bt hA hb6) (.cells #[.int .i64 noRec.kd, .int .i64 noRec.sq, .int .i64 noRec.ep, .int .i64 noRec.ps, .int .i64 noRec.nm, .int .i64 noRec.z, .int .i64 noRec.wh, .slice Y noRec.l.length yc] 83)
    have RB := c8_new w6 (.int .i64 noRec.kd) (.int .i64 noRec.sq) (.int .i64 noRec.ep) (.int .i64 noRec.ps) (.int .i64 noRec.nm) (.int .i64 noRec.z) (.int .i64 noRec.wh) (.slice Y noRec.l.length yc) 83
    have hyB := hyo.below (bl w6 (.cells #[.int .i64 noRec.kd, .int .i64 noRec.sq, .int .i64 noRec.ep, .int .i64 noRec.ps, .int .i64 noRec.nm, .int .i64 noRec.z, .int .i64 noRec.wh, .slice Y noRec.l.length yc] 83))
    have hlA : w2.heap.size ≤ wA.heap.size := Nat.le_trans lw hA.size
    have hlB : w6.heap.size < (w6.alloc (.cells #[.int .i64 noRec.kd, .int .i64 noRec.sq, .int .i64 noRec.ep, .int .i64 noRec.ps, .int .i64 noRec.nm, .int .i64 noRec.z, .int .i64 noRec.wh, .slice Y noRec.l.length yc] 83)).heap.size := by simp
    have hl6 : w5.heap.size ≤ w6.heap.size := (bt hA hb6).size
    clear k0 k1 hyo
    (clear g0 g1 g2 g3 g4 u0 u1 u2 u3 u4 u5 u6)
    generalize w6.heap.size = gB at *
    generalize w6.alloc (.cells #[.int .i64 noRec.kd, .int .i64 noRec.sq, .int .i64 noRec.ep, .int .i64 noRec.ps, .int .i64 noRec.nm, .int .i64 noRec.z, .int .i64 noRec.wh, .slice Y noRec.l.length yc] 83) = wB at *
    obtain ⟨r0, r1, r2, r3, r4, r5, r6, r7⟩ := id RB
    obtain ⟨⟨g0, g1, g2, g3, g4⟩, ⟨u0, u1, u2, u3, u4, u5, u6⟩⟩ := HMG.out wB (hbr.trans (hB.mono hM))
    go_upto_region 13 with fail
    have h7 := hB
    have hV6 := hV5.below h7
    have hl7 : w2.heap.size ≤ wB.heap.size := Nat.le_trans lw h7.size
    have hfar : ∀ x, (Value.slice A t.ws.length ac).ownBlock = some x → w2.heap.size ≤ x := fun x hx => (World.ownsRow.lt hV5 x hx).1
    go_upto_region 14 with (at_builtin; refine wpList_appV _ rfl (.tmp 74) (.tmp 76) _ _ rfl w2.heap.size 3 tvI (.slice A t.ws.length ac) (ints t.ws) rfl (hV6.alloc _) _ [.int .i64 1] rfl ?_ ?_ ?_ ?_ ?_; (focus (exact (SlV.of_block (vs := [.int .i64 1]) (heap_alloc_new _ _) rfl (Nat.lt_succ_self _)).src (ints_one [1]) Tryz.underlying43 1)); (focus (rw [ints_length]; unfold maxLen; simp; omega)); (focus (rw [ints_length]; simp; omega)); (focus (simp; omega)); intro v8 w8 o8 hg8 hd8; obtain ⟨A8, c8, rfl, o8'⟩ := own_formY o8)
    have h8 := (((h7.mono lw).alloc hl7 (.cells #[.int .i64 1] 3))).grown hg8 (by simp; omega) hfar
    have hO8 : Hid (Own _ _ _ _ _) := Lib.hid (((hO5.below h7).alloc (.cells #[.int .i64 1] 3)).kept hg8 (own_apart ((hO5.below h7).alloc (.cells #[.int .i64 1] 3)) (hV6.alloc (.cells #[.int .i64 1] 3)) (by decide)))
    have P8 := P5.keep h8 l2
    have l8 := h8.size
    go_wp2_with fail
    go_roundw
    case rel => exact ⟨2, X, xc, A8, c8, ⟨t.r, t.ws ++ [1], t.how⟩, by omega, by go_num, by rw [show stL _ _ _ _ q1 q2 2 = stepL _ _ 1 q2 (stL _ _ _ _ q1 q2 1) from rfl, ← HT.out]; exact (stepL_no false 1 q2 t (fun q => q)).symm, by simp, rfl, by rw [List.length_append]; exact Nat.add_le_add hwl (Nat.le_refl 1), P8, hO8.out, o8', hbr.trans (h8.mono (by omega)), by omega⟩
    case measure => simp [RowKit.intOf]
   case true =>
    cases o2
    case false =>
     by_cases hH : t.how = 3
     ·have hh3 : (t.how == 3) = true := beq_iff_eq.2 hH
      have hSY := Lib.hid (show ∀ W, Below w.heap.size w W → Calls Tryz.prog 67 #[.agg #[.int .i64 z, .int .i64 d, .int .i64 s, .int .i64 l, .int .i64 a], .agg #[.int .i64 h.e, .slice h.A m h.c], .int .i64 1, .int .i64 sl] W fun e w' => SayB W.heap.size true q2 e w' ∧ Below W.heap.size W w' from HS2.out)
      have hIY := Lib.hid (HI2.out rfl)
      go_upto_region 11 with fail
      have hA := bl w5 (.cells #[.int .i64 h.e, .slice h.A m h.c] 51)
      have hGB := gotY_new w5 (.int .i64 h.e) (.slice h.A m h.c) 51
      generalize w5.alloc (.cells #[.int .i64 h.e, .slice h.A m h.c] 51) = wA at *
      obtain ⟨k0, k1⟩ := hGB
      (clear g0 g1 g2 g3 g4 u0 u1 u2 u3 u4 u5 u6)
      obtain ⟨⟨g0, g1, g2, g3, g4⟩, ⟨u0, u1, u2, u3, u4, u5, u6⟩⟩ := HMG.out wA (hbr.trans (hA.mono hM))
      go_upto_region 12 with (go_at_call 67; (with_reducible refine (hSY.out _ (hs0.trans (hA.mono hN))).mono ?_); rintro e w6 ⟨⟨Y, yc, rfl, hyo⟩, hb6⟩)
      have hB := kal (bt hA hb6) (.cells #[.int .i64 q2.kd, .int .i64 q2.sq, .int .i64 q2.ep, .int .i64 q2.ps, .int .i64 q2.nm, .int .i64 q2.z, .int .i64 q2.wh, .slice Y q2.l.length yc] 83)
      have RB := c8_new w6 (.int .i64 q2.kd) (.int .i64 q2.sq) (.int .i64 q2.ep) (.int .i64 q2.ps) (.int .i64 q2.nm) (.int .i64 q2.z) (.int .i64 q2.wh) (.slice Y q2.l.length yc) 83
      have hyB := hyo.below (bl w6 (.cells #[.int .i64 q2.kd, .int .i64 q2.sq, .int .i64 q2.ep, .int .i64 q2.ps, .int .i64 q2.nm, .int .i64 q2.z, .int .i64 q2.wh, .slice Y q2.l.length yc] 83))
      have hlA : w2.heap.size ≤ wA.heap.size := Nat.le_trans lw hA.size
      have hlB : w6.heap.size < (w6.alloc (.cells #[.int .i64 q2.kd, .int .i64 q2.sq, .int .i64 q2.ep, .int .i64 q2.ps, .int .i64 q2.nm, .int .i64 q2.z, .int .i64 q2.wh, .slice Y q2.l.length yc] 83)).heap.size := by simp
      have hl6 : w5.heap.size ≤ w6.heap.size := (bt hA hb6).size
      clear k0 k1 hyo
      (clear g0 g1 g2 g3 g4 u0 u1 u2 u3 u4 u5 u6)
      generalize w6.heap.size = gB at *
      generalize w6.alloc (.cells #[.int .i64 q2.kd, .int .i64 q2.sq, .int .i64 q2.ep, .int .i64 q2.ps, .int .i64 q2.nm, .int .i64 q2.z, .int .i64 q2.wh, .slice Y q2.l.length yc] 83) = wB at *
      obtain ⟨r0, r1, r2, r3, r4, r5, r6, r7⟩ := id RB
      obtain ⟨⟨g0, g1, g2, g3, g4⟩, ⟨u0, u1, u2, u3, u4, u5, u6⟩⟩ := HMG.out wB (hbr.trans (hB.mono hM))
      go_upto_region 13 with (go_at_call 68; (with_reducible refine (hIY.out Y yc wB).mono ?_); rintro e w7 ⟨rfl, hb7⟩)
      have h7 := bt hB hb7
      have hV6 := hV5.below h7
      have hl7 : w2.heap.size ≤ w7.heap.size := Nat.le_trans lw h7.size
      have hfar : ∀ x, (Value.slice A t.ws.length ac).ownBlock = some x → w2.heap.size ≤ x := fun x hx => (World.ownsRow.lt hV5 x hx).1
      go_upto_region 14 with (at_builtin; refine wpList_appV _ rfl (.tmp 74) (.tmp 76) _ _ rfl w2.heap.size 3 tvI (.slice A t.ws.length ac) (ints t.ws) rfl (hV6.alloc _) _ [.int .i64 1] rfl ?_ ?_ ?_ ?_ ?_; (focus (exact (SlV.of_block (vs := [.int .i64 1]) (heap_alloc_new _ _) rfl (Nat.lt_succ_self _)).src (ints_one [1]) Tryz.underlying43 1)); (focus (rw [ints_length]; unfold maxLen; simp; omega)); (focus (rw [ints_length]; simp; omega)); (focus (simp; omega)); intro v8 w8 o8 hg8 hd8; obtain ⟨A8, c8, rfl, o8'⟩ := own_formY o8)
      have h8 := (((h7.mono lw).alloc hl7 (.cells #[.int .i64 1] 3))).grown hg8 (by simp; omega) hfar
      have hO8 : Hid (Own _ _ _ _ _) := Lib.hid (((hO5.below h7).alloc (.cells #[.int .i64 1] 3)).kept hg8 (own_apart ((hO5.below h7).alloc (.cells #[.int .i64 1] 3)) (hV6.alloc (.cells #[.int .i64 1] 3)) (by decide)))
      have P8 := P5.keep h8 l2
      have l8 := h8.size
      go_wp2_with fail
      go_roundw
      case rel => exact ⟨2, X, xc, A8, c8, ⟨t.r, t.ws ++ [1], 2⟩, by omega, by go_num, by rw [show stL _ _ _ _ q1 q2 2 = stepL _ _ 1 q2 (stL _ _ _ _ q1 q2 1) from rfl, ← HT.out]; exact (stepL_3 1 q2 t hH).symm, by simp, rfl, by rw [List.length_append]; exact Nat.add_le_add hwl (Nat.le_refl 1), P8, hO8.out, o8', hbr.trans (h8.mono (by omega)), by omega⟩
      case measure => simp [RowKit.intOf]
     ·have hh3 : (t.how == 3) = false := beq_eq_false_iff_ne.2 hH
      have hSY := Lib.hid (show ∀ W, Below w.heap.size w W → Calls Tryz.prog 67 #[.agg #[.int .i64 z, .int .i64 d, .int .i64 s, .int .i64 l, .int .i64 a], .agg #[.int .i64 h.e, .slice h.A m h.c], .int .i64 1, .int .i64 sl] W fun e w' => SayB W.heap.size true q2 e w' ∧ Below W.heap.size W w' from HS2.out)
      have hIY := Lib.hid (HI2.out rfl)
      go_upto_region 11 with fail
      have hA := bl w5 (.cells #[.int .i64 h.e, .slice h.A m h.c] 51)
      have hGB := gotY_new w5 (.int .i64 h.e) (.slice h.A m h.c) 51
      generalize w5.alloc (.cells #[.int .i64 h.e, .slice h.A m h.c] 51) = wA at *
      obtain ⟨k0, k1⟩ := hGB
      (clear g0 g1 g2 g3 g4 u0 u1 u2 u3 u4 u5 u6)
      obtain ⟨⟨g0, g1, g2, g3, g4⟩, ⟨u0, u1, u2, u3, u4, u5, u6⟩⟩ := HMG.out wA (hbr.trans (hA.mono hM))
      go_upto_region 12 with (go_at_call 67; (with_reducible refine (hSY.out _ (hs0.trans (hA.mono hN))).mono ?_); rintro e w6 ⟨⟨Y, yc, rfl, hyo⟩, hb6⟩)
      have hB := kal (bt hA hb6) (.cells #[.int .i64 q2.kd, .int .i64 q2.sq, .int .i64 q2.ep, .int .i64 q2.ps, .int .i64 q2.nm, .int .i64 q2.z, .int .i64 q2.wh, .slice Y q2.l.length yc] 83)
      have RB := c8_new w6 (.int .i64 q2.kd) (.int .i64 q2.sq) (.int .i64 q2.ep) (.int .i64 q2.ps) (.int .i64 q2.nm) (.int .i64 q2.z) (.int .i64 q2.wh) (.slice Y q2.l.length yc) 83
      have hyB := hyo.below (bl w6 (.cells #[.int .i64 q2.kd, .int .i64 q2.sq, .int .i64 q2.ep, .int .i64 q2.ps, .int .i64 q2.nm, .int .i64 q2.z, .int .i64 q2.wh, .slice Y q2.l.length yc] 83))
      have hlA : w2.heap.size ≤ wA.heap.size := Nat.le_trans lw hA.size
      have hlB : w6.heap.size < (w6.alloc (.cells #[.int .i64 q2.kd, .int .i64 q2.sq, .int .i64 q2.ep, .int .i64 q2.ps, .int .i64 q2.nm, .int .i64 q2.z, .int .i64 q2.wh, .slice Y q2.l.length yc] 83)).heap.size := by simp
      have hl6 : w5.heap.size ≤ w6.heap.size := (bt hA hb6).size
      clear k0 k1 hyo
      (clear g0 g1 g2 g3 g4 u0 u1 u2 u3 u4 u5 u6)
      generalize w6.heap.size = gB at *
      generalize w6.alloc (.cells #[.int .i64 q2.kd, .int .i64 q2.sq, .int .i64 q2.ep, .int .i64 q2.ps, .int .i64 q2.nm, .int .i64 q2.z, .int .i64 q2.wh, .slice Y q2.l.length yc] 83) = wB at *
      obtain ⟨r0, r1, r2, r3, r4, r5, r6, r7⟩ := id RB
      obtain ⟨⟨g0, g1, g2, g3, g4⟩, ⟨u0, u1, u2, u3, u4, u5, u6⟩⟩ := HMG.out wB (hbr.trans (hB.mono hM))
      go_upto_region 13 with (go_at_call 68; (with_reducible refine (hIY.out Y yc wB).mono ?_); rintro e w7 ⟨rfl, hb7⟩)
      have h7 := bt hB hb7
      have hV6 := hV5.below h7
      have hl7 : w2.heap.size ≤ w7.heap.size := Nat.le_trans lw h7.size
      have hfar : ∀ x, (Value.slice A t.ws.length ac).ownBlock = some x → w2.heap.size ≤ x := fun x hx => (World.ownsRow.lt hV5 x hx).1
      go_upto_region 14 with (at_builtin; refine wpList_appV _ rfl (.tmp 74) (.tmp 76) _ _ rfl w2.heap.size 3 tvI (.slice A t.ws.length ac) (ints t.ws) rfl (hV6.alloc _) _ [.int .i64 1] rfl ?_ ?_ ?_ ?_ ?_; (focus (exact (SlV.of_block (vs := [.int .i64 1]) (heap_alloc_new _ _) rfl (Nat.lt_succ_self _)).src (ints_one [1]) Tryz.underlying43 1)); (focus (rw [ints_length]; unfold maxLen; simp; omega)); (focus (rw [ints_length]; simp; omega)); (focus (simp; omega)); intro v8 w8 o8 hg8 hd8; obtain ⟨A8, c8, rfl, o8'⟩ := own_formY o8)
      have h8 := (((h7.mono lw).alloc hl7 (.cells #[.int .i64 1] 3))).grown hg8 (by simp; omega) hfar
      have hO8 : Hid (Own _ _ _ _ _) := Lib.hid (((hO5.below h7).alloc (.cells #[.int .i64 1] 3)).kept hg8 (own_apart ((hO5.below h7).alloc (.cells #[.int .i64 1] 3)) (hV6.alloc (.cells #[.int .i64 1] 3)) (by decide)))
      have P8 := P5.keep h8 l2
      have l8 := h8.size
      go_wp2_with fail
      go_roundw
      case rel => exact ⟨2, X, xc, A8, c8, ⟨t.r, t.ws ++ [1], t.how⟩, by omega, by go_num, by rw [show stL _ _ _ _ q1 q2 2 = stepL _ _ 1 q2 (stL _ _ _ _ q1 q2 1) from rfl, ← HT.out]; exact (stepL_k 1 q2 t hH).symm, by simp, rfl, by rw [List.length_append]; exact Nat.add_le_add hwl (Nat.le_refl 1), P8, hO8.out, o8', hbr.trans (h8.mono (by omega)), by omega⟩
      case measure => simp [RowKit.intOf]
    case true =>
     by_cases hH : t.how = 1
     ·have hh1 : (t.how != 1) = false := by rw [hH]; rfl
      have hSY := Lib.hid (show ∀ W, Below w.heap.size w W → Calls Tryz.prog 67 #[.agg #[.int .i64 z, .int .i64 d, .int .i64 s, .int .i64 l, .int .i64 a], .agg #[.int .i64 h.e, .slice h.A m h.c], .int .i64 1, .int .i64 sl] W fun e w' => SayB W.heap.size true q2 e w' ∧ Below W.heap.size W w' from HS2.out)
      have hIY := Lib.hid (HI2.out rfl)
      go_upto_region 11 with fail
      have hA := bl w5 (.cells #[.int .i64 h.e, .slice h.A m h.c] 51)
      have hGB := gotY_new w5 (.int .i64 h.e) (.slice h.A m h.c) 51
      generalize w5.alloc (.cells #[.int .i64 h.e, .slice h.A m h.c] 51) = wA at *
      obtain ⟨k0, k1⟩ := hGB
      (clear g0 g1 g2 g3 g4 u0 u1 u2 u3 u4 u5 u6)
      obtain ⟨⟨g0, g1, g2, g3, g4⟩, ⟨u0, u1, u2, u3, u4, u5, u6⟩⟩ := HMG.out wA (hbr.trans (hA.mono hM))
      go_upto_region 12 with (go_at_call 67; (with_reducible refine (hSY.out _ (hs0.trans (hA.mono hN))).mono ?_); rintro e w6 ⟨⟨Y, yc, rfl, hyo⟩, hb6⟩)
      have hB := kal (bt hA hb6) (.cells #[.int .i64 q2.kd, .int .i64 q2.sq, .int .i64 q2.ep, .int .i64 q2.ps, .int .i64 q2.nm, .int .i64 q2.z, .int .i64 q2.wh, .slice Y q2.l.length yc] 83)
      have RB := c8_new w6 (.int .i64 q2.kd) (.int .i64 q2.sq) (.int .i64 q2.ep) (.int .i64 q2.ps) (.int .i64 q2.nm) (.int .i64 q2.z) (.int .i64 q2.wh) (.slice Y q2.l.length yc) 83
      have hyB := hyo.below (bl w6 (.cells #[.int .i64 q2.kd, .int .i64 q2.sq, .int .i64 q2.ep, .int .i64 q2.ps, .int .i64 q2.nm, .int .i64 q2.z, .int .i64 q2.wh, .slice Y q2.l.length yc] 83))
      have hlA : w2.heap.size ≤ wA.heap.size := Nat.le_trans lw hA.size
      have hlB : w6.heap.size < (w6.alloc (.cells #[.int .i64 q2.kd, .int .i64 q2.sq, .int .i64 q2.ep, .int .i64 q2.ps, .int .i64 q2.nm, .int .i64 q2.z, .int .i64 q2.wh, .slice Y q2.l.length yc] 83)).heap.size := by simp
      have hl6 : w5.heap.size ≤ w6.heap.size := (bt hA hb6).size
      clear k0 k1 hyo
      (clear g0 g1 g2 g3 g4 u0 u1 u2 u3 u4 u5 u6)
      generalize w6.heap.size = gB at *
      generalize w6.alloc (.cells #[.int .i64 q2.kd, .int .i64 q2.sq, .int .i64 q2.ep, .int .i64 q2.ps, .int .i64 q2.nm, .int .i64 q2.z, .int .i64 q2.wh, .slice Y q2.l.length yc] 83) = wB at *
      obtain ⟨r0, r1, r2, r3, r4, r5, r6, r7⟩ := id RB
      obtain ⟨⟨g0, g1, g2, g3, g4⟩, ⟨u0, u1, u2, u3, u4, u5, u6⟩⟩ := HMG.out wB (hbr.trans (hB.mono hM))
      go_wp2_with (go_at_call 68; (with_reducible refine (hIY.out Y yc wB).mono ?_); rintro e w7 ⟨rfl, hb7⟩)
      have h7 := bt hB hb7
      go_roundw
      case rel => exact ⟨2, X, xc, A, ac, t, by omega, by go_num, by rw [show stL _ _ _ _ q1 q2 2 = stepL _ _ 1 q2 (stL _ _ _ _ q1 q2 1) from rfl, ← HT.out]; exact (stepL_1 _ 1 q2 t hH).symm, rfl, by rw [hH], by omega, P5.keep h7 (by omega), hO5.below h7, hV5.below h7, hbr.trans (h7.mono hM), Nat.le_trans lw h7.size⟩
      case measure => simp [RowKit.intOf]
     ·have hh1 : (t.how != 1) = true := bne_iff_ne.2 hH
      have hSY := Lib.hid (show ∀ W, Below w.heap.size w W → Calls Tryz.prog 67 #[.agg #[.int .i64 z, .int .i64 d, .int .i64 s, .int .i64 l, .int .i64 a], .agg #[.int .i64 h.e, .slice h.A m h.c], .int .i64 1, .int .i64 sl] W fun e w' => SayB W.heap.size true q2 e w' ∧ Below W.heap.size W w' from HS2.out)
      have hIY := Lib.hid (HI2.out rfl)
      go_upto_region 11 with fail
      have hA := bl w5 (.cells #[.int .i64 h.e, .slice h.A m h.c] 51)
      have hGB := gotY_new w5 (.int .i64 h.e) (.slice h.A m h.c) 51
      generalize w5.alloc (.cells #[.int .i64 h.e, .slice h.A m h.c] 51) = wA at *
      obtain ⟨k0, k1⟩ := hGB
      (clear g0 g1 g2 g3 g4 u0 u1 u2 u3 u4 u5 u6)
      obtain ⟨⟨g0, g1, g2, g3, g4⟩, ⟨u0, u1, u2, u3, u4, u5, u6⟩⟩ := HMG.out wA (hbr.trans (hA.mono hM))
      go_upto_region 12 with (go_at_call 67; (with_reducible refine (hSY.out _ (hs0.trans (hA.mono hN))).mono ?_); rintro e w6 ⟨⟨Y, yc, rfl, hyo⟩, hb6⟩)
      have hB := kal (bt hA hb6) (.cells #[.int .i64 q2.kd, .int .i64 q2.sq, .int .i64 q2.ep, .int .i64 q2.ps, .int .i64 q2.nm, .int .i64 q2.z, .int .i64 q2.wh, .slice Y q2.l.length yc] 83)
      have RB := c8_new w6 (.int .i64 q2.kd) (.int .i64 q2.sq) (.int .i64 q2.ep) (.int .i64 q2.ps) (.int .i64 q2.nm) (.int .i64 q2.z) (.int .i64 q2.wh) (.slice Y q2.l.length yc) 83
      have hyB := hyo.below (bl w6 (.cells #[.int .i64 q2.kd, .int .i64 q2.sq, .int .i64 q2.ep, .int .i64 q2.ps, .int .i64 q2.nm, .int .i64 q2.z, .int .i64 q2.wh, .slice Y q2.l.length yc] 83))
      have hlA : w2.heap.size ≤ wA.heap.size := Nat.le_trans lw hA.size
      have hlB : w6.heap.size < (w6.alloc (.cells #[.int .i64 q2.kd, .int .i64 q2.sq, .int .i64 q2.ep, .int .i64 q2.ps, .int .i64 q2.nm, .int .i64 q2.z, .int .i64 q2.wh, .slice Y q2.l.length yc] 83)).heap.size := by simp
      have hl6 : w5.heap.size ≤ w6.heap.size := (bt hA hb6).size
      clear k0 k1 hyo
      (clear g0 g1 g2 g3 g4 u0 u1 u2 u3 u4 u5 u6)
      generalize w6.heap.size = gB at *
      generalize w6.alloc (.cells #[.int .i64 q2.kd, .int .i64 q2.sq, .int .i64 q2.ep, .int .i64 q2.ps, .int .i64 q2.nm, .int .i64 q2.z, .int .i64 q2.wh, .slice Y q2.l.length yc] 83) = wB at *
      obtain ⟨r0, r1, r2, r3, r4, r5, r6, r7⟩ := id RB
      obtain ⟨⟨g0, g1, g2, g3, g4⟩, ⟨u0, u1, u2, u3, u4, u5, u6⟩⟩ := HMG.out wB (hbr.trans (hB.mono hM))
      go_upto_region 17 with (go_at_call 68; (with_reducible refine (hIY.out Y yc wB).mono ?_); rintro e w7 ⟨rfl, hb7⟩)
      have h7 := bt hB hb7
      have P7 := P5.keep h7 (by omega)
      have R7 := RB.keep hb7 hlB
      clear r0 r1 r2 r3 r4 r5 r6 r7
      obtain ⟨r0, r1, r2, r3, r4, r5, r6, r7⟩ := id R7
      obtain ⟨z0, z1, z2, z3, z4, z5, z6, z7, f0, f1, f2, f3, f4, f5, f6, f7⟩ := id P7
      have hl7 := h7.size
      go_wp2_with fail
      have P9 := P7.all (.int .i64 q2.kd) (.int .i64 q2.sq) (.int .i64 q2.ep) (.int .i64 q2.ps) (.int .i64 q2.nm) (.int .i64 q2.z) (.int .i64 q2.wh) (.slice Y q2.l.length yc)
      have hO9 : Hid (Own _ _ _ _ _) := Lib.hid (own_all (g := w.heap.size + 4) ((hyB.below hb7).less hlA) l2 (.int .i64 q2.kd) (.int .i64 q2.sq) (.int .i64 q2.ep) (.int .i64 q2.ps) (.int .i64 q2.nm) (.int .i64 q2.z) (.int .i64 q2.wh) (.slice Y q2.l.length yc))
      have hV9 : Hid (OwnV _ _ _ _ _) := Lib.hid (ownv_8 (g := w.heap.size + 4) (hV5.below h7) l2 (.int .i64 q2.kd) (.int .i64 q2.sq) (.int .i64 q2.ep) (.int .i64 q2.ps) (.int .i64 q2.nm) (.int .i64 q2.z) (.int .i64 q2.wh) (.slice Y q2.l.length yc))
      have h9 := below_all (g := w.heap.size + 4) (h7.mono hM) (Nat.le_refl _) (.int .i64 q2.kd) (.int .i64 q2.sq) (.int .i64 q2.ep) (.int .i64 q2.ps) (.int .i64 q2.nm) (.int .i64 q2.z) (.int .i64 q2.wh) (.slice Y q2.l.length yc)
      go_roundw
      case rel => exact ⟨2, Y, yc, A, ac, ⟨q2, t.ws, 1⟩, by omega, by go_num, by rw [show stL _ _ _ _ q1 q2 2 = stepL _ _ 1 q2 (stL _ _ _ _ q1 q2 1) from rfl, ← HT.out]; exact (stepL_n _ 1 q2 t hH).symm, rfl, rfl, by show t.ws.length ≤ _; omega, P9, hO9.out, hV9.out, hbr.trans h9, Nat.le_trans lw h9.size⟩
      case measure => simp [RowKit.intOf]
  case inr.inr =>
   have j1 : ¬ (2 : Int) < 2 := by decide
   rw [show ((2 : Nat) : Int) = 2 from rfl]
   clear HS1 HS2 HI1 HI2 G5w F5w
   obtain ⟨z0, z1, z2, z3, z4, z5, z6, z7, f0, f1, f2, f3, f4, f5, f6, f7⟩ := id P5
   obtain ⟨A', x', he, q1', q2', q3', -⟩ := hO5.form
   have e1 : X = A' := (Value.slice.injEq .. ▸ he).1
   have e2 : xc = x' := (Value.slice.injEq .. ▸ he).2.2
   rw [← e1] at q3'
   rw [← e2] at q1' q2'
   clear he e1 e2
   rcases stL_fin c1 c2 o1 o2 q1 q2 HO1.out HO2.out with ⟨m1, m2, m3, m4⟩ | ⟨m1, m2, m3, m4⟩
   ·rw [← HT.out] at m1 m3 m4
    have hh1 : (t.how != 1) = false := by rw [m1]; rfl
    have HE := Lib.hid (show lookH c1 c2 o1 o2 = t.how ∧ lookR o1 o2 q1 q2 = t.r ∧ lookW o1 o2 = t.ws from ⟨m2.trans m1.symm, m3.symm, m4.symm⟩)
    have hO9 := own_all (g := w.heap.size + 4) hO5 l2 (.int .i64 t.r.kd) (.int .i64 t.r.sq) (.int .i64 t.r.ep) (.int .i64 t.r.ps) (.int .i64 t.r.nm) (.int .i64 t.r.z) (.int .i64 t.r.wh) (.slice X t.r.l.length xc)
    have hV9 := ownv_8 (g := w.heap.size + 4) hV5 l2 (.int .i64 t.r.kd) (.int .i64 t.r.sq) (.int .i64 t.r.ep) (.int .i64 t.r.ps) (.int .i64 t.r.nm) (.int .i64 t.r.z) (.int .i64 t.r.wh) (.slice X t.r.l.length xc)
    have k7 := P5.all (.int .i64 t.r.kd) (.int .i64 t.r.sq) (.int .i64 t.r.ep) (.int .i64 t.r.ps) (.int .i64 t.r.nm) (.int .i64 t.r.z) (.int .i64 t.r.wh) (.slice X t.r.l.length xc)
    obtain ⟨A', x', he, q4, q5, q6, -⟩ := hO9.form
    have e1 : X = A' := (Value.slice.injEq .. ▸ he).1
    have e2 : xc = x' := (Value.slice.injEq .. ▸ he).2.2
    rw [← e1] at q6
    clear m1 m2 m3 m4
    go_wp2_with fail
    exact bodyPost_ret (v := .tuple #[.agg #[.int .i64 t.r.kd, .int .i64 t.r.sq, .int .i64 t.r.ep, .int .i64 t.r.ps, .int .i64 t.r.nm, .int .i64 t.r.z, .int .i64 t.r.wh, .slice X t.r.l.length xc], .slice A t.ws.length ac, .int .i64 t.how, .int .i64 0]) (by simp [results, Tryz.results50, go_sem, k7.c0, k7.c1, k7.c2, k7.c3, k7.c4, k7.c5, k7.c6, k7.c7]) rfl ⟨by rw [HE.out.1, HE.out.2.1, HE.out.2.2]; exact ⟨X, xc, A, ac, rfl, hO9.less (by omega), hV9.less (by omega)⟩, below_all hs0 (by omega) _ _ _ _ _ _ _ _⟩
   ·rw [← HT.out] at m1 m2
    have hh1 : (t.how != 1) = true := bne_iff_ne.2 m1
    have HE := Lib.hid (show lookH c1 c2 o1 o2 = t.how ∧ lookR o1 o2 q1 q2 = noRec ∧ lookW o1 o2 = [] from ⟨m2.symm, m3, m4⟩)
    have k7 := P5.all (.int .i64 0) (.int .i64 0) (.int .i64 0) (.int .i64 0) (.int .i64 0) (.int .i64 0) (.int .i64 0) (.slice none 0 0)
    clear m1 m2 m3 m4
    go_wp2_with fail
    exact bodyPost_ret (v := .tuple #[.agg #[.int .i64 0, .int .i64 0, .int .i64 0, .int .i64 0, .int .i64 0, .int .i64 0, .int .i64 0, .slice none 0 0], .slice none 0 0, .int .i64 t.how, .int .i64 0]) (by simp [results, Tryz.results50, go_sem, k7.c0, k7.c1, k7.c2, k7.c3, k7.c4, k7.c5, k7.c6, k7.c7]) rfl ⟨by rw [HE.out.1, HE.out.2.1, HE.out.2.2]; exact ⟨none, 0, none, 0, rfl, own_nil _ _ _, ownV_nil _ _ _⟩, below_all hs0 (by omega) _ _ _ _ _ _ _ _⟩
end Go.Proofs.YtbfdpibjicjagaaGreatDoor.prr
namespace Go.Proofs.YtbfdpibjicjagaaGreatDoor.prr
open Go.RowKit Go.Lib
open Go.Proofs.YtbfdpibjicjagaaGreatDoor.gmt (Ok)
open Go.Proofs.YtbfdpibjicjagaaGreatDoor.anc (AV bl kal kst ks bm ka tn)
open Go.Proofs.YtbfdpibjicjagaaGreatDoor.lrc (Rcd RcR noRec RecOk RdOk SlotOk cellN)
theorem say_nm {z d e : Int} {b : List UInt8} {addr : Nat} (h : SayOk z d e b addr) : (sayR b).kd ≠ 0 → 2 ≤ (sayR b).nm := fun hk => by
 rcases h.2.2.2.1.2 with q | q | q
 ·exact absurd q.1 hk
 ·exact q.1.2.2.1
 ·exact q.1.2.2.1
theorem isY_say (c o : Bool) (z d : Int) (e : Int) (b : List UInt8) (addr : Nat) (x : AV) (sq at' of left : Int) (hc : c = true ↔ SayOk z d e b addr) (ho : o = true ↔ c = true ∧ OneR (sayR b) x.ep x.last sq at' of left) (h : c = true) (X : Option Addr) (xc : Nat) (W : World) :
  Calls Tryz.prog 68 #[.agg #[.int .i64 (sayR b).kd, .int .i64 (sayR b).sq, .int .i64 (sayR b).ep, .int .i64 (sayR b).ps, .int .i64 (sayR b).nm, .int .i64 (sayR b).z, .int .i64 (sayR b).wh, .slice X (sayR b).l.length xc], .agg #[.int .i64 x.gen, .int .i64 x.ep, .int .i64 x.pos, .int .i64 x.seq, .int .i64 x.last, .string x.lab, .slice x.HA x.hs.length x.hc], .int .i64 sq, .int .i64 at', .int .i64 of, .int .i64 left] W fun e w' => e = .returned (.bool o) ∧ Below W.heap.size W w' :=
 isY_c o ⟨(sayR b).kd, (sayR b).sq, (sayR b).ep, (sayR b).ps, (sayR b).nm, ⟨(sayR b).z, (sayR b).wh, X, xc, (sayR b).l⟩⟩ (sayR b).l.length x sq at' of left W (fun h1 _ h3 => by
  have h4 := say_nm (hc.1 h) h1
  have h5 : (sayR b).nm = 0 := h3
  omega) (ho.trans ⟨fun q => q.2, fun q => ⟨h, q⟩⟩)
theorem look_o (hV : lbl.ValidOk) (w : World) (hT : lbl.Tabs w) : ∀ (c1 c2 o1 o2 : Bool) (z d s l a : Int) (x : AV) (g h : Gt) (n m : Nat) (sl sq at' of left : Int) (W : World), Below w.heap.size w W → Ok z d s l a → x.In W W.heap.size → x.lab.size ≤ 4294967295 → anc.Good z d s l x.d → 0 ≤ sl ∧ sl ≤ l - 1 → g.In W W.heap.size → g.l.length = n → h.In W W.heap.size → h.l.length = m → (c1 = true ↔ SayOk z d g.e g.l (cellN l a 0 sl)) → (c2 = true ↔ SayOk z d h.e h.l (cellN l a 1 sl)) → (o1 = true ↔ c1 = true ∧ OneR (sayR g.l) x.ep x.last sq at' of left) → (o2 = true ↔ c2 = true ∧ OneR (sayR h.l) x.ep x.last sq at' of left) → Calls Tryz.prog 50 #[.agg #[.int .i64 z, .int .i64 d, .int .i64 s, .int .i64 l, .int .i64 a], .agg #[.int .i64 x.gen, .int .i64 x.ep, .int .i64 x.pos, .int .i64 x.seq, .int .i64 x.last, .string x.lab, .slice x.HA x.hs.length x.hc], .agg #[.int .i64 g.e, .slice g.A n g.c], .agg #[.int .i64 h.e, .slice h.A m h.c], .int .i64 sl, .int .i64 sq, .int .i64 at', .int .i64 of, .int .i64 left] W fun e w' => LookO W.heap.size (lookR o1 o2 (sayR g.l) (sayR h.l)) (lookW o1 o2) (lookH c1 c2 o1 o2) 0 e w' ∧ Below W.heap.size W w' := by
 intro c1 c2 o1 o2 z d s l a x g h n m sl sq at' of left W hW ho hx hlab hgd hsl hg hn hh hm hc1 hc2 ho1 ho2
 refine lookY_ok c1 c2 o1 o2 z d s l a x g h n m sl sq at' of left (sayR g.l) (sayR h.l) (a + 0 * l + sl) W (fun q => (ho1.1 q).1) (fun q => (ho2.1 q).1) ?_ ?_ ?_ ?_ ?_ ?_
 ·intro W2 hW2
  exact anc.check_p hV z d s l a true x W2 (tn hT (bt hW hW2)) ho (hx.next hW2) (by omega) (iff_of_true rfl hgd)
 ·intro W2 hW2
  exact gmt.log_at z d s l a 0 sl _ 0 W2 ho ⟨fun _ => ⟨rfl, rfl⟩, fun q => absurd ⟨⟨by decide, by decide⟩, hsl.1, by omega⟩ q⟩
 ·intro W2 hW2
  exact saysY_c c1 z d s l a 0 sl g n W2 ho ⟨.inl rfl, hsl⟩ (hg.next hW2) hn hc1
 ·intro W2 hW2
  exact saysY_c c2 z d s l a 1 sl h m W2 ho ⟨.inr rfl, hsl⟩ (hh.next hW2) hm hc2
 ·exact isY_say c1 o1 z d g.e g.l _ x sq at' of left hc1 ho1
 ·exact isY_say c2 o2 z d h.e h.l _ x sq at' of left hc2 ho2
end Go.Proofs.YtbfdpibjicjagaaGreatDoor.prr
