/-
  ScanElder: the ways out at its front. Conditions: none.
  ScanElder walked. Conditions: 'Csc', the laws' example.
-/
import Derived.Test.YtbfdpibjicjagaaGreatDoorGSb
import Derived.Test.YtbfdpibjicjagaaGreatDoorGAu
import Derived.Test.YtbfdpibjicjagaaGreatDoorGGm
import Derived.Test.YtbfdpibjicjagaaGreatDoorGSa
import Derived.Test.YtbfdpibjicjagaaGreatDoorGRg
import Derived.Test.YtbfdpibjicjagaaGreatDoorGAw
set_option maxHeartbeats 8000000
set_option maxRecDepth 100000
namespace Go.Proofs.YtbfdpibjicjagaaGreatDoor.scn
open Go.RowKit Go.Lib
open Go.Proofs.YtbfdpibjicjagaaGreatDoor.gmt (Ok rgeo_at)
open Go.Proofs.YtbfdpibjicjagaaGreatDoor.anc (AV AC ac_new bl kal kst ks bm ka HeavyA light heavy_any right_p)
open Go.Proofs.YtbfdpibjicjagaaGreatDoor.tbl (G5 g5_new)
theorem sceld_heavy (z d s l a : Int) (x : AV) (yA : Option Addr) (yc n : Nat) (fl n0 : Int) (w : World) (hx : x.In w w.heap.size) (hh : HeavyA x.d) :
  Calls Tryz.prog 9 #[.agg #[.int .i64 z, .int .i64 d, .int .i64 s, .int .i64 l, .int .i64 a], .agg #[.int .i64 x.gen, .int .i64 x.ep, .int .i64 x.pos, .int .i64 x.seq, .int .i64 x.last, .string x.lab, .slice x.HA x.hs.length x.hc], .slice yA n yc, .int .u8 fl, .int .i64 n0] w fun e w' => e = .returned (.bool true) ∧ Below w.heap.size w w' := by
 have cH := fun W (hW : Below w.heap.size w W) => heavy_any true x W (hx.next hW) (iff_of_true rfl hh)
 unfold AV.v at *
 have s1 : (w.alloc (.cells #[.int .i64 z, .int .i64 d, .int .i64 s, .int .i64 l, .int .i64 a] 23)).heap.size = w.heap.size + 1 := by simp
 have GG := (g5_new w z d s l a).keep (bl (w.alloc (.cells #[.int .i64 z, .int .i64 d, .int .i64 s, .int .i64 l, .int .i64 a] 23)) (.cells #[.int .i64 x.gen, .int .i64 x.ep, .int .i64 x.pos, .int .i64 x.seq, .int .i64 x.last, .string x.lab, .slice x.HA x.hs.length x.hc] 26)) (by simp)
 have FF := ac_new (w.alloc (.cells #[.int .i64 z, .int .i64 d, .int .i64 s, .int .i64 l, .int .i64 a] 23)) x
 rw [s1] at FF
 have hb0 := kal (bl w (.cells #[.int .i64 z, .int .i64 d, .int .i64 s, .int .i64 l, .int .i64 a] 23)) (.cells #[.int .i64 x.gen, .int .i64 x.ep, .int .i64 x.pos, .int .i64 x.seq, .int .i64 x.last, .string x.lab, .slice x.HA x.hs.length x.hc] 26)
 have l1 : w.heap.size + 1 < ((w.alloc (.cells #[.int .i64 z, .int .i64 d, .int .i64 s, .int .i64 l, .int .i64 a] 23)).alloc (.cells #[.int .i64 x.gen, .int .i64 x.ep, .int .i64 x.pos, .int .i64 x.seq, .int .i64 x.last, .string x.lab, .slice x.HA x.hs.length x.hc] 26)).heap.size := by simp
 clear hx hh s1
 go_enter Tryz.func9, Tryz.ntmps9
 go_upto_region 1 with fail
 generalize (w.alloc (.cells #[.int .i64 z, .int .i64 d, .int .i64 s, .int .i64 l, .int .i64 a] 23)).alloc (.cells #[.int .i64 x.gen, .int .i64 x.ep, .int .i64 x.pos, .int .i64 x.seq, .int .i64 x.last, .string x.lab, .slice x.HA x.hs.length x.hc] 26) = w0 at *
 obtain ⟨c0, c1, c2, c3, c4, c5, c6⟩ := id FF
 obtain ⟨g0, g1, g2, g3, g4⟩ := id GG
 go_wp2_with (first
  | (go_at_call 10; (with_reducible refine (cH _ hb0).mono ?_); rintro e wq ⟨rfl, hbq⟩; replace FF := FF.keep hbq (by omega); replace GG := GG.keep hbq (by omega); replace l1 := Nat.lt_of_lt_of_le l1 hbq.size; clear c0 c1 c2 c3 c4 c5 c6 g0 g1 g2 g3 g4; obtain ⟨c0, c1, c2, c3, c4, c5, c6⟩ := id FF; obtain ⟨g0, g1, g2, g3, g4⟩ := id GG; replace hb0 := bt hb0 hbq; clear hbq)
  | fail)
 go_ret
 exact ⟨rfl, hb0⟩
theorem sceld_long (z d s l a : Int) (x : AV) (yA : Option Addr) (yc n : Nat) (fl n0 : Int) (w : World) (hx : x.In w w.heap.size) (hh : ¬ HeavyA x.d) (hn : (40 : Int) < (n : Int)) :
  Calls Tryz.prog 9 #[.agg #[.int .i64 z, .int .i64 d, .int .i64 s, .int .i64 l, .int .i64 a], .agg #[.int .i64 x.gen, .int .i64 x.ep, .int .i64 x.pos, .int .i64 x.seq, .int .i64 x.last, .string x.lab, .slice x.HA x.hs.length x.hc], .slice yA n yc, .int .u8 fl, .int .i64 n0] w fun e w' => e = .returned (.bool true) ∧ Below w.heap.size w w' := by
 have cH := fun W (hW : Below w.heap.size w W) => heavy_any false x W (hx.next hW) (iff_of_false Bool.false_ne_true hh)
 unfold AV.v at *
 have s1 : (w.alloc (.cells #[.int .i64 z, .int .i64 d, .int .i64 s, .int .i64 l, .int .i64 a] 23)).heap.size = w.heap.size + 1 := by simp
 have GG := (g5_new w z d s l a).keep (bl (w.alloc (.cells #[.int .i64 z, .int .i64 d, .int .i64 s, .int .i64 l, .int .i64 a] 23)) (.cells #[.int .i64 x.gen, .int .i64 x.ep, .int .i64 x.pos, .int .i64 x.seq, .int .i64 x.last, .string x.lab, .slice x.HA x.hs.length x.hc] 26)) (by simp)
 have FF := ac_new (w.alloc (.cells #[.int .i64 z, .int .i64 d, .int .i64 s, .int .i64 l, .int .i64 a] 23)) x
 rw [s1] at FF
 have hb0 := kal (bl w (.cells #[.int .i64 z, .int .i64 d, .int .i64 s, .int .i64 l, .int .i64 a] 23)) (.cells #[.int .i64 x.gen, .int .i64 x.ep, .int .i64 x.pos, .int .i64 x.seq, .int .i64 x.last, .string x.lab, .slice x.HA x.hs.length x.hc] 26)
 have l1 : w.heap.size + 1 < ((w.alloc (.cells #[.int .i64 z, .int .i64 d, .int .i64 s, .int .i64 l, .int .i64 a] 23)).alloc (.cells #[.int .i64 x.gen, .int .i64 x.ep, .int .i64 x.pos, .int .i64 x.seq, .int .i64 x.last, .string x.lab, .slice x.HA x.hs.length x.hc] 26)).heap.size := by simp
 clear hx hh s1
 go_enter Tryz.func9, Tryz.ntmps9
 go_upto_region 1 with fail
 generalize (w.alloc (.cells #[.int .i64 z, .int .i64 d, .int .i64 s, .int .i64 l, .int .i64 a] 23)).alloc (.cells #[.int .i64 x.gen, .int .i64 x.ep, .int .i64 x.pos, .int .i64 x.seq, .int .i64 x.last, .string x.lab, .slice x.HA x.hs.length x.hc] 26) = w0 at *
 obtain ⟨c0, c1, c2, c3, c4, c5, c6⟩ := id FF
 obtain ⟨g0, g1, g2, g3, g4⟩ := id GG
 go_wp2_with (first
  | (go_at_call 10; (with_reducible refine (cH _ hb0).mono ?_); rintro e wq ⟨rfl, hbq⟩; replace FF := FF.keep hbq (by omega); replace GG := GG.keep hbq (by omega); replace l1 := Nat.lt_of_lt_of_le l1 hbq.size; clear c0 c1 c2 c3 c4 c5 c6 g0 g1 g2 g3 g4; obtain ⟨c0, c1, c2, c3, c4, c5, c6⟩ := id FF; obtain ⟨g0, g1, g2, g3, g4⟩ := id GG; replace hb0 := bt hb0 hbq; clear hbq)
  | fail)
 go_ret
 exact ⟨rfl, hb0⟩
theorem sceld_geo (z d s l a : Int) (x : AV) (yA : Option Addr) (yc n : Nat) (fl n0 : Int) (w : World) (hx : x.In w w.heap.size) (hh : ¬ HeavyA x.d) (hn : ¬ (40 : Int) < (n : Int)) (ho : ¬ Ok z d s l a) :
  Calls Tryz.prog 9 #[.agg #[.int .i64 z, .int .i64 d, .int .i64 s, .int .i64 l, .int .i64 a], .agg #[.int .i64 x.gen, .int .i64 x.ep, .int .i64 x.pos, .int .i64 x.seq, .int .i64 x.last, .string x.lab, .slice x.HA x.hs.length x.hc], .slice yA n yc, .int .u8 fl, .int .i64 n0] w fun e w' => e = .returned (.bool true) ∧ Below w.heap.size w w' := by
 have cH := fun W (hW : Below w.heap.size w W) => heavy_any false x W (hx.next hW) (iff_of_false Bool.false_ne_true hh)
 have cG := fun W => rgeo_at false z d s l a W (iff_of_false Bool.false_ne_true ho)
 unfold AV.v at *
 have s1 : (w.alloc (.cells #[.int .i64 z, .int .i64 d, .int .i64 s, .int .i64 l, .int .i64 a] 23)).heap.size = w.heap.size + 1 := by simp
 have GG := (g5_new w z d s l a).keep (bl (w.alloc (.cells #[.int .i64 z, .int .i64 d, .int .i64 s, .int .i64 l, .int .i64 a] 23)) (.cells #[.int .i64 x.gen, .int .i64 x.ep, .int .i64 x.pos, .int .i64 x.seq, .int .i64 x.last, .string x.lab, .slice x.HA x.hs.length x.hc] 26)) (by simp)
 have FF := ac_new (w.alloc (.cells #[.int .i64 z, .int .i64 d, .int .i64 s, .int .i64 l, .int .i64 a] 23)) x
 rw [s1] at FF
 have hb0 := kal (bl w (.cells #[.int .i64 z, .int .i64 d, .int .i64 s, .int .i64 l, .int .i64 a] 23)) (.cells #[.int .i64 x.gen, .int .i64 x.ep, .int .i64 x.pos, .int .i64 x.seq, .int .i64 x.last, .string x.lab, .slice x.HA x.hs.length x.hc] 26)
 have l1 : w.heap.size + 1 < ((w.alloc (.cells #[.int .i64 z, .int .i64 d, .int .i64 s, .int .i64 l, .int .i64 a] 23)).alloc (.cells #[.int .i64 x.gen, .int .i64 x.ep, .int .i64 x.pos, .int .i64 x.seq, .int .i64 x.last, .string x.lab, .slice x.HA x.hs.length x.hc] 26)).heap.size := by simp
 clear hx hh ho s1
 go_enter Tryz.func9, Tryz.ntmps9
 go_upto_region 1 with fail
 generalize (w.alloc (.cells #[.int .i64 z, .int .i64 d, .int .i64 s, .int .i64 l, .int .i64 a] 23)).alloc (.cells #[.int .i64 x.gen, .int .i64 x.ep, .int .i64 x.pos, .int .i64 x.seq, .int .i64 x.last, .string x.lab, .slice x.HA x.hs.length x.hc] 26) = w0 at *
 obtain ⟨c0, c1, c2, c3, c4, c5, c6⟩ := id FF
 obtain ⟨g0, g1, g2, g3, g4⟩ := id GG
 go_wp2_with (first
  | (go_at_call 10; (with_reducible refine (cH _ hb0).mono ?_); rintro e wq ⟨rfl, hbq⟩; replace FF := FF.keep hbq (by omega); replace GG := GG.keep hbq (by omega); replace l1 := Nat.lt_of_lt_of_le l1 hbq.size; clear c0 c1 c2 c3 c4 c5 c6 g0 g1 g2 g3 g4; obtain ⟨c0, c1, c2, c3, c4, c5, c6⟩ := id FF; obtain ⟨g0, g1, g2, g3, g4⟩ := id GG; replace hb0 := bt hb0 hbq; clear hbq)
  | (go_at_call 15; (with_reducible refine (cG _).mono ?_); rintro e wq ⟨rfl, hbq⟩; replace FF := FF.keep hbq (by omega); replace GG := GG.keep hbq (by omega); replace l1 := Nat.lt_of_lt_of_le l1 hbq.size; clear c0 c1 c2 c3 c4 c5 c6 g0 g1 g2 g3 g4; obtain ⟨c0, c1, c2, c3, c4, c5, c6⟩ := id FF; obtain ⟨g0, g1, g2, g3, g4⟩ := id GG; replace hb0 := bt hb0 hbq; clear hbq)
  | fail)
 go_ret
 exact ⟨rfl, hb0⟩
theorem sceld_bad (z d s l a : Int) (x : AV) (yA : Option Addr) (yc n : Nat) (fl n0 : Int) (w : World) (hx : x.In w w.heap.size) (hh : ¬ HeavyA x.d) (hn : ¬ (40 : Int) < (n : Int)) (ho : Ok z d s l a) (hg : ¬ anc.Good z d s l x.d) :
  Calls Tryz.prog 9 #[.agg #[.int .i64 z, .int .i64 d, .int .i64 s, .int .i64 l, .int .i64 a], .agg #[.int .i64 x.gen, .int .i64 x.ep, .int .i64 x.pos, .int .i64 x.seq, .int .i64 x.last, .string x.lab, .slice x.HA x.hs.length x.hc], .slice yA n yc, .int .u8 fl, .int .i64 n0] w fun e w' => e = .returned (.bool true) ∧ Below w.heap.size w w' := by
 have cH := fun W (hW : Below w.heap.size w W) => heavy_any false x W (hx.next hW) (iff_of_false Bool.false_ne_true hh)
 have cG := fun W => rgeo_at true z d s l a W (iff_of_true rfl ho)
 obtain ⟨t1, t2, t3⟩ := light hh
 have cR := fun W (hW : Below w.heap.size w W) => right_p z d s l a false x W ho (hx.next hW) (by omega) (fun r hr => by have := t3 r hr; omega) (by omega) (iff_of_false Bool.false_ne_true hg)
 unfold AV.v at *
 have s1 : (w.alloc (.cells #[.int .i64 z, .int .i64 d, .int .i64 s, .int .i64 l, .int .i64 a] 23)).heap.size = w.heap.size + 1 := by simp
 have GG := (g5_new w z d s l a).keep (bl (w.alloc (.cells #[.int .i64 z, .int .i64 d, .int .i64 s, .int .i64 l, .int .i64 a] 23)) (.cells #[.int .i64 x.gen, .int .i64 x.ep, .int .i64 x.pos, .int .i64 x.seq, .int .i64 x.last, .string x.lab, .slice x.HA x.hs.length x.hc] 26)) (by simp)
 have FF := ac_new (w.alloc (.cells #[.int .i64 z, .int .i64 d, .int .i64 s, .int .i64 l, .int .i64 a] 23)) x
 rw [s1] at FF
 have hb0 := kal (bl w (.cells #[.int .i64 z, .int .i64 d, .int .i64 s, .int .i64 l, .int .i64 a] 23)) (.cells #[.int .i64 x.gen, .int .i64 x.ep, .int .i64 x.pos, .int .i64 x.seq, .int .i64 x.last, .string x.lab, .slice x.HA x.hs.length x.hc] 26)
 have l1 : w.heap.size + 1 < ((w.alloc (.cells #[.int .i64 z, .int .i64 d, .int .i64 s, .int .i64 l, .int .i64 a] 23)).alloc (.cells #[.int .i64 x.gen, .int .i64 x.ep, .int .i64 x.pos, .int .i64 x.seq, .int .i64 x.last, .string x.lab, .slice x.HA x.hs.length x.hc] 26)).heap.size := by simp
 clear hx hh ho hg t1 t2 t3 s1
 go_enter Tryz.func9, Tryz.ntmps9
 go_upto_region 1 with fail
 generalize (w.alloc (.cells #[.int .i64 z, .int .i64 d, .int .i64 s, .int .i64 l, .int .i64 a] 23)).alloc (.cells #[.int .i64 x.gen, .int .i64 x.ep, .int .i64 x.pos, .int .i64 x.seq, .int .i64 x.last, .string x.lab, .slice x.HA x.hs.length x.hc] 26) = w0 at *
 obtain ⟨c0, c1, c2, c3, c4, c5, c6⟩ := id FF
 obtain ⟨g0, g1, g2, g3, g4⟩ := id GG
 go_wp2_with (first
  | (go_at_call 10; (with_reducible refine (cH _ hb0).mono ?_); rintro e wq ⟨rfl, hbq⟩; replace FF := FF.keep hbq (by omega); replace GG := GG.keep hbq (by omega); replace l1 := Nat.lt_of_lt_of_le l1 hbq.size; clear c0 c1 c2 c3 c4 c5 c6 g0 g1 g2 g3 g4; obtain ⟨c0, c1, c2, c3, c4, c5, c6⟩ := id FF; obtain ⟨g0, g1, g2, g3, g4⟩ := id GG; replace hb0 := bt hb0 hbq; clear hbq)
  | (go_at_call 15; (with_reducible refine (cG _).mono ?_); rintro e wq ⟨rfl, hbq⟩; replace FF := FF.keep hbq (by omega); replace GG := GG.keep hbq (by omega); replace l1 := Nat.lt_of_lt_of_le l1 hbq.size; clear c0 c1 c2 c3 c4 c5 c6 g0 g1 g2 g3 g4; obtain ⟨c0, c1, c2, c3, c4, c5, c6⟩ := id FF; obtain ⟨g0, g1, g2, g3, g4⟩ := id GG; replace hb0 := bt hb0 hbq; clear hbq)
  | (go_at_call 16; (with_reducible refine (cR _ hb0).mono ?_); rintro e wq ⟨rfl, hbq⟩; replace FF := FF.keep hbq (by omega); replace GG := GG.keep hbq (by omega); replace l1 := Nat.lt_of_lt_of_le l1 hbq.size; clear c0 c1 c2 c3 c4 c5 c6 g0 g1 g2 g3 g4; obtain ⟨c0, c1, c2, c3, c4, c5, c6⟩ := id FF; obtain ⟨g0, g1, g2, g3, g4⟩ := id GG; replace hb0 := bt hb0 hbq; clear hbq)
  | fail)
 go_ret
 exact ⟨rfl, hb0⟩
theorem sceld_late (z d s l a : Int) (x : AV) (yA : Option Addr) (yc n : Nat) (fl n0 : Int) (w : World) (hx : x.In w w.heap.size) (hh : ¬ HeavyA x.d) (hn : ¬ (40 : Int) < (n : Int)) (ho : Ok z d s l a) (hg : anc.Good z d s l x.d) (hq : 1000000 < x.seq) :
  Calls Tryz.prog 9 #[.agg #[.int .i64 z, .int .i64 d, .int .i64 s, .int .i64 l, .int .i64 a], .agg #[.int .i64 x.gen, .int .i64 x.ep, .int .i64 x.pos, .int .i64 x.seq, .int .i64 x.last, .string x.lab, .slice x.HA x.hs.length x.hc], .slice yA n yc, .int .u8 fl, .int .i64 n0] w fun e w' => e = .returned (.bool true) ∧ Below w.heap.size w w' := by
 have cH := fun W (hW : Below w.heap.size w W) => heavy_any false x W (hx.next hW) (iff_of_false Bool.false_ne_true hh)
 have cG := fun W => rgeo_at true z d s l a W (iff_of_true rfl ho)
 obtain ⟨t1, t2, t3⟩ := light hh
 have cR := fun W (hW : Below w.heap.size w W) => right_p z d s l a true x W ho (hx.next hW) (by omega) (fun r hr => by have := t3 r hr; omega) (by omega) (iff_of_true rfl hg)
 unfold AV.v at *
 have s1 : (w.alloc (.cells #[.int .i64 z, .int .i64 d, .int .i64 s, .int .i64 l, .int .i64 a] 23)).heap.size = w.heap.size + 1 := by simp
 have GG := (g5_new w z d s l a).keep (bl (w.alloc (.cells #[.int .i64 z, .int .i64 d, .int .i64 s, .int .i64 l, .int .i64 a] 23)) (.cells #[.int .i64 x.gen, .int .i64 x.ep, .int .i64 x.pos, .int .i64 x.seq, .int .i64 x.last, .string x.lab, .slice x.HA x.hs.length x.hc] 26)) (by simp)
 have FF := ac_new (w.alloc (.cells #[.int .i64 z, .int .i64 d, .int .i64 s, .int .i64 l, .int .i64 a] 23)) x
 rw [s1] at FF
 have hb0 := kal (bl w (.cells #[.int .i64 z, .int .i64 d, .int .i64 s, .int .i64 l, .int .i64 a] 23)) (.cells #[.int .i64 x.gen, .int .i64 x.ep, .int .i64 x.pos, .int .i64 x.seq, .int .i64 x.last, .string x.lab, .slice x.HA x.hs.length x.hc] 26)
 have l1 : w.heap.size + 1 < ((w.alloc (.cells #[.int .i64 z, .int .i64 d, .int .i64 s, .int .i64 l, .int .i64 a] 23)).alloc (.cells #[.int .i64 x.gen, .int .i64 x.ep, .int .i64 x.pos, .int .i64 x.seq, .int .i64 x.last, .string x.lab, .slice x.HA x.hs.length x.hc] 26)).heap.size := by simp
 clear hx hh ho hg t1 t2 t3 s1
 go_enter Tryz.func9, Tryz.ntmps9
 go_upto_region 1 with fail
 generalize (w.alloc (.cells #[.int .i64 z, .int .i64 d, .int .i64 s, .int .i64 l, .int .i64 a] 23)).alloc (.cells #[.int .i64 x.gen, .int .i64 x.ep, .int .i64 x.pos, .int .i64 x.seq, .int .i64 x.last, .string x.lab, .slice x.HA x.hs.length x.hc] 26) = w0 at *
 obtain ⟨c0, c1, c2, c3, c4, c5, c6⟩ := id FF
 obtain ⟨g0, g1, g2, g3, g4⟩ := id GG
 go_wp2_with (first
  | (go_at_call 10; (with_reducible refine (cH _ hb0).mono ?_); rintro e wq ⟨rfl, hbq⟩; replace FF := FF.keep hbq (by omega); replace GG := GG.keep hbq (by omega); replace l1 := Nat.lt_of_lt_of_le l1 hbq.size; clear c0 c1 c2 c3 c4 c5 c6 g0 g1 g2 g3 g4; obtain ⟨c0, c1, c2, c3, c4, c5, c6⟩ := id FF; obtain ⟨g0, g1, g2, g3, g4⟩ := id GG; replace hb0 := bt hb0 hbq; clear hbq)
  | (go_at_call 15; (with_reducible refine (cG _).mono ?_); rintro e wq ⟨rfl, hbq⟩; replace FF := FF.keep hbq (by omega); replace GG := GG.keep hbq (by omega); replace l1 := Nat.lt_of_lt_of_le l1 hbq.size; clear c0 c1 c2 c3 c4 c5 c6 g0 g1 g2 g3 g4; obtain ⟨c0, c1, c2, c3, c4, c5, c6⟩ := id FF; obtain ⟨g0, g1, g2, g3, g4⟩ := id GG; replace hb0 := bt hb0 hbq; clear hbq)
  | (go_at_call 16; (with_reducible refine (cR _ hb0).mono ?_); rintro e wq ⟨rfl, hbq⟩; replace FF := FF.keep hbq (by omega); replace GG := GG.keep hbq (by omega); replace l1 := Nat.lt_of_lt_of_le l1 hbq.size; clear c0 c1 c2 c3 c4 c5 c6 g0 g1 g2 g3 g4; obtain ⟨c0, c1, c2, c3, c4, c5, c6⟩ := id FF; obtain ⟨g0, g1, g2, g3, g4⟩ := id GG; replace hb0 := bt hb0 hbq; clear hbq)
  | fail)
 go_ret
 exact ⟨rfl, hb0⟩
theorem sceld_first (z d s l a : Int) (x : AV) (yA : Option Addr) (yc n : Nat) (fl n0 : Int) (w : World) (hx : x.In w w.heap.size) (hh : ¬ HeavyA x.d) (hn : ¬ (40 : Int) < (n : Int)) (ho : Ok z d s l a) (hg : anc.Good z d s l x.d) (hq : ¬ 1000000 < x.seq) (he : x.ep < 1) :
  Calls Tryz.prog 9 #[.agg #[.int .i64 z, .int .i64 d, .int .i64 s, .int .i64 l, .int .i64 a], .agg #[.int .i64 x.gen, .int .i64 x.ep, .int .i64 x.pos, .int .i64 x.seq, .int .i64 x.last, .string x.lab, .slice x.HA x.hs.length x.hc], .slice yA n yc, .int .u8 fl, .int .i64 n0] w fun e w' => e = .returned (.bool true) ∧ Below w.heap.size w w' := by
 have cH := fun W (hW : Below w.heap.size w W) => heavy_any false x W (hx.next hW) (iff_of_false Bool.false_ne_true hh)
 have cG := fun W => rgeo_at true z d s l a W (iff_of_true rfl ho)
 obtain ⟨t1, t2, t3⟩ := light hh
 have cR := fun W (hW : Below w.heap.size w W) => right_p z d s l a true x W ho (hx.next hW) (by omega) (fun r hr => by have := t3 r hr; omega) (by omega) (iff_of_true rfl hg)
 unfold AV.v at *
 have s1 : (w.alloc (.cells #[.int .i64 z, .int .i64 d, .int .i64 s, .int .i64 l, .int .i64 a] 23)).heap.size = w.heap.size + 1 := by simp
 have GG := (g5_new w z d s l a).keep (bl (w.alloc (.cells #[.int .i64 z, .int .i64 d, .int .i64 s, .int .i64 l, .int .i64 a] 23)) (.cells #[.int .i64 x.gen, .int .i64 x.ep, .int .i64 x.pos, .int .i64 x.seq, .int .i64 x.last, .string x.lab, .slice x.HA x.hs.length x.hc] 26)) (by simp)
 have FF := ac_new (w.alloc (.cells #[.int .i64 z, .int .i64 d, .int .i64 s, .int .i64 l, .int .i64 a] 23)) x
 rw [s1] at FF
 have hb0 := kal (bl w (.cells #[.int .i64 z, .int .i64 d, .int .i64 s, .int .i64 l, .int .i64 a] 23)) (.cells #[.int .i64 x.gen, .int .i64 x.ep, .int .i64 x.pos, .int .i64 x.seq, .int .i64 x.last, .string x.lab, .slice x.HA x.hs.length x.hc] 26)
 have l1 : w.heap.size + 1 < ((w.alloc (.cells #[.int .i64 z, .int .i64 d, .int .i64 s, .int .i64 l, .int .i64 a] 23)).alloc (.cells #[.int .i64 x.gen, .int .i64 x.ep, .int .i64 x.pos, .int .i64 x.seq, .int .i64 x.last, .string x.lab, .slice x.HA x.hs.length x.hc] 26)).heap.size := by simp
 clear hx hh ho hg t1 t2 t3 s1
 go_enter Tryz.func9, Tryz.ntmps9
 go_upto_region 1 with fail
 generalize (w.alloc (.cells #[.int .i64 z, .int .i64 d, .int .i64 s, .int .i64 l, .int .i64 a] 23)).alloc (.cells #[.int .i64 x.gen, .int .i64 x.ep, .int .i64 x.pos, .int .i64 x.seq, .int .i64 x.last, .string x.lab, .slice x.HA x.hs.length x.hc] 26) = w0 at *
 obtain ⟨c0, c1, c2, c3, c4, c5, c6⟩ := id FF
 obtain ⟨g0, g1, g2, g3, g4⟩ := id GG
 go_wp2_with (first
  | (go_at_call 10; (with_reducible refine (cH _ hb0).mono ?_); rintro e wq ⟨rfl, hbq⟩; replace FF := FF.keep hbq (by omega); replace GG := GG.keep hbq (by omega); replace l1 := Nat.lt_of_lt_of_le l1 hbq.size; clear c0 c1 c2 c3 c4 c5 c6 g0 g1 g2 g3 g4; obtain ⟨c0, c1, c2, c3, c4, c5, c6⟩ := id FF; obtain ⟨g0, g1, g2, g3, g4⟩ := id GG; replace hb0 := bt hb0 hbq; clear hbq)
  | (go_at_call 15; (with_reducible refine (cG _).mono ?_); rintro e wq ⟨rfl, hbq⟩; replace FF := FF.keep hbq (by omega); replace GG := GG.keep hbq (by omega); replace l1 := Nat.lt_of_lt_of_le l1 hbq.size; clear c0 c1 c2 c3 c4 c5 c6 g0 g1 g2 g3 g4; obtain ⟨c0, c1, c2, c3, c4, c5, c6⟩ := id FF; obtain ⟨g0, g1, g2, g3, g4⟩ := id GG; replace hb0 := bt hb0 hbq; clear hbq)
  | (go_at_call 16; (with_reducible refine (cR _ hb0).mono ?_); rintro e wq ⟨rfl, hbq⟩; replace FF := FF.keep hbq (by omega); replace GG := GG.keep hbq (by omega); replace l1 := Nat.lt_of_lt_of_le l1 hbq.size; clear c0 c1 c2 c3 c4 c5 c6 g0 g1 g2 g3 g4; obtain ⟨c0, c1, c2, c3, c4, c5, c6⟩ := id FF; obtain ⟨g0, g1, g2, g3, g4⟩ := id GG; replace hb0 := bt hb0 hbq; clear hbq)
  | fail)
 go_ret
 exact ⟨rfl, hb0⟩
end Go.Proofs.YtbfdpibjicjagaaGreatDoor.scn
namespace Go.Proofs.YtbfdpibjicjagaaGreatDoor.scn
open Go.RowKit Go.Lib
open Go.Proofs.YtbfdpibjicjagaaGreatDoor.gmt (Ok rgeo_at)
open Go.Proofs.YtbfdpibjicjagaaGreatDoor.anc (AV AC ac_new bl kal kst ks bm ka HeavyA light heavy_any right_p Sev sev_new twin_anchor)
open Go.Proofs.YtbfdpibjicjagaaGreatDoor.tbl (G5 g5_new)
open Go.Proofs.YtbfdpibjicjagaaGreatDoor.rng (XV TxR Txd tds tvs TIn LogOk OwnT ownT_in log_c logX tabB tabB_told logX_ok)
theorem sceld_main (z d s l a : Int) (x : AV) (yA : Option Addr) (yc n : Nat) (ys : List Int) (fl n0 : Int) (w : World) (hc : Csc w) (hk : ∀ W, Below w.heap.size w W → Calls Tryz.prog 17 #[] W fun e w' => e = .returned (.bool true) ∧ Below W.heap.size W w') (hx : x.In w w.heap.size) (hA : SlV w w.heap.size yA (ints ys)) (hyn : ys.length = n) (hfl : 0 ≤ fl ∧ fl ≤ 255) (hh : ¬ HeavyA x.d) (hn : ¬ (40 : Int) < (n : Int)) (ho : Ok z d s l a) (hg : anc.Good z d s l x.d) (hq : ¬ 1000000 < x.seq) (he : ¬ x.ep < 1) :
  Calls Tryz.prog 9 #[.agg #[.int .i64 z, .int .i64 d, .int .i64 s, .int .i64 l, .int .i64 a], .agg #[.int .i64 x.gen, .int .i64 x.ep, .int .i64 x.pos, .int .i64 x.seq, .int .i64 x.last, .string x.lab, .slice x.HA x.hs.length x.hc], .slice yA n yc, .int .u8 fl, .int .i64 n0] w fun e w' => e = .returned (.bool true) ∧ Below w.heap.size w w' := by
 have cH := fun W (hW : Below w.heap.size w W) => heavy_any false x W (hx.next hW) (iff_of_false Bool.false_ne_true hh)
 have cG := fun W => rgeo_at true z d s l a W (iff_of_true rfl ho)
 obtain ⟨t1, t2, t3⟩ := light hh
 have cR := fun W (hW : Below w.heap.size w W) => right_p z d s l a true x W ho (hx.next hW) (by omega) (fun r hr => by have := t3 r hr; omega) (by omega) (iff_of_true rfl hg)
 have HC := Lib.hid hc
 have HK := Lib.hid hk
 have HX := Lib.hid hx
 have HO := Lib.hid ho
 have HGD := Lib.hid hg
 have HT3 := Lib.hid t3
 have HT1 := Lib.hid t1
 have HLAB := Lib.hid (show x.lab.size ≤ 4294967295 by omega)
 have hpos : 0 ≤ x.pos ∧ x.pos ≤ l - 1 := hg.2.2.2.2.2.1
 have hsq : 0 ≤ x.seq ∧ x.seq ≤ 4294967295 := ⟨by have := hg.2.2.1.1; exact Int.le_trans (by decide) this, hg.2.2.1.2⟩
 have hll : 14 ≤ l ∧ l ≤ 30 := ho.2.2.2.1
 have HLG := Lib.hid (show ∀ W, Below w.heap.size w W → Calls Tryz.prog 21 #[.agg #[.int .i64 z, .int .i64 d, .int .i64 s, .int .i64 l, .int .i64 a], .agg #[.int .i64 x.gen, .int .i64 x.ep, .int .i64 x.pos, .int .i64 x.seq, .int .i64 x.last, .string x.lab, .slice x.HA x.hs.length x.hc], .slice yA n yc, .int .u8 fl] W fun e w' => (∃ (A : Option Addr) (c : Nat) (ts : List TxR), e = .returned (.slice A ts.length c) ∧ tds ts = logX z d l (tabB d) (UInt8.ofNat fl.toNat) x.seq 0 x.pos 0 ys ∧ XV.In w' w'.heap.size ⟨A, c, ts⟩) ∧ Below W.heap.size W w' from fun W hW =>
  (log_c z d s l a x.gen x.ep x.pos x.seq x.last x.lab x.HA x.hs.length x.hc yA yc ys n fl W ho (hA.next hW) hyn (by omega) hpos hsq hfl).mono fun e w' ⟨⟨v, ts, h1, h2, h3⟩, hb⟩ => by
   obtain ⟨A, c, hv, hin⟩ := ownT_in h3
   exact ⟨⟨A, c, ts, by rw [h1, hv], h2, hin⟩, hb⟩)
 have HLO := Lib.hid (show LogOk z d l x.pos x.seq 0 (logX z d l (tabB d) (UInt8.ofNat fl.toNat) x.seq 0 x.pos 0 ys) from by
  have h9 := logX_ok (z := z) (d := d) (l := l) (tb := tabB d) ho.1.1 ho.2.1 (tabB_told (by have := ho.2.1; omega)) (UInt8.ofNat fl.toNat) x.seq ys 0 x.pos 0 (by omega)
  simpa using h9)
 unfold AV.v at *
 have s1 : (w.alloc (.cells #[.int .i64 z, .int .i64 d, .int .i64 s, .int .i64 l, .int .i64 a] 23)).heap.size = w.heap.size + 1 := by simp
 have GG := (g5_new w z d s l a).keep (bl (w.alloc (.cells #[.int .i64 z, .int .i64 d, .int .i64 s, .int .i64 l, .int .i64 a] 23)) (.cells #[.int .i64 x.gen, .int .i64 x.ep, .int .i64 x.pos, .int .i64 x.seq, .int .i64 x.last, .string x.lab, .slice x.HA x.hs.length x.hc] 26)) (by simp)
 have FF := ac_new (w.alloc (.cells #[.int .i64 z, .int .i64 d, .int .i64 s, .int .i64 l, .int .i64 a] 23)) x
 rw [s1] at FF
 have hb0 := kal (bl w (.cells #[.int .i64 z, .int .i64 d, .int .i64 s, .int .i64 l, .int .i64 a] 23)) (.cells #[.int .i64 x.gen, .int .i64 x.ep, .int .i64 x.pos, .int .i64 x.seq, .int .i64 x.last, .string x.lab, .slice x.HA x.hs.length x.hc] 26)
 have l1 : w.heap.size + 1 < ((w.alloc (.cells #[.int .i64 z, .int .i64 d, .int .i64 s, .int .i64 l, .int .i64 a] 23)).alloc (.cells #[.int .i64 x.gen, .int .i64 x.ep, .int .i64 x.pos, .int .i64 x.seq, .int .i64 x.last, .string x.lab, .slice x.HA x.hs.length x.hc] 26)).heap.size := by simp
 clear hx hh ho hg t1 t3 hc hk hA hyn s1
 go_enter Tryz.func9, Tryz.ntmps9
 go_upto_region 1 with fail
 generalize (w.alloc (.cells #[.int .i64 z, .int .i64 d, .int .i64 s, .int .i64 l, .int .i64 a] 23)).alloc (.cells #[.int .i64 x.gen, .int .i64 x.ep, .int .i64 x.pos, .int .i64 x.seq, .int .i64 x.last, .string x.lab, .slice x.HA x.hs.length x.hc] 26) = w0 at *
 obtain ⟨c0, c1, c2, c3, c4, c5, c6⟩ := id FF
 obtain ⟨g0, g1, g2, g3, g4⟩ := id GG
 go_upto_region 3 with (first
  | (go_at_call 10; (with_reducible refine (cH _ hb0).mono ?_); rintro e wq ⟨rfl, hbq⟩; replace FF := FF.keep hbq (by omega); replace GG := GG.keep hbq (by omega); replace l1 := Nat.lt_of_lt_of_le l1 hbq.size; clear c0 c1 c2 c3 c4 c5 c6 g0 g1 g2 g3 g4; obtain ⟨c0, c1, c2, c3, c4, c5, c6⟩ := id FF; obtain ⟨g0, g1, g2, g3, g4⟩ := id GG; replace hb0 := bt hb0 hbq; clear hbq)
  | (go_at_call 15; (with_reducible refine (cG _).mono ?_); rintro e wq ⟨rfl, hbq⟩; replace FF := FF.keep hbq (by omega); replace GG := GG.keep hbq (by omega); replace l1 := Nat.lt_of_lt_of_le l1 hbq.size; clear c0 c1 c2 c3 c4 c5 c6 g0 g1 g2 g3 g4; obtain ⟨c0, c1, c2, c3, c4, c5, c6⟩ := id FF; obtain ⟨g0, g1, g2, g3, g4⟩ := id GG; replace hb0 := bt hb0 hbq; clear hbq)
  | (go_at_call 16; (with_reducible refine (cR _ hb0).mono ?_); rintro e wq ⟨rfl, hbq⟩; replace FF := FF.keep hbq (by omega); replace GG := GG.keep hbq (by omega); replace l1 := Nat.lt_of_lt_of_le l1 hbq.size; clear c0 c1 c2 c3 c4 c5 c6 g0 g1 g2 g3 g4; obtain ⟨c0, c1, c2, c3, c4, c5, c6⟩ := id FF; obtain ⟨g0, g1, g2, g3, g4⟩ := id GG; replace hb0 := bt hb0 hbq; clear hbq)
  | fail)
 go_upto_region 4 with (go_at_call 21; (with_reducible refine (HLG.out _ hb0).mono ?_); rintro e w2 ⟨⟨A, c, ts, rfl, hts, hin⟩, hb2⟩)
 have hLT : LogOk z d l x.pos x.seq 0 (tds ts) := by rw [hts]; exact HLO.out
 have hlen : ts.length ≤ 15 := by
  have h1 := log_len hll.2 hLT (by omega)
  rwa [rng.tds_length] at h1
 have HLT := Lib.hid hLT
 clear hts hLT HLO HLG
 obtain ⟨M, hM⟩ : ∃ M, M = ts.length := ⟨_, rfl⟩
 rw [← hM]
 have hM15 : M ≤ 15 := by omega
 have HM := Lib.hid hM
 clear hM
 obtain ⟨N, hN1, hN2⟩ := wrap_modS n0 ((M : Int) + 1) (by omega)
 have u1 : IntKind.i64.wrap ((M : Int) + 1) = (M : Int) + 1 := IntWalk.i64_in _ (by omega)
 have u2 : IntKind.u64.wrap ((M : Int) + 1) = (M : Int) + 1 := IntWalk.u64_in _ (by omega)
 have u3 : IntKind.i64.wrap (N : Int) = (N : Int) := IntWalk.i64_in _ (by omega)
 have z1 : ¬ (M : Int) + 1 = 0 := by omega
 have z2 : ((M : Int) + 1 == 0) = false := beq_eq_false_iff_ne.2 z1
 have hNM : N ≤ M := by omega
 have hb02 := bt hb0 hb2
 have HTW := Lib.hid (show ∀ W, Below w.heap.size w W → Calls Tryz.prog 28 #[.agg #[.int .i64 x.gen, .int .i64 x.ep, .int .i64 x.pos, .int .i64 x.seq, .int .i64 x.last, .string x.lab, .slice x.HA x.hs.length x.hc]] W fun e w' => (∃ y : AV, e = .returned (.agg #[.int .i64 y.gen, .int .i64 y.ep, .int .i64 y.pos, .int .i64 y.seq, .int .i64 y.last, .string y.lab, .slice y.HA y.hs.length y.hc]) ∧ y.d = x.d ∧ y.In w' w'.heap.size) ∧ Below W.heap.size W w' from fun W hW =>
  (twin_anchor x W (HX.out.next hW) (by have := HT1.out; omega) (fun r hr => by have := HT3.out r hr; omega)).mono fun e w' ⟨⟨y, h1, h2, h3⟩, hb⟩ => ⟨⟨y, h1, h2, h3.inn⟩, hb⟩)
 replace FF := FF.keep hb2 (by omega)
 replace GG := GG.keep hb2 (by omega)
 have l2 := Nat.lt_of_lt_of_le l1 hb2.size
 clear c0 c1 c2 c3 c4 c5 c6 g0 g1 g2 g3 g4 cH cG cR hb0
 obtain ⟨c0, c1, c2, c3, c4, c5, c6⟩ := id FF
 obtain ⟨g0, g1, g2, g3, g4⟩ := id GG
 have v1 : IntKind.i64.wrap (x.seq + (N : Int)) = x.seq + (N : Int) := IntWalk.i64_in _ (by omega)
 have v2 : IntKind.i64.wrap (x.seq + (N : Int) - 1) = x.seq + (N : Int) - 1 := IntWalk.i64_in _ (by omega)
 have hep : 0 ≤ x.ep ∧ x.ep ≤ 4294967295 := HGD.out.2.1
 have v3 : IntKind.i64.wrap (x.ep - 1) = x.ep - 1 := IntWalk.i64_in _ (by omega)
 go_upto_region 6 with (go_at_call 28; (with_reducible refine (HTW.out _ hb02).mono ?_); rintro e w3 ⟨⟨y, rfl, hyd, hyi⟩, hb3⟩)
 have hxY := bl w3 (.cells #[.int .i64 y.gen, .int .i64 y.ep, .int .i64 y.pos, .int .i64 y.seq, .int .i64 y.last, .string y.lab, .slice y.HA y.hs.length y.hc] 26)
 have P := sev_new w3 (.int .i64 y.gen) (.int .i64 y.ep) (.int .i64 y.pos) (.int .i64 y.seq) (.int .i64 y.last) (.string y.lab) (.slice y.HA y.hs.length y.hc) 26
 have lY : w3.heap.size < (w3.alloc (.cells #[.int .i64 y.gen, .int .i64 y.ep, .int .i64 y.pos, .int .i64 y.seq, .int .i64 y.last, .string y.lab, .slice y.HA y.hs.length y.hc] 26)).heap.size := by simp
 have l23 := hb3.size
 have hb24 := kal hb3 (.cells #[.int .i64 y.gen, .int .i64 y.ep, .int .i64 y.pos, .int .i64 y.seq, .int .i64 y.last, .string y.lab, .slice y.HA y.hs.length y.hc] 26)
 have hyi4 := hyi.below hxY
 replace FF := FF.keep hb24 l2
 replace GG := GG.keep hb24 (by omega)
 clear c0 c1 c2 c3 c4 c5 c6 g0 g1 g2 g3 g4 hb3 hyi hxY
 generalize hg3 : w3.heap.size = gY at *
 generalize w3.alloc (.cells #[.int .i64 y.gen, .int .i64 y.ep, .int .i64 y.pos, .int .i64 y.seq, .int .i64 y.last, .string y.lab, .slice y.HA y.hs.length y.hc] 26) = w4 at *
 obtain ⟨c0, c1, c2, c3, c4, c5, c6⟩ := id FF
 obtain ⟨g0, g1, g2, g3, g4⟩ := id GG
 obtain ⟨y0, y1, y2, y3, y4, y5, y6, f0, f1, f2, f3, f4, f5, f6⟩ := id P
 go_upto_region 7 with fail
 have P5 := P.set4 (.int .i64 (x.seq + (N : Int) - 1))
 have hb25 := hb24.setCell (p := ⟨gY, 4, none⟩) l23 (.int .i64 (x.seq + (N : Int) - 1))
 have hbS := (Below.refl w2.heap.size w4).setCell (p := ⟨gY, 4, none⟩) l23 (.int .i64 (x.seq + (N : Int) - 1))
 replace FF := FF.keep hbS l2
 replace GG := GG.keep hbS (by omega)
 have lY5 : gY < (w4.setCell ⟨gY, 4, none⟩ (.int .i64 (x.seq + (N : Int) - 1))).heap.size := by simpa using lY
 have hyi5 : y.In (w4.setCell ⟨gY, 4, none⟩ (.int .i64 (x.seq + (N : Int) - 1))) gY := hyi4.below ((Below.refl gY w4).setCell (p := ⟨gY, 4, none⟩) (Nat.le_refl gY) (.int .i64 (x.seq + (N : Int) - 1)))
 clear c0 c1 c2 c3 c4 c5 c6 g0 g1 g2 g3 g4 y0 y1 y2 y3 y4 y5 y6 f0 f1 f2 f3 f4 f5 f6 P hb24 hbS HTW lY
 generalize w4.setCell ⟨gY, 4, none⟩ (.int .i64 (x.seq + (N : Int) - 1)) = w5 at *
 have bw5 := bt hb02 hb25
 have hp2 : 0 ≤ x.pos ∧ x.pos < l := ⟨hpos.1, by omega⟩
 have he2 : lrc.NumOk (x.ep - 1) := ⟨by omega, by omega⟩
 have HWR := Lib.hid (written_c z d s l a (x.ep - 1) x.pos x.seq ⟨A, c, ts⟩ M w5 HO.out (hin.next hb25) HM.out.symm (by omega) hp2 HLT.out hsq.1 he2)
 obtain ⟨c0, c1, c2, c3, c4, c5, c6⟩ := id FF
 obtain ⟨g0, g1, g2, g3, g4⟩ := id GG
 unfold nwt.GV.v at HWR
 go_upto_region 8 with (go_at_call 22; (with_reducible refine HWR.out.mono ?_); rintro e w6 ⟨⟨F, S, rfl, hF, hS, hFo, hSo, -⟩, hb6⟩)
 have bw6 := bt bw5 hb6
 have l56 := hb6.size
 replace FF := FF.keep hb6 (by omega)
 replace GG := GG.keep hb6 (by omega)
 have P6 := P5.keep hb6 lY5
 have hyi6 : y.In w6 w6.heap.size := (hyi5.more (Nat.le_of_lt lY5)).next hb6
 have hin6 := (hin.next hb25).next hb6
 have e1 : y.ep = x.ep := congrArg anc.Anc.ep hyd
 have e2 : y.pos = x.pos := congrArg anc.Anc.pos hyd
 have e3 : y.seq = x.seq := congrArg anc.Anc.seq hyd
 have e4 : y.lab = x.lab := congrArg anc.Anc.lab hyd
 have hNl : N ≤ (tds ts).length := by rw [rng.tds_length, ← HM.out]; exact hNM
 have HSN := Lib.hid (show scanN z d l a y.ep (x.seq + (N : Int) - 1) y.pos y.seq (nwt.gds F.rs) (nwt.gds S.rs) = ((tds ts).take N, [], 0) from by
  rw [e1, e2, e3, hF, hS]
  unfold scanN
  exact scan_elder HO.out hp2 HLT.out (by omega) hNl fun q h0 h1 => ⟨kOf_writ HO.out hp2 HLT.out hsq.1 he2 (.inl rfl) h0 h1, kOf_writ HO.out hp2 HLT.out hsq.1 he2 (.inr rfl) h0 h1⟩)
 have hgood : anc.Good z d s l ({ y with last := x.seq + (N : Int) - 1 } : AV).d := by
  have hbd : ({ y with last := x.seq + (N : Int) - 1 } : AV).d = { x.d with last := x.seq + (N : Int) - 1 } := by rw [← hyd]; rfl
  rw [hbd]
  obtain ⟨q1, q2, q3, q4, q5, q6, q7, q8, q9⟩ := HGD.out
  exact ⟨q1, q2, q3, ⟨by show 0 ≤ x.seq + (N : Int) - 1; have : 1 ≤ x.seq := q3.1; omega, by show x.seq + (N : Int) - 1 ≤ 4294967295; omega⟩, by show x.seq - 1 ≤ x.seq + (N : Int) - 1; omega, q6, q7, q8, q9⟩
 have hlF : ((F.rs.length : Nat) : Int) = l := by have := congrArg List.length hF; rw [nwt.gds_length, writF_length] at this; omega
 have hlS : ((S.rs.length : Nat) : Int) = l := by have := congrArg List.length hS; rw [nwt.gds_length, writF_length] at this; omega
 have HSC := Lib.hid (show Calls Tryz.prog 13 #[.agg #[.int .i64 z, .int .i64 d, .int .i64 s, .int .i64 l, .int .i64 a], .agg #[.int .i64 y.gen, .int .i64 y.ep, .int .i64 y.pos, .int .i64 y.seq, .int .i64 (x.seq + (N : Int) - 1), .string y.lab, .slice y.HA y.hs.length y.hc], .slice F.A F.rs.length F.c, .slice S.A S.rs.length S.c] w6 fun e w' => ScanA w6.heap.size ((tds ts).take N, [], 0) e w' ∧ Below w6.heap.size w6 w' from by
  have h9 := HC.out.scan z d s l a { y with last := x.seq + (N : Int) - 1 } F S _ _ w6 bw6 HO.out ⟨hyi6.1, hyi6.2, hyi6.3⟩ (by show y.lab.size ≤ 4294967295; rw [e4]; exact HLAB.out) hgood hFo.inn rfl (writF_short HO.out hp2 HLT.out hsq.1 he2 hF) hSo.inn rfl (writF_short HO.out hp2 HLT.out hsq.1 he2 hS) hlF hlS
  rw [← HSN.out]
  exact h9)
 clear c0 c1 c2 c3 c4 c5 c6 g0 g1 g2 g3 g4 e1 e2 e3 e4 hlF hlS hF hS hFo hSo hgood HSN P5 hyi5 hyi6
 obtain ⟨c0, c1, c2, c3, c4, c5, c6⟩ := id FF
 obtain ⟨g0, g1, g2, g3, g4⟩ := id GG
 obtain ⟨y0, y1, y2, y3, y4, y5, y6, f0, f1, f2, f3, f4, f5, f6⟩ := id P6
 go_upto_region 9 with (go_at_call 13; (with_reducible refine HSC.out.mono ?_); rintro e w7 ⟨⟨T, U, rfl, hT, hU, hTi, hUi, -⟩, hb7⟩)
 have l67 := hb7.size
 have hin7 := hin6.next hb7
 have hTl : T.ts.length = N := by
  have h1 := congrArg List.length hT
  rw [rng.tds_length, List.length_take] at h1
  omega
 have hUl : U.rs.length = 0 := by
  have h1 := congrArg List.length hU
  rw [nwt.gds_length] at h1
  exact h1
 have hNc : N ≤ c := by have h1 : ts.length ≤ c := hin.l.1; have := HM.out; omega
 have hmem : ∀ r ∈ T.ts, r.d ∈ tds ts := fun r hr => by
  have h1 : r.d ∈ tds T.ts := List.mem_map.2 ⟨r, hr, rfl⟩
  rw [hT] at h1
  exact List.mem_of_mem_take h1
 have hsm : TSmall T.ts := fun r hr => by
  obtain ⟨q1, q2, q3, q4, -, -⟩ := LogOk.nm30 hll.2 _ _ _ _ (Int.le_refl 0) HLT.out _ (hmem r hr)
  have hl1 : r.rs.length = r.d.ims.length := (img.ids_length r.rs).symm
  refine ⟨by omega, fun q hq => ?_⟩
  have h9 := lrc.imOk_len (q4 q.d (List.mem_map.2 ⟨q, hq, rfl⟩)) HO.out.2.1
  have h9 : q.l.length ≤ 45 ∧ 8 ≤ q.l.length := h9
  omega
 have HTX := Lib.hid (show Calls Tryz.prog 19 #[.slice T.A N T.c, .slice A N c] w7 fun e w' => e = .returned (.bool true) ∧ Below w7.heap.size w7 w' from by
  refine txns_same T.A A T.c c N N T.ts (ts.take N) w7 hTl (by rw [List.length_take]; have := HM.out; omega) hTi.h (slv_pre (v := tvs (ts.drop N)) (by rw [← rng.tvs_append, List.take_append_drop]; exact hin7.h)) hTi.i (fun r hr => hin7.i r (List.mem_of_mem_take hr)) (by omega) hsm ?_
  rw [hT]
  show (tds ts).take N = tds (ts.take N)
  unfold rng.tds
  rw [List.map_take])
 rw [hTl, hUl]
 have n1 : (N : Int) ≤ (c : Int) := by omega
 have bw7 := bt bw6 hb7
 clear hsm hmem hTl hUl hT hU hTi hUi hin hin6 hin7
 go_wp2_with (first
  | (go_at_call 19; (with_reducible refine HTX.out.mono ?_); rintro e w8 ⟨rfl, hb8⟩)
  | (go_at_call 17; (with_reducible refine (HK.out _ (bt bw7 hb8)).mono ?_); rintro e w9 ⟨rfl, hb9⟩)
  | fail)
 go_ret
 exact ⟨rfl, bt (bt bw7 hb8) hb9⟩
theorem scanelder_law (z d s l a : Int) (x : AV) (yA : Option Addr) (yc n : Nat) (ys : List Int) (fl n0 : Int) (w : World) (hc : Csc w) (hk : ∀ W, Below w.heap.size w W → Calls Tryz.prog 17 #[] W fun e w' => e = .returned (.bool true) ∧ Below W.heap.size W w') (hx : x.In w w.heap.size) (hA : SlV w w.heap.size yA (ints ys)) (hyn : ys.length = n) (hfl : 0 ≤ fl ∧ fl ≤ 255) :
  Calls Tryz.prog 9 #[.agg #[.int .i64 z, .int .i64 d, .int .i64 s, .int .i64 l, .int .i64 a], .agg #[.int .i64 x.gen, .int .i64 x.ep, .int .i64 x.pos, .int .i64 x.seq, .int .i64 x.last, .string x.lab, .slice x.HA x.hs.length x.hc], .slice yA n yc, .int .u8 fl, .int .i64 n0] w fun e w' => e = .returned (.bool true) ∧ Below w.heap.size w w' := by
 by_cases hh : HeavyA x.d
 ·exact sceld_heavy z d s l a x yA yc n fl n0 w hx hh
 by_cases hn : (40 : Int) < (n : Int)
 ·exact sceld_long z d s l a x yA yc n fl n0 w hx hh hn
 by_cases ho : Ok z d s l a
 case neg => exact sceld_geo z d s l a x yA yc n fl n0 w hx hh hn ho
 by_cases hg : anc.Good z d s l x.d
 case neg => exact sceld_bad z d s l a x yA yc n fl n0 w hx hh hn ho hg
 by_cases hq : 1000000 < x.seq
 ·exact sceld_late z d s l a x yA yc n fl n0 w hx hh hn ho hg hq
 by_cases he : x.ep < 1
 ·exact sceld_first z d s l a x yA yc n fl n0 w hx hh hn ho hg hq he
 exact sceld_main z d s l a x yA yc n ys fl n0 w hc hk hx hA hyn hfl hh hn ho hg hq he
end Go.Proofs.YtbfdpibjicjagaaGreatDoor.scn
