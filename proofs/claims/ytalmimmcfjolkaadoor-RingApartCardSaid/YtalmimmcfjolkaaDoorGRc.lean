/-
  The ways out at the front of RingBent and RingApart. Conditions: none.
  Transactions of one's own, written over: a cell of one of them; the first image's zone. No condition beyond each theorem's own.
  RingBent: a right log bent is none. Conditions: 'Crg'.
-/
import Derived.Test.YtalmimmcfjolkaaDoorGRa
import Derived.Test.YtalmimmcfjolkaaDoorGRb
import Derived.Test.YtalmimmcfjolkaaDoorGAu
import Derived.Test.YtalmimmcfjolkaaDoorGAw
import Derived.Laws.OwnMore
import Derived.OneCell
import Derived.Deep.QuietTactic
import Derived.BigQuiet
import Derived.StillTailTactics
import Derived.IntWalk
namespace Go.Proofs.YtalmimmcfjolkaaDoor.rng
open Go.RowKit Go.Lib
open Go.Proofs.YtalmimmcfjolkaaDoor.gmt (Ok rgeo_at)
open Go.Proofs.YtalmimmcfjolkaaDoor.anc (AV AC ac_new bl kal kst ks bm ka HeavyA light heavy_any right_p)
open Go.Proofs.YtalmimmcfjolkaaDoor.tbl (G5 g5_new)

set_option maxRecDepth 100000 in
set_option maxHeartbeats 8000000 in
theorem rb_heavy (z d s l a : Int) (x : AV) (yA : Option Addr) (yc n : Nat) (i how : Int) (w : World) (hx : x.In w w.heap.size) (hh : HeavyA x.d) :
    Calls Tryd.prog 5 #[.agg #[.int .i64 z, .int .i64 d, .int .i64 s, .int .i64 l, .int .i64 a], .agg #[.int .i64 x.gen, .int .i64 x.ep, .int .i64 x.pos, .int .i64 x.seq, .int .i64 x.last, .string x.lab, .slice x.HA x.hs.length x.hc], .slice yA n yc, .int .i64 i, .int .i64 how] w fun e w' => e = .returned (.bool true) ∧ Below w.heap.size w w' := by
  have cH := fun W (hW : Below w.heap.size w W) => heavy_any true x W (hx.next hW) (iff_of_true rfl hh)
  unfold AV.v at *
  have GG := (g5_new w z d s l a).keep (bl (w.alloc (.cells #[.int .i64 z, .int .i64 d, .int .i64 s, .int .i64 l, .int .i64 a] 23)) (.cells #[.int .i64 x.gen, .int .i64 x.ep, .int .i64 x.pos, .int .i64 x.seq, .int .i64 x.last, .string x.lab, .slice x.HA x.hs.length x.hc] 26)) (by simp)
  have FF := ac_new (w.alloc (.cells #[.int .i64 z, .int .i64 d, .int .i64 s, .int .i64 l, .int .i64 a] 23)) x
  have hb0 := kal (bl w (.cells #[.int .i64 z, .int .i64 d, .int .i64 s, .int .i64 l, .int .i64 a] 23)) (.cells #[.int .i64 x.gen, .int .i64 x.ep, .int .i64 x.pos, .int .i64 x.seq, .int .i64 x.last, .string x.lab, .slice x.HA x.hs.length x.hc] 26)
  rw [show (w.alloc (.cells #[.int .i64 z, .int .i64 d, .int .i64 s, .int .i64 l, .int .i64 a] 23)).heap.size = w.heap.size + 1 by simp] at FF
  have l1 : w.heap.size + 1 < ((w.alloc (.cells #[.int .i64 z, .int .i64 d, .int .i64 s, .int .i64 l, .int .i64 a] 23)).alloc (.cells #[.int .i64 x.gen, .int .i64 x.ep, .int .i64 x.pos, .int .i64 x.seq, .int .i64 x.last, .string x.lab, .slice x.HA x.hs.length x.hc] 26)).heap.size := by simp
  clear hx hh
  go_enter Tryd.func5, Tryd.ntmps5
  go_upto_region 1 with fail
  generalize (w.alloc (.cells #[.int .i64 z, .int .i64 d, .int .i64 s, .int .i64 l, .int .i64 a] 23)).alloc (.cells #[.int .i64 x.gen, .int .i64 x.ep, .int .i64 x.pos, .int .i64 x.seq, .int .i64 x.last, .string x.lab, .slice x.HA x.hs.length x.hc] 26) = w0 at *
  obtain ⟨c0, c1, c2, c3, c4, c5, c6⟩ := id FF
  obtain ⟨g0, g1, g2, g3, g4⟩ := id GG
  go_wp2_with (first
    | (go_at_call 6; (with_reducible refine (cH _ hb0).mono ?_); rintro e wq ⟨rfl, hbq⟩; replace FF := FF.keep hbq (by omega); replace GG := GG.keep hbq (by omega); replace l1 := Nat.lt_of_lt_of_le l1 hbq.size; clear c0 c1 c2 c3 c4 c5 c6 g0 g1 g2 g3 g4; obtain ⟨c0, c1, c2, c3, c4, c5, c6⟩ := id FF; obtain ⟨g0, g1, g2, g3, g4⟩ := id GG; replace hb0 := bt hb0 hbq; clear hbq)
    | fail)
  go_ret
  exact ⟨rfl, hb0⟩
set_option maxRecDepth 100000 in
set_option maxHeartbeats 8000000 in
theorem rb_long (z d s l a : Int) (x : AV) (yA : Option Addr) (yc n : Nat) (i how : Int) (w : World) (hx : x.In w w.heap.size) (hh : ¬ HeavyA x.d) (h40 : (40 : Int) < (n : Int)) :
    Calls Tryd.prog 5 #[.agg #[.int .i64 z, .int .i64 d, .int .i64 s, .int .i64 l, .int .i64 a], .agg #[.int .i64 x.gen, .int .i64 x.ep, .int .i64 x.pos, .int .i64 x.seq, .int .i64 x.last, .string x.lab, .slice x.HA x.hs.length x.hc], .slice yA n yc, .int .i64 i, .int .i64 how] w fun e w' => e = .returned (.bool true) ∧ Below w.heap.size w w' := by
  have cH := fun W (hW : Below w.heap.size w W) => heavy_any false x W (hx.next hW) (iff_of_false Bool.false_ne_true hh)
  unfold AV.v at *
  have GG := (g5_new w z d s l a).keep (bl (w.alloc (.cells #[.int .i64 z, .int .i64 d, .int .i64 s, .int .i64 l, .int .i64 a] 23)) (.cells #[.int .i64 x.gen, .int .i64 x.ep, .int .i64 x.pos, .int .i64 x.seq, .int .i64 x.last, .string x.lab, .slice x.HA x.hs.length x.hc] 26)) (by simp)
  have FF := ac_new (w.alloc (.cells #[.int .i64 z, .int .i64 d, .int .i64 s, .int .i64 l, .int .i64 a] 23)) x
  have hb0 := kal (bl w (.cells #[.int .i64 z, .int .i64 d, .int .i64 s, .int .i64 l, .int .i64 a] 23)) (.cells #[.int .i64 x.gen, .int .i64 x.ep, .int .i64 x.pos, .int .i64 x.seq, .int .i64 x.last, .string x.lab, .slice x.HA x.hs.length x.hc] 26)
  rw [show (w.alloc (.cells #[.int .i64 z, .int .i64 d, .int .i64 s, .int .i64 l, .int .i64 a] 23)).heap.size = w.heap.size + 1 by simp] at FF
  have l1 : w.heap.size + 1 < ((w.alloc (.cells #[.int .i64 z, .int .i64 d, .int .i64 s, .int .i64 l, .int .i64 a] 23)).alloc (.cells #[.int .i64 x.gen, .int .i64 x.ep, .int .i64 x.pos, .int .i64 x.seq, .int .i64 x.last, .string x.lab, .slice x.HA x.hs.length x.hc] 26)).heap.size := by simp
  clear hx hh
  go_enter Tryd.func5, Tryd.ntmps5
  go_upto_region 1 with fail
  generalize (w.alloc (.cells #[.int .i64 z, .int .i64 d, .int .i64 s, .int .i64 l, .int .i64 a] 23)).alloc (.cells #[.int .i64 x.gen, .int .i64 x.ep, .int .i64 x.pos, .int .i64 x.seq, .int .i64 x.last, .string x.lab, .slice x.HA x.hs.length x.hc] 26) = w0 at *
  obtain ⟨c0, c1, c2, c3, c4, c5, c6⟩ := id FF
  obtain ⟨g0, g1, g2, g3, g4⟩ := id GG
  go_wp2_with (first
    | (go_at_call 6; (with_reducible refine (cH _ hb0).mono ?_); rintro e wq ⟨rfl, hbq⟩; replace FF := FF.keep hbq (by omega); replace GG := GG.keep hbq (by omega); replace l1 := Nat.lt_of_lt_of_le l1 hbq.size; clear c0 c1 c2 c3 c4 c5 c6 g0 g1 g2 g3 g4; obtain ⟨c0, c1, c2, c3, c4, c5, c6⟩ := id FF; obtain ⟨g0, g1, g2, g3, g4⟩ := id GG; replace hb0 := bt hb0 hbq; clear hbq)
    | fail)
  go_ret
  exact ⟨rfl, hb0⟩
set_option maxRecDepth 100000 in
set_option maxHeartbeats 8000000 in
theorem rb_geo (z d s l a : Int) (x : AV) (yA : Option Addr) (yc n : Nat) (i how : Int) (w : World) (hx : x.In w w.heap.size) (hh : ¬ HeavyA x.d) (h40 : ¬ (40 : Int) < (n : Int)) (ho : ¬ Ok z d s l a) :
    Calls Tryd.prog 5 #[.agg #[.int .i64 z, .int .i64 d, .int .i64 s, .int .i64 l, .int .i64 a], .agg #[.int .i64 x.gen, .int .i64 x.ep, .int .i64 x.pos, .int .i64 x.seq, .int .i64 x.last, .string x.lab, .slice x.HA x.hs.length x.hc], .slice yA n yc, .int .i64 i, .int .i64 how] w fun e w' => e = .returned (.bool true) ∧ Below w.heap.size w w' := by
  have cH := fun W (hW : Below w.heap.size w W) => heavy_any false x W (hx.next hW) (iff_of_false Bool.false_ne_true hh)
  have cG := fun W => rgeo_at false z d s l a W (iff_of_false Bool.false_ne_true ho)
  unfold AV.v at *
  have GG := (g5_new w z d s l a).keep (bl (w.alloc (.cells #[.int .i64 z, .int .i64 d, .int .i64 s, .int .i64 l, .int .i64 a] 23)) (.cells #[.int .i64 x.gen, .int .i64 x.ep, .int .i64 x.pos, .int .i64 x.seq, .int .i64 x.last, .string x.lab, .slice x.HA x.hs.length x.hc] 26)) (by simp)
  have FF := ac_new (w.alloc (.cells #[.int .i64 z, .int .i64 d, .int .i64 s, .int .i64 l, .int .i64 a] 23)) x
  have hb0 := kal (bl w (.cells #[.int .i64 z, .int .i64 d, .int .i64 s, .int .i64 l, .int .i64 a] 23)) (.cells #[.int .i64 x.gen, .int .i64 x.ep, .int .i64 x.pos, .int .i64 x.seq, .int .i64 x.last, .string x.lab, .slice x.HA x.hs.length x.hc] 26)
  rw [show (w.alloc (.cells #[.int .i64 z, .int .i64 d, .int .i64 s, .int .i64 l, .int .i64 a] 23)).heap.size = w.heap.size + 1 by simp] at FF
  have l1 : w.heap.size + 1 < ((w.alloc (.cells #[.int .i64 z, .int .i64 d, .int .i64 s, .int .i64 l, .int .i64 a] 23)).alloc (.cells #[.int .i64 x.gen, .int .i64 x.ep, .int .i64 x.pos, .int .i64 x.seq, .int .i64 x.last, .string x.lab, .slice x.HA x.hs.length x.hc] 26)).heap.size := by simp
  clear hx hh ho
  go_enter Tryd.func5, Tryd.ntmps5
  go_upto_region 1 with fail
  generalize (w.alloc (.cells #[.int .i64 z, .int .i64 d, .int .i64 s, .int .i64 l, .int .i64 a] 23)).alloc (.cells #[.int .i64 x.gen, .int .i64 x.ep, .int .i64 x.pos, .int .i64 x.seq, .int .i64 x.last, .string x.lab, .slice x.HA x.hs.length x.hc] 26) = w0 at *
  obtain ⟨c0, c1, c2, c3, c4, c5, c6⟩ := id FF
  obtain ⟨g0, g1, g2, g3, g4⟩ := id GG
  go_wp2_with (first
    | (go_at_call 6; (with_reducible refine (cH _ hb0).mono ?_); rintro e wq ⟨rfl, hbq⟩; replace FF := FF.keep hbq (by omega); replace GG := GG.keep hbq (by omega); replace l1 := Nat.lt_of_lt_of_le l1 hbq.size; clear c0 c1 c2 c3 c4 c5 c6 g0 g1 g2 g3 g4; obtain ⟨c0, c1, c2, c3, c4, c5, c6⟩ := id FF; obtain ⟨g0, g1, g2, g3, g4⟩ := id GG; replace hb0 := bt hb0 hbq; clear hbq)
    | (go_at_call 7; (with_reducible refine (cG _).mono ?_); rintro e wq ⟨rfl, hbq⟩; replace FF := FF.keep hbq (by omega); replace GG := GG.keep hbq (by omega); replace l1 := Nat.lt_of_lt_of_le l1 hbq.size; clear c0 c1 c2 c3 c4 c5 c6 g0 g1 g2 g3 g4; obtain ⟨c0, c1, c2, c3, c4, c5, c6⟩ := id FF; obtain ⟨g0, g1, g2, g3, g4⟩ := id GG; replace hb0 := bt hb0 hbq; clear hbq)
    | fail)
  go_ret
  exact ⟨rfl, hb0⟩
set_option maxRecDepth 100000 in
set_option maxHeartbeats 8000000 in
theorem rb_bad (z d s l a : Int) (x : AV) (yA : Option Addr) (yc n : Nat) (i how : Int) (w : World) (hx : x.In w w.heap.size) (hh : ¬ HeavyA x.d) (h40 : ¬ (40 : Int) < (n : Int)) (ho : Ok z d s l a) (hg : ¬ anc.Good z d s l x.d) :
    Calls Tryd.prog 5 #[.agg #[.int .i64 z, .int .i64 d, .int .i64 s, .int .i64 l, .int .i64 a], .agg #[.int .i64 x.gen, .int .i64 x.ep, .int .i64 x.pos, .int .i64 x.seq, .int .i64 x.last, .string x.lab, .slice x.HA x.hs.length x.hc], .slice yA n yc, .int .i64 i, .int .i64 how] w fun e w' => e = .returned (.bool true) ∧ Below w.heap.size w w' := by
  have cH := fun W (hW : Below w.heap.size w W) => heavy_any false x W (hx.next hW) (iff_of_false Bool.false_ne_true hh)
  have cG := fun W => rgeo_at true z d s l a W (iff_of_true rfl ho)
  obtain ⟨t1, t2, t3⟩ := light hh
  have cR := fun W (hW : Below w.heap.size w W) => right_p z d s l a false x W ho (hx.next hW) (by omega) (fun r hr => by have := t3 r hr; omega) (by omega) (iff_of_false Bool.false_ne_true hg)
  unfold AV.v at *
  have GG := (g5_new w z d s l a).keep (bl (w.alloc (.cells #[.int .i64 z, .int .i64 d, .int .i64 s, .int .i64 l, .int .i64 a] 23)) (.cells #[.int .i64 x.gen, .int .i64 x.ep, .int .i64 x.pos, .int .i64 x.seq, .int .i64 x.last, .string x.lab, .slice x.HA x.hs.length x.hc] 26)) (by simp)
  have FF := ac_new (w.alloc (.cells #[.int .i64 z, .int .i64 d, .int .i64 s, .int .i64 l, .int .i64 a] 23)) x
  have hb0 := kal (bl w (.cells #[.int .i64 z, .int .i64 d, .int .i64 s, .int .i64 l, .int .i64 a] 23)) (.cells #[.int .i64 x.gen, .int .i64 x.ep, .int .i64 x.pos, .int .i64 x.seq, .int .i64 x.last, .string x.lab, .slice x.HA x.hs.length x.hc] 26)
  rw [show (w.alloc (.cells #[.int .i64 z, .int .i64 d, .int .i64 s, .int .i64 l, .int .i64 a] 23)).heap.size = w.heap.size + 1 by simp] at FF
  have l1 : w.heap.size + 1 < ((w.alloc (.cells #[.int .i64 z, .int .i64 d, .int .i64 s, .int .i64 l, .int .i64 a] 23)).alloc (.cells #[.int .i64 x.gen, .int .i64 x.ep, .int .i64 x.pos, .int .i64 x.seq, .int .i64 x.last, .string x.lab, .slice x.HA x.hs.length x.hc] 26)).heap.size := by simp
  clear hx hh ho hg t1 t2 t3
  go_enter Tryd.func5, Tryd.ntmps5
  go_upto_region 1 with fail
  generalize (w.alloc (.cells #[.int .i64 z, .int .i64 d, .int .i64 s, .int .i64 l, .int .i64 a] 23)).alloc (.cells #[.int .i64 x.gen, .int .i64 x.ep, .int .i64 x.pos, .int .i64 x.seq, .int .i64 x.last, .string x.lab, .slice x.HA x.hs.length x.hc] 26) = w0 at *
  obtain ⟨c0, c1, c2, c3, c4, c5, c6⟩ := id FF
  obtain ⟨g0, g1, g2, g3, g4⟩ := id GG
  go_wp2_with (first
    | (go_at_call 6; (with_reducible refine (cH _ hb0).mono ?_); rintro e wq ⟨rfl, hbq⟩; replace FF := FF.keep hbq (by omega); replace GG := GG.keep hbq (by omega); replace l1 := Nat.lt_of_lt_of_le l1 hbq.size; clear c0 c1 c2 c3 c4 c5 c6 g0 g1 g2 g3 g4; obtain ⟨c0, c1, c2, c3, c4, c5, c6⟩ := id FF; obtain ⟨g0, g1, g2, g3, g4⟩ := id GG; replace hb0 := bt hb0 hbq; clear hbq)
    | (go_at_call 7; (with_reducible refine (cG _).mono ?_); rintro e wq ⟨rfl, hbq⟩; replace FF := FF.keep hbq (by omega); replace GG := GG.keep hbq (by omega); replace l1 := Nat.lt_of_lt_of_le l1 hbq.size; clear c0 c1 c2 c3 c4 c5 c6 g0 g1 g2 g3 g4; obtain ⟨c0, c1, c2, c3, c4, c5, c6⟩ := id FF; obtain ⟨g0, g1, g2, g3, g4⟩ := id GG; replace hb0 := bt hb0 hbq; clear hbq)
    | (go_at_call 8; (with_reducible refine (cR _ hb0).mono ?_); rintro e wq ⟨rfl, hbq⟩; replace FF := FF.keep hbq (by omega); replace GG := GG.keep hbq (by omega); replace l1 := Nat.lt_of_lt_of_le l1 hbq.size; clear c0 c1 c2 c3 c4 c5 c6 g0 g1 g2 g3 g4; obtain ⟨c0, c1, c2, c3, c4, c5, c6⟩ := id FF; obtain ⟨g0, g1, g2, g3, g4⟩ := id GG; replace hb0 := bt hb0 hbq; clear hbq)
    | fail)
  go_ret
  exact ⟨rfl, hb0⟩
set_option maxRecDepth 100000 in
set_option maxHeartbeats 8000000 in
theorem rb_high (z d s l a : Int) (x : AV) (yA : Option Addr) (yc n : Nat) (i how : Int) (w : World) (hx : x.In w w.heap.size) (hh : ¬ HeavyA x.d) (h40 : ¬ (40 : Int) < (n : Int)) (ho : Ok z d s l a) (hg : anc.Good z d s l x.d) (hq : (1000000 : Int) < x.seq) :
    Calls Tryd.prog 5 #[.agg #[.int .i64 z, .int .i64 d, .int .i64 s, .int .i64 l, .int .i64 a], .agg #[.int .i64 x.gen, .int .i64 x.ep, .int .i64 x.pos, .int .i64 x.seq, .int .i64 x.last, .string x.lab, .slice x.HA x.hs.length x.hc], .slice yA n yc, .int .i64 i, .int .i64 how] w fun e w' => e = .returned (.bool true) ∧ Below w.heap.size w w' := by
  have cH := fun W (hW : Below w.heap.size w W) => heavy_any false x W (hx.next hW) (iff_of_false Bool.false_ne_true hh)
  have cG := fun W => rgeo_at true z d s l a W (iff_of_true rfl ho)
  obtain ⟨t1, t2, t3⟩ := light hh
  have cR := fun W (hW : Below w.heap.size w W) => right_p z d s l a true x W ho (hx.next hW) (by omega) (fun r hr => by have := t3 r hr; omega) (by omega) (iff_of_true rfl hg)
  unfold AV.v at *
  have GG := (g5_new w z d s l a).keep (bl (w.alloc (.cells #[.int .i64 z, .int .i64 d, .int .i64 s, .int .i64 l, .int .i64 a] 23)) (.cells #[.int .i64 x.gen, .int .i64 x.ep, .int .i64 x.pos, .int .i64 x.seq, .int .i64 x.last, .string x.lab, .slice x.HA x.hs.length x.hc] 26)) (by simp)
  have FF := ac_new (w.alloc (.cells #[.int .i64 z, .int .i64 d, .int .i64 s, .int .i64 l, .int .i64 a] 23)) x
  have hb0 := kal (bl w (.cells #[.int .i64 z, .int .i64 d, .int .i64 s, .int .i64 l, .int .i64 a] 23)) (.cells #[.int .i64 x.gen, .int .i64 x.ep, .int .i64 x.pos, .int .i64 x.seq, .int .i64 x.last, .string x.lab, .slice x.HA x.hs.length x.hc] 26)
  rw [show (w.alloc (.cells #[.int .i64 z, .int .i64 d, .int .i64 s, .int .i64 l, .int .i64 a] 23)).heap.size = w.heap.size + 1 by simp] at FF
  have l1 : w.heap.size + 1 < ((w.alloc (.cells #[.int .i64 z, .int .i64 d, .int .i64 s, .int .i64 l, .int .i64 a] 23)).alloc (.cells #[.int .i64 x.gen, .int .i64 x.ep, .int .i64 x.pos, .int .i64 x.seq, .int .i64 x.last, .string x.lab, .slice x.HA x.hs.length x.hc] 26)).heap.size := by simp
  clear hx hh ho hg t1 t2 t3
  go_enter Tryd.func5, Tryd.ntmps5
  go_upto_region 1 with fail
  generalize (w.alloc (.cells #[.int .i64 z, .int .i64 d, .int .i64 s, .int .i64 l, .int .i64 a] 23)).alloc (.cells #[.int .i64 x.gen, .int .i64 x.ep, .int .i64 x.pos, .int .i64 x.seq, .int .i64 x.last, .string x.lab, .slice x.HA x.hs.length x.hc] 26) = w0 at *
  obtain ⟨c0, c1, c2, c3, c4, c5, c6⟩ := id FF
  obtain ⟨g0, g1, g2, g3, g4⟩ := id GG
  go_wp2_with (first
    | (go_at_call 6; (with_reducible refine (cH _ hb0).mono ?_); rintro e wq ⟨rfl, hbq⟩; replace FF := FF.keep hbq (by omega); replace GG := GG.keep hbq (by omega); replace l1 := Nat.lt_of_lt_of_le l1 hbq.size; clear c0 c1 c2 c3 c4 c5 c6 g0 g1 g2 g3 g4; obtain ⟨c0, c1, c2, c3, c4, c5, c6⟩ := id FF; obtain ⟨g0, g1, g2, g3, g4⟩ := id GG; replace hb0 := bt hb0 hbq; clear hbq)
    | (go_at_call 7; (with_reducible refine (cG _).mono ?_); rintro e wq ⟨rfl, hbq⟩; replace FF := FF.keep hbq (by omega); replace GG := GG.keep hbq (by omega); replace l1 := Nat.lt_of_lt_of_le l1 hbq.size; clear c0 c1 c2 c3 c4 c5 c6 g0 g1 g2 g3 g4; obtain ⟨c0, c1, c2, c3, c4, c5, c6⟩ := id FF; obtain ⟨g0, g1, g2, g3, g4⟩ := id GG; replace hb0 := bt hb0 hbq; clear hbq)
    | (go_at_call 8; (with_reducible refine (cR _ hb0).mono ?_); rintro e wq ⟨rfl, hbq⟩; replace FF := FF.keep hbq (by omega); replace GG := GG.keep hbq (by omega); replace l1 := Nat.lt_of_lt_of_le l1 hbq.size; clear c0 c1 c2 c3 c4 c5 c6 g0 g1 g2 g3 g4; obtain ⟨c0, c1, c2, c3, c4, c5, c6⟩ := id FF; obtain ⟨g0, g1, g2, g3, g4⟩ := id GG; replace hb0 := bt hb0 hbq; clear hbq)
    | fail)
  go_ret
  exact ⟨rfl, hb0⟩
set_option maxRecDepth 100000 in
set_option maxHeartbeats 8000000 in
theorem ra_heavy (z d s l a : Int) (x : AV) (yA : Option Addr) (yc n : Nat) (fl : Int) (w : World) (hx : x.In w w.heap.size) (hh : HeavyA x.d) :
    Calls Tryd.prog 3 #[.agg #[.int .i64 z, .int .i64 d, .int .i64 s, .int .i64 l, .int .i64 a], .agg #[.int .i64 x.gen, .int .i64 x.ep, .int .i64 x.pos, .int .i64 x.seq, .int .i64 x.last, .string x.lab, .slice x.HA x.hs.length x.hc], .slice yA n yc, .int .u8 fl] w fun e w' => e = .returned (.bool true) ∧ Below w.heap.size w w' := by
  have cH := fun W (hW : Below w.heap.size w W) => heavy_any true x W (hx.next hW) (iff_of_true rfl hh)
  unfold AV.v at *
  have GG := (g5_new w z d s l a).keep (bl (w.alloc (.cells #[.int .i64 z, .int .i64 d, .int .i64 s, .int .i64 l, .int .i64 a] 23)) (.cells #[.int .i64 x.gen, .int .i64 x.ep, .int .i64 x.pos, .int .i64 x.seq, .int .i64 x.last, .string x.lab, .slice x.HA x.hs.length x.hc] 26)) (by simp)
  have FF := ac_new (w.alloc (.cells #[.int .i64 z, .int .i64 d, .int .i64 s, .int .i64 l, .int .i64 a] 23)) x
  have hb0 := kal (bl w (.cells #[.int .i64 z, .int .i64 d, .int .i64 s, .int .i64 l, .int .i64 a] 23)) (.cells #[.int .i64 x.gen, .int .i64 x.ep, .int .i64 x.pos, .int .i64 x.seq, .int .i64 x.last, .string x.lab, .slice x.HA x.hs.length x.hc] 26)
  rw [show (w.alloc (.cells #[.int .i64 z, .int .i64 d, .int .i64 s, .int .i64 l, .int .i64 a] 23)).heap.size = w.heap.size + 1 by simp] at FF
  have l1 : w.heap.size + 1 < ((w.alloc (.cells #[.int .i64 z, .int .i64 d, .int .i64 s, .int .i64 l, .int .i64 a] 23)).alloc (.cells #[.int .i64 x.gen, .int .i64 x.ep, .int .i64 x.pos, .int .i64 x.seq, .int .i64 x.last, .string x.lab, .slice x.HA x.hs.length x.hc] 26)).heap.size := by simp
  clear hx hh
  go_enter Tryd.func3, Tryd.ntmps3
  go_upto_region 1 with fail
  generalize (w.alloc (.cells #[.int .i64 z, .int .i64 d, .int .i64 s, .int .i64 l, .int .i64 a] 23)).alloc (.cells #[.int .i64 x.gen, .int .i64 x.ep, .int .i64 x.pos, .int .i64 x.seq, .int .i64 x.last, .string x.lab, .slice x.HA x.hs.length x.hc] 26) = w0 at *
  obtain ⟨c0, c1, c2, c3, c4, c5, c6⟩ := id FF
  obtain ⟨g0, g1, g2, g3, g4⟩ := id GG
  go_wp2_with (first
    | (go_at_call 6; (with_reducible refine (cH _ hb0).mono ?_); rintro e wq ⟨rfl, hbq⟩; replace FF := FF.keep hbq (by omega); replace GG := GG.keep hbq (by omega); replace l1 := Nat.lt_of_lt_of_le l1 hbq.size; clear c0 c1 c2 c3 c4 c5 c6 g0 g1 g2 g3 g4; obtain ⟨c0, c1, c2, c3, c4, c5, c6⟩ := id FF; obtain ⟨g0, g1, g2, g3, g4⟩ := id GG; replace hb0 := bt hb0 hbq; clear hbq)
    | fail)
  go_ret
  exact ⟨rfl, hb0⟩
set_option maxRecDepth 100000 in
set_option maxHeartbeats 8000000 in
theorem ra_long (z d s l a : Int) (x : AV) (yA : Option Addr) (yc n : Nat) (fl : Int) (w : World) (hx : x.In w w.heap.size) (hh : ¬ HeavyA x.d) (h40 : (40 : Int) < (n : Int)) :
    Calls Tryd.prog 3 #[.agg #[.int .i64 z, .int .i64 d, .int .i64 s, .int .i64 l, .int .i64 a], .agg #[.int .i64 x.gen, .int .i64 x.ep, .int .i64 x.pos, .int .i64 x.seq, .int .i64 x.last, .string x.lab, .slice x.HA x.hs.length x.hc], .slice yA n yc, .int .u8 fl] w fun e w' => e = .returned (.bool true) ∧ Below w.heap.size w w' := by
  have cH := fun W (hW : Below w.heap.size w W) => heavy_any false x W (hx.next hW) (iff_of_false Bool.false_ne_true hh)
  unfold AV.v at *
  have GG := (g5_new w z d s l a).keep (bl (w.alloc (.cells #[.int .i64 z, .int .i64 d, .int .i64 s, .int .i64 l, .int .i64 a] 23)) (.cells #[.int .i64 x.gen, .int .i64 x.ep, .int .i64 x.pos, .int .i64 x.seq, .int .i64 x.last, .string x.lab, .slice x.HA x.hs.length x.hc] 26)) (by simp)
  have FF := ac_new (w.alloc (.cells #[.int .i64 z, .int .i64 d, .int .i64 s, .int .i64 l, .int .i64 a] 23)) x
  have hb0 := kal (bl w (.cells #[.int .i64 z, .int .i64 d, .int .i64 s, .int .i64 l, .int .i64 a] 23)) (.cells #[.int .i64 x.gen, .int .i64 x.ep, .int .i64 x.pos, .int .i64 x.seq, .int .i64 x.last, .string x.lab, .slice x.HA x.hs.length x.hc] 26)
  rw [show (w.alloc (.cells #[.int .i64 z, .int .i64 d, .int .i64 s, .int .i64 l, .int .i64 a] 23)).heap.size = w.heap.size + 1 by simp] at FF
  have l1 : w.heap.size + 1 < ((w.alloc (.cells #[.int .i64 z, .int .i64 d, .int .i64 s, .int .i64 l, .int .i64 a] 23)).alloc (.cells #[.int .i64 x.gen, .int .i64 x.ep, .int .i64 x.pos, .int .i64 x.seq, .int .i64 x.last, .string x.lab, .slice x.HA x.hs.length x.hc] 26)).heap.size := by simp
  clear hx hh
  go_enter Tryd.func3, Tryd.ntmps3
  go_upto_region 1 with fail
  generalize (w.alloc (.cells #[.int .i64 z, .int .i64 d, .int .i64 s, .int .i64 l, .int .i64 a] 23)).alloc (.cells #[.int .i64 x.gen, .int .i64 x.ep, .int .i64 x.pos, .int .i64 x.seq, .int .i64 x.last, .string x.lab, .slice x.HA x.hs.length x.hc] 26) = w0 at *
  obtain ⟨c0, c1, c2, c3, c4, c5, c6⟩ := id FF
  obtain ⟨g0, g1, g2, g3, g4⟩ := id GG
  go_wp2_with (first
    | (go_at_call 6; (with_reducible refine (cH _ hb0).mono ?_); rintro e wq ⟨rfl, hbq⟩; replace FF := FF.keep hbq (by omega); replace GG := GG.keep hbq (by omega); replace l1 := Nat.lt_of_lt_of_le l1 hbq.size; clear c0 c1 c2 c3 c4 c5 c6 g0 g1 g2 g3 g4; obtain ⟨c0, c1, c2, c3, c4, c5, c6⟩ := id FF; obtain ⟨g0, g1, g2, g3, g4⟩ := id GG; replace hb0 := bt hb0 hbq; clear hbq)
    | fail)
  go_ret
  exact ⟨rfl, hb0⟩
set_option maxRecDepth 100000 in
set_option maxHeartbeats 8000000 in
theorem ra_geo (z d s l a : Int) (x : AV) (yA : Option Addr) (yc n : Nat) (fl : Int) (w : World) (hx : x.In w w.heap.size) (hh : ¬ HeavyA x.d) (h40 : ¬ (40 : Int) < (n : Int)) (ho : ¬ Ok z d s l a) :
    Calls Tryd.prog 3 #[.agg #[.int .i64 z, .int .i64 d, .int .i64 s, .int .i64 l, .int .i64 a], .agg #[.int .i64 x.gen, .int .i64 x.ep, .int .i64 x.pos, .int .i64 x.seq, .int .i64 x.last, .string x.lab, .slice x.HA x.hs.length x.hc], .slice yA n yc, .int .u8 fl] w fun e w' => e = .returned (.bool true) ∧ Below w.heap.size w w' := by
  have cH := fun W (hW : Below w.heap.size w W) => heavy_any false x W (hx.next hW) (iff_of_false Bool.false_ne_true hh)
  have cG := fun W => rgeo_at false z d s l a W (iff_of_false Bool.false_ne_true ho)
  unfold AV.v at *
  have GG := (g5_new w z d s l a).keep (bl (w.alloc (.cells #[.int .i64 z, .int .i64 d, .int .i64 s, .int .i64 l, .int .i64 a] 23)) (.cells #[.int .i64 x.gen, .int .i64 x.ep, .int .i64 x.pos, .int .i64 x.seq, .int .i64 x.last, .string x.lab, .slice x.HA x.hs.length x.hc] 26)) (by simp)
  have FF := ac_new (w.alloc (.cells #[.int .i64 z, .int .i64 d, .int .i64 s, .int .i64 l, .int .i64 a] 23)) x
  have hb0 := kal (bl w (.cells #[.int .i64 z, .int .i64 d, .int .i64 s, .int .i64 l, .int .i64 a] 23)) (.cells #[.int .i64 x.gen, .int .i64 x.ep, .int .i64 x.pos, .int .i64 x.seq, .int .i64 x.last, .string x.lab, .slice x.HA x.hs.length x.hc] 26)
  rw [show (w.alloc (.cells #[.int .i64 z, .int .i64 d, .int .i64 s, .int .i64 l, .int .i64 a] 23)).heap.size = w.heap.size + 1 by simp] at FF
  have l1 : w.heap.size + 1 < ((w.alloc (.cells #[.int .i64 z, .int .i64 d, .int .i64 s, .int .i64 l, .int .i64 a] 23)).alloc (.cells #[.int .i64 x.gen, .int .i64 x.ep, .int .i64 x.pos, .int .i64 x.seq, .int .i64 x.last, .string x.lab, .slice x.HA x.hs.length x.hc] 26)).heap.size := by simp
  clear hx hh ho
  go_enter Tryd.func3, Tryd.ntmps3
  go_upto_region 1 with fail
  generalize (w.alloc (.cells #[.int .i64 z, .int .i64 d, .int .i64 s, .int .i64 l, .int .i64 a] 23)).alloc (.cells #[.int .i64 x.gen, .int .i64 x.ep, .int .i64 x.pos, .int .i64 x.seq, .int .i64 x.last, .string x.lab, .slice x.HA x.hs.length x.hc] 26) = w0 at *
  obtain ⟨c0, c1, c2, c3, c4, c5, c6⟩ := id FF
  obtain ⟨g0, g1, g2, g3, g4⟩ := id GG
  go_wp2_with (first
    | (go_at_call 6; (with_reducible refine (cH _ hb0).mono ?_); rintro e wq ⟨rfl, hbq⟩; replace FF := FF.keep hbq (by omega); replace GG := GG.keep hbq (by omega); replace l1 := Nat.lt_of_lt_of_le l1 hbq.size; clear c0 c1 c2 c3 c4 c5 c6 g0 g1 g2 g3 g4; obtain ⟨c0, c1, c2, c3, c4, c5, c6⟩ := id FF; obtain ⟨g0, g1, g2, g3, g4⟩ := id GG; replace hb0 := bt hb0 hbq; clear hbq)
    | (go_at_call 7; (with_reducible refine (cG _).mono ?_); rintro e wq ⟨rfl, hbq⟩; replace FF := FF.keep hbq (by omega); replace GG := GG.keep hbq (by omega); replace l1 := Nat.lt_of_lt_of_le l1 hbq.size; clear c0 c1 c2 c3 c4 c5 c6 g0 g1 g2 g3 g4; obtain ⟨c0, c1, c2, c3, c4, c5, c6⟩ := id FF; obtain ⟨g0, g1, g2, g3, g4⟩ := id GG; replace hb0 := bt hb0 hbq; clear hbq)
    | fail)
  go_ret
  exact ⟨rfl, hb0⟩
set_option maxRecDepth 100000 in
set_option maxHeartbeats 8000000 in
theorem ra_bad (z d s l a : Int) (x : AV) (yA : Option Addr) (yc n : Nat) (fl : Int) (w : World) (hx : x.In w w.heap.size) (hh : ¬ HeavyA x.d) (h40 : ¬ (40 : Int) < (n : Int)) (ho : Ok z d s l a) (hg : ¬ anc.Good z d s l x.d) :
    Calls Tryd.prog 3 #[.agg #[.int .i64 z, .int .i64 d, .int .i64 s, .int .i64 l, .int .i64 a], .agg #[.int .i64 x.gen, .int .i64 x.ep, .int .i64 x.pos, .int .i64 x.seq, .int .i64 x.last, .string x.lab, .slice x.HA x.hs.length x.hc], .slice yA n yc, .int .u8 fl] w fun e w' => e = .returned (.bool true) ∧ Below w.heap.size w w' := by
  have cH := fun W (hW : Below w.heap.size w W) => heavy_any false x W (hx.next hW) (iff_of_false Bool.false_ne_true hh)
  have cG := fun W => rgeo_at true z d s l a W (iff_of_true rfl ho)
  obtain ⟨t1, t2, t3⟩ := light hh
  have cR := fun W (hW : Below w.heap.size w W) => right_p z d s l a false x W ho (hx.next hW) (by omega) (fun r hr => by have := t3 r hr; omega) (by omega) (iff_of_false Bool.false_ne_true hg)
  unfold AV.v at *
  have GG := (g5_new w z d s l a).keep (bl (w.alloc (.cells #[.int .i64 z, .int .i64 d, .int .i64 s, .int .i64 l, .int .i64 a] 23)) (.cells #[.int .i64 x.gen, .int .i64 x.ep, .int .i64 x.pos, .int .i64 x.seq, .int .i64 x.last, .string x.lab, .slice x.HA x.hs.length x.hc] 26)) (by simp)
  have FF := ac_new (w.alloc (.cells #[.int .i64 z, .int .i64 d, .int .i64 s, .int .i64 l, .int .i64 a] 23)) x
  have hb0 := kal (bl w (.cells #[.int .i64 z, .int .i64 d, .int .i64 s, .int .i64 l, .int .i64 a] 23)) (.cells #[.int .i64 x.gen, .int .i64 x.ep, .int .i64 x.pos, .int .i64 x.seq, .int .i64 x.last, .string x.lab, .slice x.HA x.hs.length x.hc] 26)
  rw [show (w.alloc (.cells #[.int .i64 z, .int .i64 d, .int .i64 s, .int .i64 l, .int .i64 a] 23)).heap.size = w.heap.size + 1 by simp] at FF
  have l1 : w.heap.size + 1 < ((w.alloc (.cells #[.int .i64 z, .int .i64 d, .int .i64 s, .int .i64 l, .int .i64 a] 23)).alloc (.cells #[.int .i64 x.gen, .int .i64 x.ep, .int .i64 x.pos, .int .i64 x.seq, .int .i64 x.last, .string x.lab, .slice x.HA x.hs.length x.hc] 26)).heap.size := by simp
  clear hx hh ho hg t1 t2 t3
  go_enter Tryd.func3, Tryd.ntmps3
  go_upto_region 1 with fail
  generalize (w.alloc (.cells #[.int .i64 z, .int .i64 d, .int .i64 s, .int .i64 l, .int .i64 a] 23)).alloc (.cells #[.int .i64 x.gen, .int .i64 x.ep, .int .i64 x.pos, .int .i64 x.seq, .int .i64 x.last, .string x.lab, .slice x.HA x.hs.length x.hc] 26) = w0 at *
  obtain ⟨c0, c1, c2, c3, c4, c5, c6⟩ := id FF
  obtain ⟨g0, g1, g2, g3, g4⟩ := id GG
  go_wp2_with (first
    | (go_at_call 6; (with_reducible refine (cH _ hb0).mono ?_); rintro e wq ⟨rfl, hbq⟩; replace FF := FF.keep hbq (by omega); replace GG := GG.keep hbq (by omega); replace l1 := Nat.lt_of_lt_of_le l1 hbq.size; clear c0 c1 c2 c3 c4 c5 c6 g0 g1 g2 g3 g4; obtain ⟨c0, c1, c2, c3, c4, c5, c6⟩ := id FF; obtain ⟨g0, g1, g2, g3, g4⟩ := id GG; replace hb0 := bt hb0 hbq; clear hbq)
    | (go_at_call 7; (with_reducible refine (cG _).mono ?_); rintro e wq ⟨rfl, hbq⟩; replace FF := FF.keep hbq (by omega); replace GG := GG.keep hbq (by omega); replace l1 := Nat.lt_of_lt_of_le l1 hbq.size; clear c0 c1 c2 c3 c4 c5 c6 g0 g1 g2 g3 g4; obtain ⟨c0, c1, c2, c3, c4, c5, c6⟩ := id FF; obtain ⟨g0, g1, g2, g3, g4⟩ := id GG; replace hb0 := bt hb0 hbq; clear hbq)
    | (go_at_call 8; (with_reducible refine (cR _ hb0).mono ?_); rintro e wq ⟨rfl, hbq⟩; replace FF := FF.keep hbq (by omega); replace GG := GG.keep hbq (by omega); replace l1 := Nat.lt_of_lt_of_le l1 hbq.size; clear c0 c1 c2 c3 c4 c5 c6 g0 g1 g2 g3 g4; obtain ⟨c0, c1, c2, c3, c4, c5, c6⟩ := id FF; obtain ⟨g0, g1, g2, g3, g4⟩ := id GG; replace hb0 := bt hb0 hbq; clear hbq)
    | fail)
  go_ret
  exact ⟨rfl, hb0⟩
set_option maxRecDepth 100000 in
set_option maxHeartbeats 8000000 in
theorem ra_high (z d s l a : Int) (x : AV) (yA : Option Addr) (yc n : Nat) (fl : Int) (w : World) (hx : x.In w w.heap.size) (hh : ¬ HeavyA x.d) (h40 : ¬ (40 : Int) < (n : Int)) (ho : Ok z d s l a) (hg : anc.Good z d s l x.d) (hq : (1000000 : Int) < x.seq) :
    Calls Tryd.prog 3 #[.agg #[.int .i64 z, .int .i64 d, .int .i64 s, .int .i64 l, .int .i64 a], .agg #[.int .i64 x.gen, .int .i64 x.ep, .int .i64 x.pos, .int .i64 x.seq, .int .i64 x.last, .string x.lab, .slice x.HA x.hs.length x.hc], .slice yA n yc, .int .u8 fl] w fun e w' => e = .returned (.bool true) ∧ Below w.heap.size w w' := by
  have cH := fun W (hW : Below w.heap.size w W) => heavy_any false x W (hx.next hW) (iff_of_false Bool.false_ne_true hh)
  have cG := fun W => rgeo_at true z d s l a W (iff_of_true rfl ho)
  obtain ⟨t1, t2, t3⟩ := light hh
  have cR := fun W (hW : Below w.heap.size w W) => right_p z d s l a true x W ho (hx.next hW) (by omega) (fun r hr => by have := t3 r hr; omega) (by omega) (iff_of_true rfl hg)
  unfold AV.v at *
  have GG := (g5_new w z d s l a).keep (bl (w.alloc (.cells #[.int .i64 z, .int .i64 d, .int .i64 s, .int .i64 l, .int .i64 a] 23)) (.cells #[.int .i64 x.gen, .int .i64 x.ep, .int .i64 x.pos, .int .i64 x.seq, .int .i64 x.last, .string x.lab, .slice x.HA x.hs.length x.hc] 26)) (by simp)
  have FF := ac_new (w.alloc (.cells #[.int .i64 z, .int .i64 d, .int .i64 s, .int .i64 l, .int .i64 a] 23)) x
  have hb0 := kal (bl w (.cells #[.int .i64 z, .int .i64 d, .int .i64 s, .int .i64 l, .int .i64 a] 23)) (.cells #[.int .i64 x.gen, .int .i64 x.ep, .int .i64 x.pos, .int .i64 x.seq, .int .i64 x.last, .string x.lab, .slice x.HA x.hs.length x.hc] 26)
  rw [show (w.alloc (.cells #[.int .i64 z, .int .i64 d, .int .i64 s, .int .i64 l, .int .i64 a] 23)).heap.size = w.heap.size + 1 by simp] at FF
  have l1 : w.heap.size + 1 < ((w.alloc (.cells #[.int .i64 z, .int .i64 d, .int .i64 s, .int .i64 l, .int .i64 a] 23)).alloc (.cells #[.int .i64 x.gen, .int .i64 x.ep, .int .i64 x.pos, .int .i64 x.seq, .int .i64 x.last, .string x.lab, .slice x.HA x.hs.length x.hc] 26)).heap.size := by simp
  clear hx hh ho hg t1 t2 t3
  go_enter Tryd.func3, Tryd.ntmps3
  go_upto_region 1 with fail
  generalize (w.alloc (.cells #[.int .i64 z, .int .i64 d, .int .i64 s, .int .i64 l, .int .i64 a] 23)).alloc (.cells #[.int .i64 x.gen, .int .i64 x.ep, .int .i64 x.pos, .int .i64 x.seq, .int .i64 x.last, .string x.lab, .slice x.HA x.hs.length x.hc] 26) = w0 at *
  obtain ⟨c0, c1, c2, c3, c4, c5, c6⟩ := id FF
  obtain ⟨g0, g1, g2, g3, g4⟩ := id GG
  go_wp2_with (first
    | (go_at_call 6; (with_reducible refine (cH _ hb0).mono ?_); rintro e wq ⟨rfl, hbq⟩; replace FF := FF.keep hbq (by omega); replace GG := GG.keep hbq (by omega); replace l1 := Nat.lt_of_lt_of_le l1 hbq.size; clear c0 c1 c2 c3 c4 c5 c6 g0 g1 g2 g3 g4; obtain ⟨c0, c1, c2, c3, c4, c5, c6⟩ := id FF; obtain ⟨g0, g1, g2, g3, g4⟩ := id GG; replace hb0 := bt hb0 hbq; clear hbq)
    | (go_at_call 7; (with_reducible refine (cG _).mono ?_); rintro e wq ⟨rfl, hbq⟩; replace FF := FF.keep hbq (by omega); replace GG := GG.keep hbq (by omega); replace l1 := Nat.lt_of_lt_of_le l1 hbq.size; clear c0 c1 c2 c3 c4 c5 c6 g0 g1 g2 g3 g4; obtain ⟨c0, c1, c2, c3, c4, c5, c6⟩ := id FF; obtain ⟨g0, g1, g2, g3, g4⟩ := id GG; replace hb0 := bt hb0 hbq; clear hbq)
    | (go_at_call 8; (with_reducible refine (cR _ hb0).mono ?_); rintro e wq ⟨rfl, hbq⟩; replace FF := FF.keep hbq (by omega); replace GG := GG.keep hbq (by omega); replace l1 := Nat.lt_of_lt_of_le l1 hbq.size; clear c0 c1 c2 c3 c4 c5 c6 g0 g1 g2 g3 g4; obtain ⟨c0, c1, c2, c3, c4, c5, c6⟩ := id FF; obtain ⟨g0, g1, g2, g3, g4⟩ := id GG; replace hb0 := bt hb0 hbq; clear hbq)
    | fail)
  go_ret
  exact ⟨rfl, hb0⟩
end Go.Proofs.YtalmimmcfjolkaaDoor.rng

namespace Go.Proofs.YtalmimmcfjolkaaDoor.rng
open Go.RowKit Go.Lib
open Go.Proofs.YtalmimmcfjolkaaDoor.anc (row_apart row_form flat_set)
open Go.Proofs.YtalmimmcfjolkaaDoor.img
open Go.Proofs.YtalmimmcfjolkaaDoor.lrc (ImOk ImsOk)

section
variable {w : World} {base : Nat} {v : Value} {ts : List TxR}
theorem row_far {w : World} {base base' k k' n n' g : Nat} {e e' : TypeId} {v v' : Value} {xs xs' : List Value} (h : w.ownsRow base e k v n xs) (h' : w.ownsRow base' e' k' v' n' xs') (he : e ≠ e') (hg : v'.ownBlock = some g) : v.ownBlock ≠ some g := fun k => by
  rcases row_apart h h' he with q | q
  · rw [k] at q; cases q
  · exact q (by rw [k, hg])
theorem ownT_row {A : Option Addr} {n c : Nat} (h : OwnT w base (.slice A n c) ts) (hl : 0 < ts.length) : ∃ g, A = some ⟨g, 0, none⟩ ∧ base ≤ g ∧ g < w.heap.size ∧ ∀ o, w.frozen? ⟨g, o, none⟩ = false := by
  rcases h.1.2 with ⟨e, h0⟩ | ⟨g, cap, cur, e, -⟩
  · omega
  · simp only [Value.slice.injEq] at e
    obtain ⟨rfl, rfl, rfl⟩ := e
    have := World.ownsRow.lt h.1 g rfl
    exact ⟨g, rfl, this.1, this.2, fun o => World.ownsRow.frozenAt h.1 o⟩
theorem ownI_row {A : Option Addr} {n c : Nat} {rs : List ImR} (h : OwnI w base (.slice A n c) rs) (hl : 0 < rs.length) : ∃ g, A = some ⟨g, 0, none⟩ ∧ base ≤ g ∧ g < w.heap.size ∧ ∀ o, w.frozen? ⟨g, o, none⟩ = false := by
  rcases h.1.2 with ⟨e, h0⟩ | ⟨g, cap, cur, e, -⟩
  · omega
  · simp only [Value.slice.injEq] at e
    obtain ⟨rfl, rfl, rfl⟩ := e
    have := World.ownsRow.lt h.1 g rfl
    exact ⟨g, rfl, this.1, this.2, fun o => World.ownsRow.frozenAt h.1 o⟩
theorem OwnI.other {rs : List ImR} {g : Nat} (h : OwnI w base v rs) (h1 : v.ownBlock ≠ some g) (h2 : ∀ r ∈ rs, (Value.slice r.A r.l.length r.c).ownBlock ≠ some g) (o : Nat) (u : Value) : OwnI (w.setCell ⟨g, o, none⟩ u) base v rs :=
  ⟨ownsRow_setCell_other h.1 h1 u, fun r hr => ownsRow_setCell_other (h.2 r hr) (h2 r hr) u⟩
/-- One cell of one of them. -/
theorem OwnT.store {g n c i k : Nat} {r r' : TxR} {u : Value} (h : OwnT w base (.slice (some ⟨g, 0, none⟩) n c) ts) (hi : ts[i]? = some r) (hk : k < 4) (hv : r'.vs = r.vs.set k u) (hO : OwnI w base (.slice r'.A r'.rs.length r'.c) r'.rs) : OwnT (w.setCell ⟨g, i * 4 + k, none⟩ u) base (.slice (some ⟨g, 0, none⟩) n c) (ts.set i r') := by
  have hf : tvs (ts.set i r') = (tvs ts).set (i * 4 + k) u := flat_set TxR.vs 4 (fun _ => rfl) ts i k r' u hk (fun y hy => by
    rw [hi] at hy
    rw [← Option.some.inj hy]
    exact hv)
  have hn : n = ts.length := by
    obtain ⟨A, c', e, -⟩ := row_form h.1
    simp only [Value.slice.injEq] at e
    exact e.2.1
  have key : ∀ x : TxR, OwnI w base (.slice x.A x.rs.length x.c) x.rs → OwnI (w.setCell ⟨g, i * 4 + k, none⟩ u) base (.slice x.A x.rs.length x.c) x.rs := fun x hx => OwnI.other hx (row_far hx.1 h.1 img_txn rfl) (fun y hy => row_far (hx.2 y hy) h.1 u8_txn rfl) _ u
  refine ⟨?_, fun x hx => ?_⟩
  · rw [hf, List.length_set]
    subst hn
    exact (World.ownsRow.stored h.1 (i * 4 + k) u).1
  · rcases List.mem_or_eq_of_mem_set hx with q | rfl
    · exact key x (h.2 x q)
    · exact key x hO
/-- The first image's zone. -/
def zset (z : Int) : List ImR → List ImR
  | [] => []
  | x :: t => { x with z := z } :: t
def TxR.zs (z : Int) (b : Nat) (r : TxR) : TxR := if r.A = some ⟨b, 0, none⟩ then { r with rs := zset z r.rs } else r
theorem zset_length (z : Int) (rs : List ImR) : (zset z rs).length = rs.length := by cases rs <;> rfl
theorem zset_ivs (z : Int) (rs : List ImR) : ivs (zset z rs) = (ivs rs).set 0 (.int .i64 z) := by cases rs <;> rfl
theorem zs_vs (z : Int) (b : Nat) (r : TxR) : (r.zs z b).vs = r.vs := by
  unfold TxR.zs
  split
  · simp only [TxR.vs, zset_length]
  · rfl
theorem tvs_zs (z : Int) (b : Nat) (ts : List TxR) : tvs (ts.map (TxR.zs z b)) = tvs ts := by
  unfold tvs
  rw [List.flatMap_map]
  congr 1
  funext r
  exact zs_vs z b r
theorem OwnT.zone {b : Nat} {r0 : TxR} {z : Int} (h : OwnT w base v ts) (h0 : r0 ∈ ts) (hA : r0.A = some ⟨b, 0, none⟩) : OwnT (w.setCell ⟨b, 0, none⟩ (.int .i64 z)) base v (ts.map (TxR.zs z b)) := by
  have hI := (h.2 r0 h0).1
  have hb : (Value.slice r0.A r0.rs.length r0.c).ownBlock = some b := by rw [hA]; rfl
  refine ⟨?_, fun x hx => ?_⟩
  · rw [tvs_zs, List.length_map]
    exact ownsRow_setCell_other h.1 (row_far h.1 hI (Ne.symm img_txn) hb) _
  · obtain ⟨r, hr, rfl⟩ := List.mem_map.1 hx
    have hO := h.2 r hr
    have h2 : ∀ y ∈ r.rs, Own (w.setCell ⟨b, 0, none⟩ (.int .i64 z)) base 5 (.slice y.A y.l.length y.c) y.l := fun y hy => ownsRow_setCell_other (hO.2 y hy) (row_far (hO.2 y hy) hI u8_img hb) _
    unfold TxR.zs
    by_cases c : r.A = some ⟨b, 0, none⟩
    · rw [if_pos c]
      refine ⟨?_, fun y hy => ?_⟩
      · show World.ownsRow _ base 56 3 (.slice r.A (zset z r.rs).length r.c) (zset z r.rs).length (ivs (zset z r.rs))
        have h5 := hO.1
        rw [c] at h5 ⊢
        rw [zset_length, zset_ivs]
        exact (World.ownsRow.stored h5 0 (.int .i64 z)).1
      · have hy : y ∈ zset z r.rs := hy
        revert hy h2
        cases r.rs with
        | nil => intro _ hy; cases hy
        | cons q t =>
          intro h2 hy
          rcases List.mem_cons.1 hy with rfl | hy
          · exact h2 q List.mem_cons_self
          · exact h2 y (List.mem_cons_of_mem _ hy)
    · rw [if_neg c]
      refine ⟨ownsRow_setCell_other hO.1 (fun e => ?_) _, h2⟩
      rcases hO.1.2 with ⟨e2, -⟩ | ⟨g, cap, cur, e2, -⟩
      · simp only [Value.slice.injEq] at e2
        rw [e2.1] at e
        cases e
      · simp only [Value.slice.injEq] at e2
        rw [e2.1] at e
        exact c (by rw [e2.1]; simpa [Value.ownBlock] using e)
end
/-- Whatever else: one with an image of a zone that there is not makes no right log. -/
theorem LogOk.each {z d l : Int} (ts : List Txd) : ∀ (p s u : Int), LogOk z d l p s u ts → ∀ x ∈ ts, ImsOk z d x.ims := by
  induction ts with
  | nil => intro p s u _ x hx; cases hx
  | cons y t ih =>
    intro p s u h x hx
    rcases List.mem_cons.1 hx with rfl | hx
    · exact h.1.2.2.2.2.2
    · exact ih _ _ _ h.2.2 x hx
theorem zone_none {z d l p s u : Int} {ts : List TxR} {b : Nat} {r0 : TxR} (h0 : r0 ∈ ts) (hA : r0.A = some ⟨b, 0, none⟩) (hr : r0.rs ≠ []) : ¬ LogOk z d l p s u (tds (ts.map (TxR.zs z b))) := fun h => by
  obtain ⟨q, t, e⟩ := List.exists_cons_of_ne_nil hr
  have hm : (r0.zs z b).d ∈ tds (ts.map (TxR.zs z b)) := List.mem_map_of_mem (List.mem_map_of_mem h0)
  have h1 := LogOk.each _ _ _ _ h _ hm (z, q.wh, q.l) (by
    unfold TxR.zs
    rw [if_pos hA, e]
    exact List.mem_cons_self)
  have := h1.1
  simp only at this
  omega
end Go.Proofs.YtalmimmcfjolkaaDoor.rng

namespace Go.Proofs.YtalmimmcfjolkaaDoor.rng
open Go.RowKit Go.Lib
open Go.Proofs.YtalmimmcfjolkaaDoor.gmt (Ok rgeo_at)
open Go.Proofs.YtalmimmcfjolkaaDoor.anc (AV AC ac_new bl kal kst ks bm ka HeavyA light heavy_any right_p)
open Go.Proofs.YtalmimmcfjolkaaDoor.tbl (G5 g5_new)
open Go.Proofs.YtalmimmcfjolkaaDoor.img

theorem LogOk.num {z d l : Int} (ts : List Txd) : ∀ (p s u : Int) (i : Nat) (hi : i < ts.length), LogOk z d l p s u ts → ts[i].sq = s + i ∧ s + i ≤ 4294967295 := by
  induction ts with
  | nil => intro p s u i hi; cases hi
  | cons y t ih =>
    intro p s u i hi h
    cases i with
    | zero =>
      have a := h.1.1
      have b := h.1.2.1
      exact ⟨by show y.sq = s + 0; omega, by show s + 0 ≤ 4294967295; omega⟩
    | succ j =>
      have hj : j < t.length := by simpa using hi
      obtain ⟨a, b⟩ := ih _ _ _ j hj h.2.2
      exact ⟨by show t[j].sq = s + ((j + 1 : Nat) : Int); omega, by omega⟩
theorem wrap_mod' (i : Int) (m : Nat) (hm : 0 < m) : ∃ a : Nat, a < m ∧ (IntKind.u64.wrap i).tmod (m : Int) = (a : Int) := by
  obtain ⟨h1, h2⟩ := gmt.wrap_mod i (m : Int) (by omega)
  exact ⟨((IntKind.u64.wrap i).tmod (m : Int)).toNat, by omega, by omega⟩
theorem TShort.set {m i : Nat} {ts : List TxR} {r : TxR} (h : TShort m ts) (hr : r.rs.length ≤ m ∧ ∀ x ∈ r.rs, x.l.length ≤ m) : TShort m (ts.set i r) := fun q hq => by
  rcases List.mem_or_eq_of_mem_set hq with k | rfl
  · exact h q k
  · exact hr
theorem TShort.zone {m b : Nat} {z : Int} {ts : List TxR} (h : TShort m ts) : TShort m (ts.map (TxR.zs z b)) := fun q hq => by
  obtain ⟨r, hr, rfl⟩ := List.mem_map.1 hq
  obtain ⟨h1, h2⟩ := h r hr
  unfold TxR.zs
  split
  · refine ⟨by show (zset z r.rs).length ≤ m; rw [zset_length]; exact h1, fun x hx => ?_⟩
    have hx : x ∈ zset z r.rs := hx
    revert h2 hx
    cases r.rs with
    | nil => intro _ hx; cases hx
    | cons y t =>
      intro h2 hx
      rcases List.mem_cons.1 hx with rfl | hx
      · exact h2 y List.mem_cons_self
      · exact h2 x (List.mem_cons_of_mem _ hx)
  · exact ⟨h1, h2⟩
theorem tds_set (ts : List TxR) (i : Nat) (r : TxR) : tds (ts.set i r) = (tds ts).set i r.d := by simp [tds, List.map_set]
theorem logX_le (z d l : Int) (tb : List UInt8) (fill : UInt8) (sq : Int) (ys : List Int) : ∀ (i : Nat) (pos used : Int), (logX z d l tb fill sq i pos used ys).length ≤ ys.length := by
  induction ys with
  | nil => intro i pos used; exact Nat.le_refl 0
  | cons y t ih =>
    intro i pos used
    unfold logX
    split
    · exact Nat.zero_le _
    · rw [List.length_cons, List.length_cons]
      exact Nat.succ_le_succ (ih _ _ _)
theorem ownT_at {w : World} {base N c : Nat} {A : Option Addr} {ts : List TxR} (h : OwnT w base (.slice A N c) ts) : N = ts.length ∧ XV.In w w.heap.size ⟨A, c, ts⟩ := by
  obtain ⟨A', c', hv, hi⟩ := ownT_in h
  simp only [Value.slice.injEq] at hv
  obtain ⟨rfl, h1, rfl⟩ := hv
  exact ⟨h1, hi⟩
set_option maxRecDepth 100000 in
set_option maxHeartbeats 8000000 in
theorem rgb_main (m : Nat) (z d s l a : Int) (x : AV) (yA : Option Addr) (yc n : Nat) (ys : List Int) (i how : Int) (w : World) (hc : Crg w) (hx : x.In w w.heap.size) (hh : ¬ HeavyA x.d) (h40 : ¬ (40 : Int) < (n : Int)) (hyn : ys.length = n) (hy : SlV w w.heap.size yA (ints ys)) (ho : Ok z d s l a) (hg : anc.Good z d s l x.d) (hq : ¬ (1000000 : Int) < x.seq) (hm : (IntKind.u64.wrap how).tmod 5 = (m : Int)) (hm5 : m < 5) :
    Calls Tryd.prog 5 #[.agg #[.int .i64 z, .int .i64 d, .int .i64 s, .int .i64 l, .int .i64 a], .agg #[.int .i64 x.gen, .int .i64 x.ep, .int .i64 x.pos, .int .i64 x.seq, .int .i64 x.last, .string x.lab, .slice x.HA x.hs.length x.hc], .slice yA n yc, .int .i64 i, .int .i64 how] w fun e w' => e = .returned (.bool true) ∧ Below w.heap.size w w' := by
  obtain ⟨t1, t2, t3⟩ := light hh
  have HC := Lib.hid hc
  have HO := Lib.hid ho
  have HX := Lib.hid hx
  have HGD := Lib.hid hg
  have HM := Lib.hid hm
  have hpos : 0 ≤ x.pos ∧ x.pos ≤ l - 1 := hg.2.2.2.2.2.1
  have hsq : 1 ≤ x.seq ∧ x.seq ≤ 4294967295 := hg.2.2.1
  have hl : 14 ≤ l ∧ l ≤ 30 := ho.2.2.2.1
  have cH := fun W (hW : Below w.heap.size w W) => heavy_any false x W (hx.next hW) (iff_of_false Bool.false_ne_true hh)
  have cG := fun W => rgeo_at true z d s l a W (iff_of_true rfl ho)
  have cR := fun W (hW : Below w.heap.size w W) => right_p z d s l a true x W ho (hx.next hW) (by omega) (fun r hr => by have := t3 r hr; omega) (by omega) (iff_of_true rfl hg)
  have HL := Lib.hid (show ∀ W, Below w.heap.size w W → Calls Tryd.prog 9 #[.agg #[.int .i64 z, .int .i64 d, .int .i64 s, .int .i64 l, .int .i64 a], .agg #[.int .i64 x.gen, .int .i64 x.ep, .int .i64 x.pos, .int .i64 x.seq, .int .i64 x.last, .string x.lab, .slice x.HA x.hs.length x.hc], .slice yA n yc, .int .u8 1] W fun e w' => (∃ (A : Option Addr) (c N : Nat) (ts : List TxR), e = .returned (.slice A N c) ∧ N = ts.length ∧ tds ts = logX z d l (tabB d) 1 x.seq 0 x.pos 0 ys ∧ OwnT w' W.heap.size (.slice A N c) ts) ∧ Below W.heap.size W w' from fun W hW => by
    refine (log_c z d s l a x.gen x.ep x.pos x.seq x.last x.lab x.HA x.hs.length x.hc yA yc ys n 1 W ho (hy.next hW) hyn (by omega) hpos (by omega) (by omega)).mono ?_
    rintro e w' ⟨⟨v, ts, rfl, hts, hO⟩, hb⟩
    obtain ⟨A, c, rfl, -⟩ := ownT_in hO
    exact ⟨⟨A, c, ts.length, ts, rfl, rfl, hts, hO⟩, hb⟩)
  have HLG := Lib.hid (show LogOk z d l x.pos x.seq 0 (logX z d l (tabB d) 1 x.seq 0 x.pos 0 ys) from by
    have h := logX_ok (l := l) ho.1.1 ho.2.1 (tabB_told (d := d) (by have := ho.2.1; omega)) 1 x.seq ys 0 x.pos 0 (by omega)
    rw [show x.seq + ((0 : Nat) : Int) = x.seq by omega] at h
    exact h)
  unfold AV.v at *
  have GG := (g5_new w z d s l a).keep (bl (w.alloc (.cells #[.int .i64 z, .int .i64 d, .int .i64 s, .int .i64 l, .int .i64 a] 23)) (.cells #[.int .i64 x.gen, .int .i64 x.ep, .int .i64 x.pos, .int .i64 x.seq, .int .i64 x.last, .string x.lab, .slice x.HA x.hs.length x.hc] 26)) (by simp)
  have FF := ac_new (w.alloc (.cells #[.int .i64 z, .int .i64 d, .int .i64 s, .int .i64 l, .int .i64 a] 23)) x
  have hb0 := kal (bl w (.cells #[.int .i64 z, .int .i64 d, .int .i64 s, .int .i64 l, .int .i64 a] 23)) (.cells #[.int .i64 x.gen, .int .i64 x.ep, .int .i64 x.pos, .int .i64 x.seq, .int .i64 x.last, .string x.lab, .slice x.HA x.hs.length x.hc] 26)
  rw [show (w.alloc (.cells #[.int .i64 z, .int .i64 d, .int .i64 s, .int .i64 l, .int .i64 a] 23)).heap.size = w.heap.size + 1 by simp] at FF
  have l1 : w.heap.size + 1 < ((w.alloc (.cells #[.int .i64 z, .int .i64 d, .int .i64 s, .int .i64 l, .int .i64 a] 23)).alloc (.cells #[.int .i64 x.gen, .int .i64 x.ep, .int .i64 x.pos, .int .i64 x.seq, .int .i64 x.last, .string x.lab, .slice x.HA x.hs.length x.hc] 26)).heap.size := by simp
  clear hx hh ho hg t1 t3 hc hm hy
  go_enter Tryd.func5, Tryd.ntmps5
  go_upto_region 1 with fail
  generalize (w.alloc (.cells #[.int .i64 z, .int .i64 d, .int .i64 s, .int .i64 l, .int .i64 a] 23)).alloc (.cells #[.int .i64 x.gen, .int .i64 x.ep, .int .i64 x.pos, .int .i64 x.seq, .int .i64 x.last, .string x.lab, .slice x.HA x.hs.length x.hc] 26) = w0 at *
  obtain ⟨c0, c1, c2, c3, c4, c5, c6⟩ := id FF
  obtain ⟨g0, g1, g2, g3, g4⟩ := id GG
  go_upto_region 4 with (first
    | (go_at_call 6; (with_reducible refine (cH _ hb0).mono ?_); rintro e wq ⟨rfl, hbq⟩; replace FF := FF.keep hbq (by omega); replace GG := GG.keep hbq (by omega); replace l1 := Nat.lt_of_lt_of_le l1 hbq.size; clear c0 c1 c2 c3 c4 c5 c6 g0 g1 g2 g3 g4; obtain ⟨c0, c1, c2, c3, c4, c5, c6⟩ := id FF; obtain ⟨g0, g1, g2, g3, g4⟩ := id GG; replace hb0 := bt hb0 hbq; clear hbq)
    | (go_at_call 7; (with_reducible refine (cG _).mono ?_); rintro e wq ⟨rfl, hbq⟩; replace FF := FF.keep hbq (by omega); replace GG := GG.keep hbq (by omega); replace l1 := Nat.lt_of_lt_of_le l1 hbq.size; clear c0 c1 c2 c3 c4 c5 c6 g0 g1 g2 g3 g4; obtain ⟨c0, c1, c2, c3, c4, c5, c6⟩ := id FF; obtain ⟨g0, g1, g2, g3, g4⟩ := id GG; replace hb0 := bt hb0 hbq; clear hbq)
    | (go_at_call 8; (with_reducible refine (cR _ hb0).mono ?_); rintro e wq ⟨rfl, hbq⟩; replace FF := FF.keep hbq (by omega); replace GG := GG.keep hbq (by omega); replace l1 := Nat.lt_of_lt_of_le l1 hbq.size; clear c0 c1 c2 c3 c4 c5 c6 g0 g1 g2 g3 g4; obtain ⟨c0, c1, c2, c3, c4, c5, c6⟩ := id FF; obtain ⟨g0, g1, g2, g3, g4⟩ := id GG; replace hb0 := bt hb0 hbq; clear hbq)
    | (go_at_call 9; (with_reducible refine (HL.out _ hb0).mono ?_); rintro e wL ⟨⟨A, c, N, ts, rfl, hN, hts, hO⟩, hbq⟩; have HNN := Lib.hid hN; clear hN; have hbase := l1; replace FF := FF.keep hbq (by omega); replace GG := GG.keep hbq (by omega); replace l1 := Nat.lt_of_lt_of_le l1 hbq.size; clear c0 c1 c2 c3 c4 c5 c6 g0 g1 g2 g3 g4; obtain ⟨c0, c1, c2, c3, c4, c5, c6⟩ := id FF; obtain ⟨g0, g1, g2, g3, g4⟩ := id GG; replace hb0 := bt hb0 hbq; clear hbq)
    | fail)
  obtain ⟨B0, hB0⟩ : ∃ B0, B0 = wq.heap.size := ⟨_, rfl⟩
  rw [← hB0] at hO hbase
  clear hB0 cH cG cR HL
  have hN40 : N ≤ 40 := by
    have h1 := logX_le z d l (tabB d) 1 x.seq ys 0 x.pos 0
    rw [← hts, tds_length] at h1
    have := HNN.out
    omega
  rcases Nat.eq_zero_or_pos N with h0 | h0
  · have n0 : (N : Int) = 0 := by omega
    have n1 : ((N : Int) == 0) = true := by rw [n0]; rfl
    have HWK := Lib.hid (fun W (hW : Below wL.heap.size wL W) => wk_ring W (HC.out.more (bt hb0 hW)))
    go_wp2_with (go_at_call 14; (with_reducible refine (HWK.out _ (Below.refl _ _)).mono ?_); rintro e w8 ⟨rfl, hb8⟩)
    go_ret
    exact ⟨rfl, bt hb0 hb8⟩
  obtain ⟨j, hj, hjw⟩ := wrap_mod' i N h0
  obtain ⟨g, rfl, hgB, hgl, -⟩ := ownT_row hO (by have := HNN.out; omega)
  have HIN := Lib.hid (ownT_at hO).2
  have HOT := Lib.hid hO
  have HTS := Lib.hid hts
  have HSH := Lib.hid (show TShort 1048576 ts from (short_of ⟨by have := HO.out.2.1; omega, HO.out.2.1.2⟩ hts).more (by decide))
  have HT := Lib.hid (show ∀ W, Below wL.heap.size wL W → Calls Tryd.prog 17 #[(.slice (some ⟨g, 0, none⟩) N c)] W fun e w' => (∃ (A2 : Option Addr) (c2 : Nat) (ts2 : List TxR), e = .returned (.slice A2 N c2) ∧ ts2.length = N ∧ tds ts2 = tds ts ∧ XV.In w' w'.heap.size ⟨A2, c2, ts2⟩) ∧ Below W.heap.size W w' from fun W hW => by
    refine (ttxns_c ⟨some ⟨g, 0, none⟩, c, ts⟩ N W (HIN.out.next hW) HNN.out.symm (by omega) HSH.out).mono ?_
    rintro e w' ⟨⟨v2, ts2, rfl, he, ho2⟩, hb⟩
    have hl2 : ts2.length = N := by rw [← tds_length, he, tds_length, HNN.out]
    obtain ⟨A2, c2, rfl, hi2⟩ := ownT_in ho2
    rw [hl2]
    exact ⟨⟨A2, c2, ts2, rfl, hl2, he, hi2⟩, hb⟩)
  have HK1 := Lib.hid (show ∀ (A2 : Option Addr) (c2 : Nat) (ts2 : List TxR) (W : World), Below wL.heap.size wL W → ts2.length = N → tds ts2 = tds ts → XV.In W W.heap.size ⟨A2, c2, ts2⟩ → Calls Tryd.prog 10 #[.agg #[.int .i64 z, .int .i64 d, .int .i64 s, .int .i64 l, .int .i64 a], .agg #[.int .i64 x.gen, .int .i64 x.ep, .int .i64 x.pos, .int .i64 x.seq, .int .i64 x.last, .string x.lab, .slice x.HA x.hs.length x.hc], .slice A2 N c2] W fun e w' => e = .returned (.int .i64 0) ∧ Below W.heap.size W w' from fun A2 c2 ts2 W hW h2 he hi => HC.out.check true z d s l a x ⟨A2, c2, ts2⟩ N W (bt hb0 hW) HO.out (HX.out.next (bt hb0 hW)) (by omega) hi h2 (by omega) ((short_of ⟨by have := HO.out.2.1; omega, HO.out.2.1.2⟩ (he.trans HTS.out)).more (by decide)) (iff_of_true rfl ⟨HGD.out, by rw [show tds (XV.ts ⟨A2, c2, ts2⟩) = logX z d l (tabB d) 1 x.seq 0 x.pos 0 ys from he.trans HTS.out]; exact HLG.out⟩))
  have n0 : ¬ (N : Int) = 0 := by omega
  have n1 : ((N : Int) == 0) = false := beq_eq_false_iff_ne.2 n0
  have n2 : (0 : Int) ≤ (j : Int) := by omega
  have n3 : (j : Int) < (N : Int) := by omega
  have n4 : IntKind.u64.wrap (N : Int) = (N : Int) := IntWalk.u64_in _ (by omega)
  have n5 : IntKind.i64.wrap (j : Int) = (j : Int) := IntWalk.i64_in _ (by omega)
  have HF := Lib.hid (show ∀ W, Below wL.heap.size wL W → (W.cell? ⟨w.heap.size, 0, none⟩ = some (.int .i64 z) ∧ W.cell? ⟨w.heap.size, 1, none⟩ = some (.int .i64 d) ∧ W.cell? ⟨w.heap.size, 2, none⟩ = some (.int .i64 s) ∧ W.cell? ⟨w.heap.size, 3, none⟩ = some (.int .i64 l) ∧ W.cell? ⟨w.heap.size, 4, none⟩ = some (.int .i64 a)) ∧ (W.cell? ⟨w.heap.size + 1, 0, none⟩ = some (.int .i64 x.gen) ∧ W.cell? ⟨w.heap.size + 1, 1, none⟩ = some (.int .i64 x.ep) ∧ W.cell? ⟨w.heap.size + 1, 2, none⟩ = some (.int .i64 x.pos) ∧ W.cell? ⟨w.heap.size + 1, 3, none⟩ = some (.int .i64 x.seq) ∧ W.cell? ⟨w.heap.size + 1, 4, none⟩ = some (.int .i64 x.last) ∧ W.cell? ⟨w.heap.size + 1, 5, none⟩ = some (.string x.lab) ∧ W.cell? ⟨w.heap.size + 1, 6, none⟩ = some (.slice x.HA x.hs.length x.hc)) ∧ Below wL.heap.size wL W from fun W h => ⟨⟨kst h (by omega) g0, kst h (by omega) g1, kst h (by omega) g2, kst h (by omega) g3, kst h (by omega) g4⟩, ⟨kst h (by omega) c0, kst h (by omega) c1, kst h (by omega) c2, kst h (by omega) c3, kst h (by omega) c4, kst h (by omega) c5, kst h (by omega) c6⟩, h⟩)
  have hd0 := below_dr (Below.refl wL.heap.size wL)
  clear hO hts
  go_upto_region 7 with fail
  go_region_held3 (fun W => (W.cell? ⟨w.heap.size, 0, none⟩ = some (.int .i64 z) ∧ W.cell? ⟨w.heap.size, 1, none⟩ = some (.int .i64 d) ∧ W.cell? ⟨w.heap.size, 2, none⟩ = some (.int .i64 s) ∧ W.cell? ⟨w.heap.size, 3, none⟩ = some (.int .i64 l) ∧ W.cell? ⟨w.heap.size, 4, none⟩ = some (.int .i64 a)) ∧ (W.cell? ⟨w.heap.size + 1, 0, none⟩ = some (.int .i64 x.gen) ∧ W.cell? ⟨w.heap.size + 1, 1, none⟩ = some (.int .i64 x.ep) ∧ W.cell? ⟨w.heap.size + 1, 2, none⟩ = some (.int .i64 x.pos) ∧ W.cell? ⟨w.heap.size + 1, 3, none⟩ = some (.int .i64 x.seq) ∧ W.cell? ⟨w.heap.size + 1, 4, none⟩ = some (.int .i64 x.last) ∧ W.cell? ⟨w.heap.size + 1, 5, none⟩ = some (.string x.lab) ∧ W.cell? ⟨w.heap.size + 1, 6, none⟩ = some (.slice x.HA x.hs.length x.hc)) ∧ Below wL.heap.size wL W)
    ((refine HF.out _ ?_; first
      | with_reducible exact hd0
      | with_reducible exact hh2
      | with_reducible exact hh1
      | fail))
    (first
      | (go_at_call 17; (with_reducible refine (HT.out _ hd0).mono ?_); rintro e w4 ⟨⟨A2, d2, ts2, rfl, h2, he, hi⟩, hb4⟩; have hh1 := bt hd0 hb4)
      | (go_at_call 10; (with_reducible refine (HK1.out _ _ _ _ hh1 h2 he hi).mono ?_); rintro e w5 ⟨rfl, hb5⟩; have hh2 := bt hh1 hb5)
      | fail)
  have GG5 := GG.keep hh2 (by omega)
  have FF5 := FF.keep hh2 (by omega)
  have hb05 := bt hb0 hh2
  have hO5 := HOT.out.below hh2
  have l5 := Nat.lt_of_lt_of_le hgl hh2.size
  obtain ⟨hNN, hI5⟩ := ownT_at hO5
  obtain ⟨b, off, r, hA, -, q0, q1, q2, q3, hiv, hrm, hr, hrd⟩ := txn_at hI5.h hI5.i (show j < ts.length by omega)
  simp only [Option.some.injEq, Addr.mk.injEq, and_true] at hA
  obtain ⟨rfl, rfl⟩ := hA
  rw [Nat.zero_add] at q0 q1 q2 q3
  obtain ⟨gg, hgg, -, -, hfz⟩ := ownT_row hO5 (by omega)
  obtain rfl : g = gg := by simpa using hgg
  have hjd : j < (tds ts).length := by rw [tds_length]; omega
  have hdj : (tds ts)[j] = r.d := by
    rw [List.getElem?_eq_getElem hjd] at hrd
    exact Option.some.inj hrd
  have hLG : LogOk z d l x.pos x.seq 0 (tds ts) := by rw [HTS.out]; exact HLG.out
  have hOr := hO5.2 r hrm
  obtain ⟨s1, s2⟩ := HSH.out r hrm
  have k1 : r.sq = x.seq + j ∧ x.seq + j ≤ 4294967295 := by
    have h1 := LogOk.num (tds ts) x.pos x.seq 0 j hjd hLG
    rw [hdj] at h1
    exact h1
  have k2 : (0 ≤ r.ps ∧ r.ps < l) ∧ r.nm ≤ l ∧ 2 ≤ r.nm ∧ r.rs ≠ [] := by
    obtain ⟨h1, h2, -⟩ := LogOk.place (pos := x.pos) (tds ts) x.pos x.seq 0 j hjd (by rw [Int.add_zero]; exact (Int.emod_eq_of_lt hpos.1 (by omega)).symm) hLG
    obtain ⟨h3, h4⟩ := LogOk.some (tds ts) x.pos x.seq 0 j hjd hLG
    have h5 := offN_nonneg hLG j
    rw [hdj] at h1 h2 h3 h4
    have h1 : r.ps = _ := h1
    have h6 := Int.emod_nonneg (x.pos + 0 + offN (tds ts) j) (show l ≠ 0 by omega)
    have h7 := Int.emod_lt_of_pos (x.pos + 0 + offN (tds ts) j) (show 0 < l by omega)
    rw [← h1] at h6 h7
    have h2 : 0 + offN (tds ts) j + r.nm ≤ l := h2
    exact ⟨⟨h6, h7⟩, by omega, h4, fun e => h3 (by show ids r.rs = []; rw [e]; rfl)⟩
  have HWY := Lib.hid (show ∀ (ts' : List TxR) (w6 : World), Below w.heap.size w w6 → OwnT w6 B0 (.slice (some ⟨g, 0, none⟩) N c) ts' → TShort 1048576 ts' → ¬ LogOk z d l x.pos x.seq 0 (tds ts') → ∀ W, Below w6.heap.size w6 W → Calls Tryd.prog 10 #[.agg #[.int .i64 z, .int .i64 d, .int .i64 s, .int .i64 l, .int .i64 a], .agg #[.int .i64 x.gen, .int .i64 x.ep, .int .i64 x.pos, .int .i64 x.seq, .int .i64 x.last, .string x.lab, .slice x.HA x.hs.length x.hc], (.slice (some ⟨g, 0, none⟩) N c)] W fun e w' => e = .returned (.int .i64 1) ∧ Below W.heap.size W w' from fun ts' w6 hb6 ho6 hs6 hn6 W hW => HC.out.check false z d s l a x ⟨some ⟨g, 0, none⟩, c, ts'⟩ N W (bt hb6 hW) HO.out (HX.out.next (bt hb6 hW)) (by omega) ((ownT_at ho6).2.next hW) (ownT_at ho6).1.symm (by omega) hs6 (iff_of_false Bool.false_ne_true fun h => hn6 h.2))
  have hiI := (ownI_in hOr).1
  have k3 : 1 ≤ r.sq ∧ r.sq ≤ 4294967295 := by omega
  have k4 : B0 ≤ w5.heap.size := by omega
  have hjt : j < ts.length := by omega
  clear k1 hNN
  clear HT HK1 HF hh1 hh2 hd0 hb4 hb5 hi h2 he GG FF hb0 c0 c1 c2 c3 c4 c5 c6 g0 g1 g2 g3 g4 l1 hgl
  obtain ⟨g0, g1, g2, g3, g4⟩ := id GG5
  obtain ⟨c0, c1, c2, c3, c4, c5, c6⟩ := id FF5
  have hmk : m = 0 ∨ m = 1 ∨ m = 2 ∨ m = 3 ∨ m = 4 := by omega
  clear hm5
  rcases hmk with hmk | hmk | hmk | hmk | hmk
  · have m0 := HM.out
    rw [hmk] at m0
    have m0 : (IntKind.u64.wrap how).tmod 5 = 0 := m0
    have m1 : (IntKind.u64.wrap how) % 5 = 0 := by rw [← Int.tmod_eq_emod_of_nonneg (wrap_nonneg how)]; exact m0
    have f0 : w5.frozen? ⟨g, j * 4, none⟩ = false := hfz _
    have u1 : IntKind.i64.wrap (r.sq + 1) = r.sq + 1 := IntWalk.i64_in _ (by omega)
    go_upto_region 19 with fail
    have o6 : OwnT (w5.setCell ⟨g, j * 4, none⟩ (.int .i64 (r.sq + 1))) B0 (.slice (some ⟨g, 0, none⟩) N c) (ts.set j { r with sq := r.sq + 1 }) := OwnT.store hO5 hr (show 0 < 4 by decide) rfl hOr
    have d6 : Below B0 w5 (w5.setCell ⟨g, j * 4, none⟩ (.int .i64 (r.sq + 1))) := (Below.refl B0 w5).setCell (p := ⟨g, j * 4, none⟩) hgB _
    have HK2 := Lib.hid (HWY.out (ts.set j { r with sq := r.sq + 1 }) (w5.setCell ⟨g, j * 4, none⟩ (.int .i64 (r.sq + 1))) (hb05.trans (d6.mono (by omega))) o6 (HSH.out.set ⟨s1, s2⟩) (by rw [tds_set]; exact bent_seq hjd hLG (by rw [hdj]; rfl)))
    have GG6 := GG5.keep d6 (by omega)
    have FF6 := FF5.keep d6 (by omega)
    have hb06 := hb05.trans (d6.mono (show w.heap.size ≤ B0 by omega))
    clear g0 g1 g2 g3 g4 c0 c1 c2 c3 c4 c5 c6 o6 d6
    generalize (w5.setCell ⟨g, j * 4, none⟩ (.int .i64 (r.sq + 1))) = w6 at *
    have HWK := Lib.hid (fun W (hW : Below w6.heap.size w6 W) => wk_ring W (HC.out.more (bt hb06 hW)))
    obtain ⟨g0, g1, g2, g3, g4⟩ := id GG6
    obtain ⟨c0, c1, c2, c3, c4, c5, c6⟩ := id FF6
    go_wp2_with (first
      | (go_at_call 10; (with_reducible refine (HK2.out _ (Below.refl _ _)).mono ?_); rintro e w7 ⟨rfl, hb7⟩)
      | (go_at_call 14; (with_reducible refine (HWK.out _ hb7).mono ?_); rintro e w8 ⟨rfl, hb8⟩))
    go_ret
    exact ⟨rfl, bt hb06 (bt hb7 hb8)⟩
  · have m0 := HM.out
    rw [hmk] at m0
    have m0 : (IntKind.u64.wrap how).tmod 5 = 1 := m0
    have m1 : (IntKind.u64.wrap how) % 5 = 1 := by rw [← Int.tmod_eq_emod_of_nonneg (wrap_nonneg how)]; exact m0
    have f0 : w5.frozen? ⟨g, j * 4 + 1, none⟩ = false := hfz _
    have u1 : IntKind.i64.wrap (r.ps + 1) = r.ps + 1 := IntWalk.i64_in _ (by omega)
    have v0 := Int.tmod_nonneg l (show 0 ≤ r.ps + 1 by omega)
    have v1 := Int.tmod_lt_of_pos (r.ps + 1) (show 0 < l by omega)
    have u2 : IntKind.i64.wrap ((r.ps + 1).tmod l) = (r.ps + 1).tmod l := IntWalk.i64_in _ (by omega)
    have u3 : ¬ l = 0 := by omega
    have u4 : (l == 0) = false := beq_eq_false_iff_ne.2 u3
    go_upto_region 14 with fail
    go_still_tail 11, (by kernel_rfl)
    change wpList _ _ _ _ _ w5.drew
    have hD := below_dr (Below.refl w5.heap.size w5)
    replace f0 := (hD.frozen (p := ⟨g, j * 4 + 1, none⟩) l5).trans f0
    replace q1 := kst hD l5 q1
    clear hD g0 g1 g2 g3 g4 c0 c1 c2 c3 c4 c5 c6
    go_upto_region 19 with fail
    have o5 : OwnT (w5.setCell ⟨g, j * 4 + 1, none⟩ (.int .i64 ((r.ps + 1) % l))) B0 (.slice (some ⟨g, 0, none⟩) N c) (ts.set j { r with ps := (r.ps + 1) % l }) := OwnT.store hO5 hr (show 1 < 4 by decide) rfl hOr
    have o6 : OwnT (w5.setCell ⟨g, j * 4 + 1, none⟩ (.int .i64 ((r.ps + 1) % l))).drew B0 (.slice (some ⟨g, 0, none⟩) N c) (ts.set j { r with ps := (r.ps + 1) % l }) := o5.below (below_dr (Below.refl _ _))
    have d6 : Below B0 w5 (w5.setCell ⟨g, j * 4 + 1, none⟩ (.int .i64 ((r.ps + 1) % l))).drew := below_dr ((Below.refl B0 w5).setCell (p := ⟨g, j * 4 + 1, none⟩) hgB _)
    have HK2 := Lib.hid (HWY.out (ts.set j { r with ps := (r.ps + 1) % l }) (w5.setCell ⟨g, j * 4 + 1, none⟩ (.int .i64 ((r.ps + 1) % l))).drew (hb05.trans (d6.mono (by omega))) o6 (HSH.out.set ⟨s1, s2⟩) (by rw [tds_set]; exact bent_pos (by omega) hjd hLG (by rw [hdj]; rfl)))
    have GG6 := GG5.keep d6 (by omega)
    have FF6 := FF5.keep d6 (by omega)
    have hb06 := hb05.trans (d6.mono (show w.heap.size ≤ B0 by omega))
    clear o5 o6 d6
    generalize (w5.setCell ⟨g, j * 4 + 1, none⟩ (.int .i64 ((r.ps + 1) % l))).drew = w6 at *
    have HWK := Lib.hid (fun W (hW : Below w6.heap.size w6 W) => wk_ring W (HC.out.more (bt hb06 hW)))
    obtain ⟨g0, g1, g2, g3, g4⟩ := id GG6
    obtain ⟨c0, c1, c2, c3, c4, c5, c6⟩ := id FF6
    go_wp2_with (first
      | (go_at_call 10; (with_reducible refine (HK2.out _ (Below.refl _ _)).mono ?_); rintro e w7 ⟨rfl, hb7⟩)
      | (go_at_call 14; (with_reducible refine (HWK.out _ hb7).mono ?_); rintro e w8 ⟨rfl, hb8⟩))
    go_ret
    exact ⟨rfl, bt hb06 (bt hb7 hb8)⟩
  · have m0 := HM.out
    rw [hmk] at m0
    have m0 : (IntKind.u64.wrap how).tmod 5 = 2 := m0
    have m1 : (IntKind.u64.wrap how) % 5 = 2 := by rw [← Int.tmod_eq_emod_of_nonneg (wrap_nonneg how)]; exact m0
    have f0 : w5.frozen? ⟨g, j * 4 + 2, none⟩ = false := hfz _
    have u1 : IntKind.i64.wrap (r.nm + 1) = r.nm + 1 := IntWalk.i64_in _ (by omega)
    go_upto_region 19 with fail
    have o6 : OwnT (w5.setCell ⟨g, j * 4 + 2, none⟩ (.int .i64 (r.nm + 1))) B0 (.slice (some ⟨g, 0, none⟩) N c) (ts.set j { r with nm := r.nm + 1 }) := OwnT.store hO5 hr (show 2 < 4 by decide) rfl hOr
    have d6 : Below B0 w5 (w5.setCell ⟨g, j * 4 + 2, none⟩ (.int .i64 (r.nm + 1))) := (Below.refl B0 w5).setCell (p := ⟨g, j * 4 + 2, none⟩) hgB _
    have HK2 := Lib.hid (HWY.out (ts.set j { r with nm := r.nm + 1 }) (w5.setCell ⟨g, j * 4 + 2, none⟩ (.int .i64 (r.nm + 1))) (hb05.trans (d6.mono (by omega))) o6 (HSH.out.set ⟨s1, s2⟩) (by rw [tds_set]; exact bent_num hjd hLG (by rw [hdj]; rfl) (by rw [hdj]; rfl)))
    have GG6 := GG5.keep d6 (by omega)
    have FF6 := FF5.keep d6 (by omega)
    have hb06 := hb05.trans (d6.mono (show w.heap.size ≤ B0 by omega))
    clear g0 g1 g2 g3 g4 c0 c1 c2 c3 c4 c5 c6 o6 d6
    generalize (w5.setCell ⟨g, j * 4 + 2, none⟩ (.int .i64 (r.nm + 1))) = w6 at *
    have HWK := Lib.hid (fun W (hW : Below w6.heap.size w6 W) => wk_ring W (HC.out.more (bt hb06 hW)))
    obtain ⟨g0, g1, g2, g3, g4⟩ := id GG6
    obtain ⟨c0, c1, c2, c3, c4, c5, c6⟩ := id FF6
    go_wp2_with (first
      | (go_at_call 10; (with_reducible refine (HK2.out _ (Below.refl _ _)).mono ?_); rintro e w7 ⟨rfl, hb7⟩)
      | (go_at_call 14; (with_reducible refine (HWK.out _ hb7).mono ?_); rintro e w8 ⟨rfl, hb8⟩))
    go_ret
    exact ⟨rfl, bt hb06 (bt hb7 hb8)⟩
  · have m0 := HM.out
    rw [hmk] at m0
    have m0 : (IntKind.u64.wrap how).tmod 5 = 3 := m0
    have m1 : (IntKind.u64.wrap how) % 5 = 3 := by rw [← Int.tmod_eq_emod_of_nonneg (wrap_nonneg how)]; exact m0
    obtain ⟨b2, hb2, hb2B, hb2l, hf2⟩ := ownI_row hOr (List.length_pos_iff.2 k2.2.2.2)
    obtain ⟨q9, t9, e9⟩ := List.exists_cons_of_ne_nil k2.2.2.2
    have p0 : w5.cell? ⟨b2, 0, none⟩ = some (.int .i64 q9.z) := by
      obtain ⟨b8, o8, hA8, -, hc8⟩ := hiI (by rw [ivs_length]; have := List.length_pos_iff.2 k2.2.2.2; omega)
      rw [hb2] at hA8
      simp only [Option.some.injEq, Addr.mk.injEq, and_true] at hA8
      obtain ⟨rfl, rfl⟩ := hA8
      have h8 := hc8 0 (by rw [ivs_length]; have := List.length_pos_iff.2 k2.2.2.2; omega)
      rw [h8]
      simp only [e9]
      rfl
    have f0 : w5.frozen? ⟨b2, 0, none⟩ = false := hf2 0
    have u1 : (0 : Int) < (r.rs.length : Int) := by have := List.length_pos_iff.2 k2.2.2.2; omega
    rw [hb2] at q3
    go_upto_region 18 with fail
    go_still_tail 8, (by kernel_rfl)
    change wpList _ _ _ _ _ w5.drew
    have hD := below_dr (Below.refl w5.heap.size w5)
    replace f0 := (hD.frozen (p := ⟨b2, 0, none⟩) hb2l).trans f0
    replace p0 := kst hD hb2l p0
    clear hD g0 g1 g2 g3 g4 c0 c1 c2 c3 c4 c5 c6
    go_upto_region 19 with fail
    have o5 : OwnT (w5.setCell ⟨b2, 0, none⟩ (.int .i64 z)) B0 (.slice (some ⟨g, 0, none⟩) N c) (ts.map (TxR.zs z b2)) := OwnT.zone hO5 hrm hb2
    have o6 : OwnT (w5.setCell ⟨b2, 0, none⟩ (.int .i64 z)).drew B0 (.slice (some ⟨g, 0, none⟩) N c) (ts.map (TxR.zs z b2)) := o5.below (below_dr (Below.refl _ _))
    have d6 : Below B0 w5 (w5.setCell ⟨b2, 0, none⟩ (.int .i64 z)).drew := below_dr ((Below.refl B0 w5).setCell (p := ⟨b2, 0, none⟩) hb2B _)
    have HK2 := Lib.hid (HWY.out (ts.map (TxR.zs z b2)) (w5.setCell ⟨b2, 0, none⟩ (.int .i64 z)).drew (hb05.trans (d6.mono (by omega))) o6 HSH.out.zone (zone_none hrm hb2 k2.2.2.2))
    have GG6 := GG5.keep d6 (by omega)
    have FF6 := FF5.keep d6 (by omega)
    have hb06 := hb05.trans (d6.mono (show w.heap.size ≤ B0 by omega))
    clear o5 o6 d6
    generalize (w5.setCell ⟨b2, 0, none⟩ (.int .i64 z)).drew = w6 at *
    have HWK := Lib.hid (fun W (hW : Below w6.heap.size w6 W) => wk_ring W (HC.out.more (bt hb06 hW)))
    obtain ⟨g0, g1, g2, g3, g4⟩ := id GG6
    obtain ⟨c0, c1, c2, c3, c4, c5, c6⟩ := id FF6
    go_wp2_with (first
      | (go_at_call 10; (with_reducible refine (HK2.out _ (Below.refl _ _)).mono ?_); rintro e w7 ⟨rfl, hb7⟩)
      | (go_at_call 14; (with_reducible refine (HWK.out _ hb7).mono ?_); rintro e w8 ⟨rfl, hb8⟩))
    go_ret
    exact ⟨rfl, bt hb06 (bt hb7 hb8)⟩
  · have m0 := HM.out
    rw [hmk] at m0
    have m0 : (IntKind.u64.wrap how).tmod 5 = 4 := m0
    have m1 : (IntKind.u64.wrap how) % 5 = 4 := by rw [← Int.tmod_eq_emod_of_nonneg (wrap_nonneg how)]; exact m0
    have f3 : w5.frozen? ⟨g, j * 4 + 3, none⟩ = false := hfz _
    have f2 : w5.frozen? ⟨g, j * 4 + 2, none⟩ = false := hfz _
    have o5 : OwnT (w5.setCell ⟨g, j * 4 + 3, none⟩ (.slice none 0 0)) B0 (.slice (some ⟨g, 0, none⟩) N c) (ts.set j { r with A := none, c := 0, rs := [] }) := OwnT.store hO5 hr (show 3 < 4 by decide) rfl ⟨World.ownsRow_nil _ _ _ 3, fun x hx => by cases hx⟩
    have o6 : OwnT ((w5.setCell ⟨g, j * 4 + 3, none⟩ (.slice none 0 0)).setCell ⟨g, j * 4 + 2, none⟩ (.int .i64 1)) B0 (.slice (some ⟨g, 0, none⟩) N c) ((ts.set j { r with A := none, c := 0, rs := [] }).set j { r with A := none, c := 0, rs := [], nm := 1 }) := OwnT.store o5 (List.getElem?_set_self hjt) (show 2 < 4 by decide) rfl ⟨World.ownsRow_nil _ _ _ 3, fun x hx => by cases hx⟩
    go_upto_region 19 with fail
    have d6 : Below B0 w5 ((w5.setCell ⟨g, j * 4 + 3, none⟩ (.slice none 0 0)).setCell ⟨g, j * 4 + 2, none⟩ (.int .i64 1)) := ((Below.refl B0 w5).setCell (p := ⟨g, j * 4 + 3, none⟩) hgB _).setCell (p := ⟨g, j * 4 + 2, none⟩) hgB _
    have HK2 := Lib.hid (HWY.out ((ts.set j { r with A := none, c := 0, rs := [] }).set j { r with A := none, c := 0, rs := [], nm := 1 }) ((w5.setCell ⟨g, j * 4 + 3, none⟩ (.slice none 0 0)).setCell ⟨g, j * 4 + 2, none⟩ (.int .i64 1)) (hb05.trans (d6.mono (by omega))) o6 ((HSH.out.set ⟨Nat.zero_le _, fun x hx => by cases hx⟩).set ⟨Nat.zero_le _, fun x hx => by cases hx⟩) (by rw [List.set_set, tds_set]; exact bent_none hjd hLG rfl))
    have GG6 := GG5.keep d6 (by omega)
    have FF6 := FF5.keep d6 (by omega)
    have hb06 := hb05.trans (d6.mono (show w.heap.size ≤ B0 by omega))
    clear g0 g1 g2 g3 g4 c0 c1 c2 c3 c4 c5 c6 o6 d6
    generalize ((w5.setCell ⟨g, j * 4 + 3, none⟩ (.slice none 0 0)).setCell ⟨g, j * 4 + 2, none⟩ (.int .i64 1)) = w6 at *
    have HWK := Lib.hid (fun W (hW : Below w6.heap.size w6 W) => wk_ring W (HC.out.more (bt hb06 hW)))
    obtain ⟨g0, g1, g2, g3, g4⟩ := id GG6
    obtain ⟨c0, c1, c2, c3, c4, c5, c6⟩ := id FF6
    go_wp2_with (first
      | (go_at_call 10; (with_reducible refine (HK2.out _ (Below.refl _ _)).mono ?_); rintro e w7 ⟨rfl, hb7⟩)
      | (go_at_call 14; (with_reducible refine (HWK.out _ hb7).mono ?_); rintro e w8 ⟨rfl, hb8⟩))
    go_ret
    exact ⟨rfl, bt hb06 (bt hb7 hb8)⟩
end Go.Proofs.YtalmimmcfjolkaaDoor.rng
