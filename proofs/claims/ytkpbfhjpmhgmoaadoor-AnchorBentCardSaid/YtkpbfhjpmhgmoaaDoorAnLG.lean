/-
  The law AnchorBent: a right anchor with one thing bent is none. Conditions: 'ValidOk', 'CloneOk', 'Tabs'.
-/
import Derived.Test.YtkpbfhjpmhgmoaaDoorAnW
import Derived.Test.YtkpbfhjpmhgmoaaDoorAnSet
import Derived.Test.YtkpbfhjpmhgmoaaDoorKeep
import Derived.Deep.QuietTactic
import Derived.Deep.RegionHeld3
import Derived.BigQuiet
import Derived.StillTailTactics
import Derived.IntWalk
namespace Go.Proofs.YtkpbfhjpmhgmoaaDoor.anc
open Go.RowKit Go.Lib
open Go.Proofs.YtkpbfhjpmhgmoaaDoor.gmt (Ok five_new rgeo_at)
open Go.Proofs.YtkpbfhjpmhgmoaaDoor.lbl (encL readL labE lab_len ValidOk CloneOk Tabs)

theorem bad_home {z d s l : Int} {y : AV} {j : Nat} {r : HomR} (hj : j < y.hs.length) (h : Good z d s l (AV.d { y with hs := y.hs.set j r })) : HomeOk d s r.d :=
  h.2.2.2.2.2.2.2.2 r.d (List.mem_map_of_mem (f := HomR.d) (List.mem_of_getElem? (i := j) (by rw [List.getElem?_set_self hj])))
theorem two_more {d : Int} {l : List Int} (h : (l.length : Int) = d + 1) (hd : 1 ≤ d) : ∃ p q t, l = p :: q :: t := by
  rcases l with _ | ⟨p, _ | ⟨q, t⟩⟩
  · simp at h; omega
  · simp at h; omega
  · exact ⟨p, q, t, rfl⟩

set_option maxRecDepth 100000 in
set_option maxHeartbeats 8000000 in
theorem bent_heavy (z d s l a : Int) (x : AV) (zz how : Int) (w : World) (hx : x.In w w.heap.size) (hh : HeavyA x.d) :
    Calls Tryd.prog 6 #[.agg #[.int .i64 z, .int .i64 d, .int .i64 s, .int .i64 l, .int .i64 a], x.v, .int .i64 zz, .int .i64 how] w fun e w' => e = .returned (.bool true) ∧ Below w.heap.size w w' := by
  have cH := fun W (hW : Below w.heap.size w W) => heavy_any true x W (hx.next hW) (iff_of_true rfl hh)
  unfold AV.v
  have GG := (g5_new w z d s l a).keep (bl (w.alloc (.cells #[.int .i64 z, .int .i64 d, .int .i64 s, .int .i64 l, .int .i64 a] 23)) (.cells #[.int .i64 x.gen, .int .i64 x.ep, .int .i64 x.pos, .int .i64 x.seq, .int .i64 x.last, .string x.lab, .slice x.HA x.hs.length x.hc] 26)) (by simp)
  have FF := ac_new (w.alloc (.cells #[.int .i64 z, .int .i64 d, .int .i64 s, .int .i64 l, .int .i64 a] 23)) x
  have hb0 := kal (bl w (.cells #[.int .i64 z, .int .i64 d, .int .i64 s, .int .i64 l, .int .i64 a] 23)) (.cells #[.int .i64 x.gen, .int .i64 x.ep, .int .i64 x.pos, .int .i64 x.seq, .int .i64 x.last, .string x.lab, .slice x.HA x.hs.length x.hc] 26)
  rw [show (w.alloc (.cells #[.int .i64 z, .int .i64 d, .int .i64 s, .int .i64 l, .int .i64 a] 23)).heap.size = w.heap.size + 1 by simp] at FF
  have l1 : w.heap.size + 1 < ((w.alloc (.cells #[.int .i64 z, .int .i64 d, .int .i64 s, .int .i64 l, .int .i64 a] 23)).alloc (.cells #[.int .i64 x.gen, .int .i64 x.ep, .int .i64 x.pos, .int .i64 x.seq, .int .i64 x.last, .string x.lab, .slice x.HA x.hs.length x.hc] 26)).heap.size := by simp
  unfold AV.v at cH
  clear hx hh
  go_enter Tryd.func6, Tryd.ntmps6
  go_upto_region 1 with fail
  generalize (w.alloc (.cells #[.int .i64 z, .int .i64 d, .int .i64 s, .int .i64 l, .int .i64 a] 23)).alloc (.cells #[.int .i64 x.gen, .int .i64 x.ep, .int .i64 x.pos, .int .i64 x.seq, .int .i64 x.last, .string x.lab, .slice x.HA x.hs.length x.hc] 26) = w0 at *
  obtain ⟨c0, c1, c2, c3, c4, c5, c6⟩ := id FF
  obtain ⟨g0, g1, g2, g3, g4⟩ := id GG
  go_wp2_with (first
    | (go_at_call 9; (with_reducible refine (cH _ hb0).mono ?_); rintro e wq ⟨rfl, hbq⟩; replace FF := FF.keep hbq (by omega); replace GG := GG.keep hbq (by omega); replace l1 := Nat.lt_of_lt_of_le l1 hbq.size; clear c0 c1 c2 c3 c4 c5 c6 g0 g1 g2 g3 g4; obtain ⟨c0, c1, c2, c3, c4, c5, c6⟩ := id FF; obtain ⟨g0, g1, g2, g3, g4⟩ := id GG; replace hb0 := bt hb0 hbq; clear hbq))
  go_ret
  exact ⟨rfl, hb0⟩
set_option maxRecDepth 100000 in
set_option maxHeartbeats 8000000 in
theorem bent_geo (z d s l a : Int) (x : AV) (zz how : Int) (w : World) (hx : x.In w w.heap.size) (hh : ¬ HeavyA x.d) (ho : ¬ Ok z d s l a) :
    Calls Tryd.prog 6 #[.agg #[.int .i64 z, .int .i64 d, .int .i64 s, .int .i64 l, .int .i64 a], x.v, .int .i64 zz, .int .i64 how] w fun e w' => e = .returned (.bool true) ∧ Below w.heap.size w w' := by
  have cH := fun W (hW : Below w.heap.size w W) => heavy_any false x W (hx.next hW) (iff_of_false Bool.false_ne_true hh)
  have cG := fun W => rgeo_at false z d s l a W (iff_of_false Bool.false_ne_true ho)
  unfold AV.v
  have GG := (g5_new w z d s l a).keep (bl (w.alloc (.cells #[.int .i64 z, .int .i64 d, .int .i64 s, .int .i64 l, .int .i64 a] 23)) (.cells #[.int .i64 x.gen, .int .i64 x.ep, .int .i64 x.pos, .int .i64 x.seq, .int .i64 x.last, .string x.lab, .slice x.HA x.hs.length x.hc] 26)) (by simp)
  have FF := ac_new (w.alloc (.cells #[.int .i64 z, .int .i64 d, .int .i64 s, .int .i64 l, .int .i64 a] 23)) x
  have hb0 := kal (bl w (.cells #[.int .i64 z, .int .i64 d, .int .i64 s, .int .i64 l, .int .i64 a] 23)) (.cells #[.int .i64 x.gen, .int .i64 x.ep, .int .i64 x.pos, .int .i64 x.seq, .int .i64 x.last, .string x.lab, .slice x.HA x.hs.length x.hc] 26)
  rw [show (w.alloc (.cells #[.int .i64 z, .int .i64 d, .int .i64 s, .int .i64 l, .int .i64 a] 23)).heap.size = w.heap.size + 1 by simp] at FF
  have l1 : w.heap.size + 1 < ((w.alloc (.cells #[.int .i64 z, .int .i64 d, .int .i64 s, .int .i64 l, .int .i64 a] 23)).alloc (.cells #[.int .i64 x.gen, .int .i64 x.ep, .int .i64 x.pos, .int .i64 x.seq, .int .i64 x.last, .string x.lab, .slice x.HA x.hs.length x.hc] 26)).heap.size := by simp
  unfold AV.v at cH
  clear hx hh ho
  go_enter Tryd.func6, Tryd.ntmps6
  go_upto_region 1 with fail
  generalize (w.alloc (.cells #[.int .i64 z, .int .i64 d, .int .i64 s, .int .i64 l, .int .i64 a] 23)).alloc (.cells #[.int .i64 x.gen, .int .i64 x.ep, .int .i64 x.pos, .int .i64 x.seq, .int .i64 x.last, .string x.lab, .slice x.HA x.hs.length x.hc] 26) = w0 at *
  obtain ⟨c0, c1, c2, c3, c4, c5, c6⟩ := id FF
  obtain ⟨g0, g1, g2, g3, g4⟩ := id GG
  go_wp2_with (first
    | (go_at_call 9; (with_reducible refine (cH _ hb0).mono ?_); rintro e wq ⟨rfl, hbq⟩; replace FF := FF.keep hbq (by omega); replace GG := GG.keep hbq (by omega); replace l1 := Nat.lt_of_lt_of_le l1 hbq.size; clear c0 c1 c2 c3 c4 c5 c6 g0 g1 g2 g3 g4; obtain ⟨c0, c1, c2, c3, c4, c5, c6⟩ := id FF; obtain ⟨g0, g1, g2, g3, g4⟩ := id GG; replace hb0 := bt hb0 hbq; clear hbq)
    | (go_at_call 14; (with_reducible refine (cG _).mono ?_); rintro e wq ⟨rfl, hbq⟩; replace FF := FF.keep hbq (by omega); replace GG := GG.keep hbq (by omega); replace l1 := Nat.lt_of_lt_of_le l1 hbq.size; clear c0 c1 c2 c3 c4 c5 c6 g0 g1 g2 g3 g4; obtain ⟨c0, c1, c2, c3, c4, c5, c6⟩ := id FF; obtain ⟨g0, g1, g2, g3, g4⟩ := id GG; replace hb0 := bt hb0 hbq; clear hbq))
  go_ret
  exact ⟨rfl, hb0⟩
set_option maxRecDepth 100000 in
set_option maxHeartbeats 8000000 in
theorem bent_bad (z d s l a : Int) (x : AV) (zz how : Int) (w : World) (hx : x.In w w.heap.size) (hh : ¬ HeavyA x.d) (ho : Ok z d s l a) (hg : ¬ Good z d s l x.d) :
    Calls Tryd.prog 6 #[.agg #[.int .i64 z, .int .i64 d, .int .i64 s, .int .i64 l, .int .i64 a], x.v, .int .i64 zz, .int .i64 how] w fun e w' => e = .returned (.bool true) ∧ Below w.heap.size w w' := by
  obtain ⟨t1, t2, t3⟩ := light hh
  have cH := fun W (hW : Below w.heap.size w W) => heavy_any false x W (hx.next hW) (iff_of_false Bool.false_ne_true hh)
  have cG := fun W => rgeo_at true z d s l a W (iff_of_true rfl ho)
  have cR := fun W (hW : Below w.heap.size w W) => right_p z d s l a false x W ho (hx.next hW) (by omega) (fun r hr => by have := t3 r hr; omega) (by omega) (iff_of_false Bool.false_ne_true hg)
  unfold AV.v
  have GG := (g5_new w z d s l a).keep (bl (w.alloc (.cells #[.int .i64 z, .int .i64 d, .int .i64 s, .int .i64 l, .int .i64 a] 23)) (.cells #[.int .i64 x.gen, .int .i64 x.ep, .int .i64 x.pos, .int .i64 x.seq, .int .i64 x.last, .string x.lab, .slice x.HA x.hs.length x.hc] 26)) (by simp)
  have FF := ac_new (w.alloc (.cells #[.int .i64 z, .int .i64 d, .int .i64 s, .int .i64 l, .int .i64 a] 23)) x
  have hb0 := kal (bl w (.cells #[.int .i64 z, .int .i64 d, .int .i64 s, .int .i64 l, .int .i64 a] 23)) (.cells #[.int .i64 x.gen, .int .i64 x.ep, .int .i64 x.pos, .int .i64 x.seq, .int .i64 x.last, .string x.lab, .slice x.HA x.hs.length x.hc] 26)
  rw [show (w.alloc (.cells #[.int .i64 z, .int .i64 d, .int .i64 s, .int .i64 l, .int .i64 a] 23)).heap.size = w.heap.size + 1 by simp] at FF
  have l1 : w.heap.size + 1 < ((w.alloc (.cells #[.int .i64 z, .int .i64 d, .int .i64 s, .int .i64 l, .int .i64 a] 23)).alloc (.cells #[.int .i64 x.gen, .int .i64 x.ep, .int .i64 x.pos, .int .i64 x.seq, .int .i64 x.last, .string x.lab, .slice x.HA x.hs.length x.hc] 26)).heap.size := by simp
  unfold AV.v at cH cR
  clear hx hh ho hg t1 t2 t3
  go_enter Tryd.func6, Tryd.ntmps6
  go_upto_region 1 with fail
  generalize (w.alloc (.cells #[.int .i64 z, .int .i64 d, .int .i64 s, .int .i64 l, .int .i64 a] 23)).alloc (.cells #[.int .i64 x.gen, .int .i64 x.ep, .int .i64 x.pos, .int .i64 x.seq, .int .i64 x.last, .string x.lab, .slice x.HA x.hs.length x.hc] 26) = w0 at *
  obtain ⟨c0, c1, c2, c3, c4, c5, c6⟩ := id FF
  obtain ⟨g0, g1, g2, g3, g4⟩ := id GG
  go_wp2_with (first
    | (go_at_call 9; (with_reducible refine (cH _ hb0).mono ?_); rintro e wq ⟨rfl, hbq⟩; replace FF := FF.keep hbq (by omega); replace GG := GG.keep hbq (by omega); replace l1 := Nat.lt_of_lt_of_le l1 hbq.size; clear c0 c1 c2 c3 c4 c5 c6 g0 g1 g2 g3 g4; obtain ⟨c0, c1, c2, c3, c4, c5, c6⟩ := id FF; obtain ⟨g0, g1, g2, g3, g4⟩ := id GG; replace hb0 := bt hb0 hbq; clear hbq)
    | (go_at_call 14; (with_reducible refine (cG _).mono ?_); rintro e wq ⟨rfl, hbq⟩; replace FF := FF.keep hbq (by omega); replace GG := GG.keep hbq (by omega); replace l1 := Nat.lt_of_lt_of_le l1 hbq.size; clear c0 c1 c2 c3 c4 c5 c6 g0 g1 g2 g3 g4; obtain ⟨c0, c1, c2, c3, c4, c5, c6⟩ := id FF; obtain ⟨g0, g1, g2, g3, g4⟩ := id GG; replace hb0 := bt hb0 hbq; clear hbq)
    | (go_at_call 21; (with_reducible refine (cR _ hb0).mono ?_); rintro e wq ⟨rfl, hbq⟩; replace FF := FF.keep hbq (by omega); replace GG := GG.keep hbq (by omega); replace l1 := Nat.lt_of_lt_of_le l1 hbq.size; clear c0 c1 c2 c3 c4 c5 c6 g0 g1 g2 g3 g4; obtain ⟨c0, c1, c2, c3, c4, c5, c6⟩ := id FF; obtain ⟨g0, g1, g2, g3, g4⟩ := id GG; replace hb0 := bt hb0 hbq; clear hbq))
  go_ret
  exact ⟨rfl, hb0⟩
set_option maxRecDepth 100000 in
set_option maxHeartbeats 8000000 in
theorem bent_3 (hV : ValidOk) (hC : CloneOk) (j : Nat) (z d s l a : Int) (x : AV) (zz how : Int) (w : World) (hT : Tabs w) (hx : x.In w w.heap.size) (hh : ¬ HeavyA x.d) (ho : Ok z d s l a) (hg : Good z d s l x.d) (hjn : j < x.hs.length) (hj : (IntKind.u64.wrap zz).tmod (x.hs.length : Int) = (j : Int)) (hm : (IntKind.u64.wrap how).tmod 7 = 3) :
    Calls Tryd.prog 6 #[.agg #[.int .i64 z, .int .i64 d, .int .i64 s, .int .i64 l, .int .i64 a], x.v, .int .i64 zz, .int .i64 how] w fun e w' => e = .returned (.bool true) ∧ Below w.heap.size w w' := by
  obtain ⟨t1, t2, t3⟩ := light hh
  have HT := Lib.hid hT
  have cH := fun W (hW : Below w.heap.size w W) => heavy_any false x W (hx.next hW) (iff_of_false Bool.false_ne_true hh)
  have cG := fun W => rgeo_at true z d s l a W (iff_of_true rfl ho)
  have cR := fun W (hW : Below w.heap.size w W) => right_p z d s l a true x W ho (hx.next hW) (by omega) (fun r hr => by have := t3 r hr; omega) (by omega) (iff_of_true rfl hg)
  have cT := fun W (hW : Below w.heap.size w W) => twin_parted x W (hx.next hW) (by omega) (fun r hr => by have := t3 r hr; omega)
  have HK := Lib.hid (show ∀ W, Below w.heap.size w W → Calls Tryd.prog 15 #[.agg #[.int .i64 z, .int .i64 d, .int .i64 s, .int .i64 l, .int .i64 a], x.v] W fun e w' => e = .returned (.int .i64 0) ∧ Below W.heap.size W w' from fun W hW => check_p hV z d s l a true x W (tn HT.out hW) ho (hx.next hW) (by omega) (iff_of_true rfl hg))
  have HG := Lib.hid hg
  have HO := Lib.hid ho
  have HJ := Lib.hid hj
  have HM := Lib.hid hm
  unfold AV.v
  have GG := (g5_new w z d s l a).keep (bl (w.alloc (.cells #[.int .i64 z, .int .i64 d, .int .i64 s, .int .i64 l, .int .i64 a] 23)) (.cells #[.int .i64 x.gen, .int .i64 x.ep, .int .i64 x.pos, .int .i64 x.seq, .int .i64 x.last, .string x.lab, .slice x.HA x.hs.length x.hc] 26)) (by simp)
  have FF := ac_new (w.alloc (.cells #[.int .i64 z, .int .i64 d, .int .i64 s, .int .i64 l, .int .i64 a] 23)) x
  have hb0 := kal (bl w (.cells #[.int .i64 z, .int .i64 d, .int .i64 s, .int .i64 l, .int .i64 a] 23)) (.cells #[.int .i64 x.gen, .int .i64 x.ep, .int .i64 x.pos, .int .i64 x.seq, .int .i64 x.last, .string x.lab, .slice x.HA x.hs.length x.hc] 26)
  rw [show (w.alloc (.cells #[.int .i64 z, .int .i64 d, .int .i64 s, .int .i64 l, .int .i64 a] 23)).heap.size = w.heap.size + 1 by simp] at FF
  have l1 : w.heap.size + 1 < ((w.alloc (.cells #[.int .i64 z, .int .i64 d, .int .i64 s, .int .i64 l, .int .i64 a] 23)).alloc (.cells #[.int .i64 x.gen, .int .i64 x.ep, .int .i64 x.pos, .int .i64 x.seq, .int .i64 x.last, .string x.lab, .slice x.HA x.hs.length x.hc] 26)).heap.size := by simp
  unfold AV.v at cH cR cT HK
  clear hx hh ho hg t3 hT hj hm
  go_enter Tryd.func6, Tryd.ntmps6
  go_upto_region 1 with fail
  generalize (w.alloc (.cells #[.int .i64 z, .int .i64 d, .int .i64 s, .int .i64 l, .int .i64 a] 23)).alloc (.cells #[.int .i64 x.gen, .int .i64 x.ep, .int .i64 x.pos, .int .i64 x.seq, .int .i64 x.last, .string x.lab, .slice x.HA x.hs.length x.hc] 26) = w0 at *
  obtain ⟨c0, c1, c2, c3, c4, c5, c6⟩ := id FF
  obtain ⟨g0, g1, g2, g3, g4⟩ := id GG
  go_upto_region 4 with (first
    | (go_at_call 9; (with_reducible refine (cH _ hb0).mono ?_); rintro e wq ⟨rfl, hbq⟩; replace FF := FF.keep hbq (by omega); replace GG := GG.keep hbq (by omega); replace l1 := Nat.lt_of_lt_of_le l1 hbq.size; clear c0 c1 c2 c3 c4 c5 c6 g0 g1 g2 g3 g4; obtain ⟨c0, c1, c2, c3, c4, c5, c6⟩ := id FF; obtain ⟨g0, g1, g2, g3, g4⟩ := id GG; replace hb0 := bt hb0 hbq; clear hbq)
    | (go_at_call 14; (with_reducible refine (cG _).mono ?_); rintro e wq ⟨rfl, hbq⟩; replace FF := FF.keep hbq (by omega); replace GG := GG.keep hbq (by omega); replace l1 := Nat.lt_of_lt_of_le l1 hbq.size; clear c0 c1 c2 c3 c4 c5 c6 g0 g1 g2 g3 g4; obtain ⟨c0, c1, c2, c3, c4, c5, c6⟩ := id FF; obtain ⟨g0, g1, g2, g3, g4⟩ := id GG; replace hb0 := bt hb0 hbq; clear hbq)
    | (go_at_call 21; (with_reducible refine (cR _ hb0).mono ?_); rintro e wq ⟨rfl, hbq⟩; replace FF := FF.keep hbq (by omega); replace GG := GG.keep hbq (by omega); replace l1 := Nat.lt_of_lt_of_le l1 hbq.size; clear c0 c1 c2 c3 c4 c5 c6 g0 g1 g2 g3 g4; obtain ⟨c0, c1, c2, c3, c4, c5, c6⟩ := id FF; obtain ⟨g0, g1, g2, g3, g4⟩ := id GG; replace hb0 := bt hb0 hbq; clear hbq)
    | (go_at_call 10; (with_reducible refine (cT _ hb0).mono ?_); rintro e wT ⟨⟨y, rfl, hyd, hyo, hyp⟩, hbq⟩; have hbase := l1; replace FF := FF.keep hbq (by omega); replace GG := GG.keep hbq (by omega); replace l1 := Nat.lt_of_lt_of_le l1 hbq.size; clear c0 c1 c2 c3 c4 c5 c6 g0 g1 g2 g3 g4; obtain ⟨c0, c1, c2, c3, c4, c5, c6⟩ := id FF; obtain ⟨g0, g1, g2, g3, g4⟩ := id GG; replace hb0 := bt hb0 hbq; clear hbq))
  have hln : y.hs.length = x.hs.length := by
    have := congrArg (fun u => u.hs.length) hyd
    exact (hds_length y.hs).symm.trans (this.trans (hds_length x.hs))
  have hjy : j < y.hs.length := by omega
  obtain ⟨r, hr⟩ : ∃ r, y.hs[j]? = some r := ⟨_, List.getElem?_eq_getElem hjy⟩
  have hro : HomeOk d s r.d := HG.out.2.2.2.2.2.2.2.2 r.d (by rw [← hyd]; exact List.mem_map_of_mem (List.mem_of_getElem? hr))
  obtain ⟨b, hHA, hbT, hbB⟩ := hyo.tab (by omega)
  have hyin := AV.Own.inn hyo
  obtain ⟨gp, hgp, -, hgT, hgB⟩ := hyo.row hr (by have := hro.1; have := HO.out.2.1; have e : r.d.ps.length = r.ps.length := rfl; omega)
  have hx6 := bl wT (.cells #[.int .i64 y.gen, .int .i64 y.ep, .int .i64 y.pos, .int .i64 y.seq, .int .i64 y.last, .string y.lab, .slice y.HA y.hs.length y.hc] 26)
  have FY := sev_new wT (.int .i64 y.gen) (.int .i64 y.ep) (.int .i64 y.pos) (.int .i64 y.seq) (.int .i64 y.last) (.string y.lab) (.slice y.HA y.hs.length y.hc) 26
  have lY : wT.heap.size < (wT.alloc (.cells #[.int .i64 y.gen, .int .i64 y.ep, .int .i64 y.pos, .int .i64 y.seq, .int .i64 y.last, .string y.lab, .slice y.HA y.hs.length y.hc] 26)).heap.size := by simp
  have hyo2 := OwnH.below hyo hx6
  replace FF := FF.keep hx6 l1
  replace GG := GG.keep hx6 (by omega)
  replace hb0 := bt hb0 hx6
  obtain ⟨gy, hgy⟩ : ∃ g, g = wT.heap.size := ⟨_, rfl⟩
  rw [← hgy] at FY lY hbT hgT hx6 hyin ⊢
  replace l1 : w.heap.size + 1 < gy := by omega
  have hyin4 := hyin.below hx6
  clear c0 c1 c2 c3 c4 c5 c6 g0 g1 g2 g3 g4 hx6 hgy hyo hyin cH cR cT cG
  generalize wT.alloc (.cells #[.int .i64 y.gen, .int .i64 y.ep, .int .i64 y.pos, .int .i64 y.seq, .int .i64 y.last, .string y.lab, .slice y.HA y.hs.length y.hc] 26) = w4 at *
  rw [hHA, hln] at FY
  have HYD := Lib.hid hyd
  have HYO := Lib.hid hyo2
  have HYP := Lib.hid hyp
  have HIN := Lib.hid hyin4
  have HR := Lib.hid hr
  have HRO := Lib.hid hro
  have HHA := Lib.hid hHA
  have HGP := Lib.hid hgp
  have HLN := Lib.hid hln
  obtain ⟨c0, c1, c2, c3, c4, c5, c6⟩ := id FF
  obtain ⟨g0, g1, g2, g3, g4⟩ := id GG
  obtain ⟨y0, y1, y2, y3, y4, y5, y6, -, -, -, -, -, -, -⟩ := id FY
  have hxb : x.hs.length ≤ 1048576 := by omega
  have n0 : ¬ (x.hs.length : Int) = 0 := by omega
  have n1 : ((x.hs.length : Int) == 0) = false := beq_eq_false_iff_ne.2 n0
  have n2 : (0 : Int) ≤ (j : Int) := by omega
  have n3 : (j : Int) < (x.hs.length : Int) := by omega
  have n4 : IntKind.u64.wrap (x.hs.length : Int) = (x.hs.length : Int) := IntWalk.u64_in _ (by omega)
  have n5 : IntKind.i64.wrap (j : Int) = (j : Int) := IntWalk.i64_in _ (by omega)
  have n6 := HJ.out
  clear hyin4 hyd hyo2 hyp hr hro hHA hgp hln hjy
  go_quiet (fail)
  have hbN := below_dn (Below.refl w4.heap.size w4) nq
  have HYO : Hid (AV.Own _ _ y) := Lib.hid (OwnH.below HYO.out hbN)
  have HIN := Lib.hid (HIN.out.below (hbN.mono (Nat.le_of_lt lY)))
  replace FF := FF.keep hbN (by omega)
  replace GG := GG.keep hbN (by omega)
  replace FY := FY.keep hbN lY
  replace lY := Nat.lt_of_lt_of_le lY hbN.size
  replace hb0 := bt hb0 hbN
  clear c0 c1 c2 c3 c4 c5 c6 g0 g1 g2 g3 g4 y0 y1 y2 y3 y4 y5 y6 n1 n4 n5 n6 hbN
  generalize w4.drewN nq = w5 at *
  have m0 := HM.out
  have m1 : (IntKind.u64.wrap how) % 7 = 3 := by rw [← Int.tmod_eq_emod_of_nonneg (wrap_nonneg how)]; exact m0
  obtain ⟨g0, g1, g2, g3, g4⟩ := id GG
  obtain ⟨-, -, -, -, -, -, -, f0, f1, f2, f3, f4, f5, f6⟩ := id FY
  obtain ⟨y0, y1, y2, y3, y4, y5, y6, -, -, -, -, -, -, -⟩ := id FY
  go_upto_region 19 with fail
  have hB6 : Below gy w5 (w5.setCell ⟨gy, 2, none⟩ (.int .i64 l)) := (Below.refl gy w5).setCell (p := ⟨gy, 2, none⟩) (Nat.le_refl _) (.int .i64 l)
  have FY6 := (FY.set2 (.int .i64 l))
  have lY6 : gy < ((w5.setCell ⟨gy, 2, none⟩ (.int .i64 l))).heap.size := by simpa using lY
  have HI := Lib.hid (show AV.In (w5.setCell ⟨gy, 2, none⟩ (.int .i64 l)) ((w5.setCell ⟨gy, 2, none⟩ (.int .i64 l))).heap.size ({ y with pos := l }) from (AV.In.more (a := { y with pos := l }) ⟨(HIN.out.below hB6).hh, (HIN.out.below hB6).hi, HIN.out.hl⟩ (Nat.le_of_lt lY6)))
  replace FF := FF.keep hB6 (by omega)
  replace GG := GG.keep hB6 (by omega)
  replace hb0 := hb0.trans (hB6.mono (by omega))
  clear g0 g1 g2 g3 g4 y0 y1 y2 y3 y4 y5 y6 f0 f1 f2 f3 f4 f5 f6 FY lY hB6
  generalize (w5.setCell ⟨gy, 2, none⟩ (.int .i64 l)) = w6 at *
  have FY := FY6
  have lY := lY6
  clear FY6 lY6
  have HBAD := Lib.hid (show ¬ Good z d s l (AV.d ({ y with pos := l })) from fun h => by have h1 : l ≤ l - 1 := h.2.2.2.2.2.1.2; omega)
  have hv : AV.v ({ y with pos := l }) = .agg #[.int .i64 y.gen, .int .i64 y.ep, .int .i64 l, .int .i64 y.seq, .int .i64 y.last, .string y.lab, .slice (some ⟨b, 0, none⟩) x.hs.length y.hc] := by unfold AV.v; dsimp only; rw [HHA.out, HLN.out]
  have hlab : y.lab.size ≤ 4294967296 := by
    have e : y.lab = x.lab := congrArg Anc.lab HYD.out
    rw [e]
    omega
  have HB2 := Lib.hid (show ∀ W, Below w6.heap.size w6 W → Calls Tryd.prog 12 #[.agg #[.int .i64 z, .int .i64 d, .int .i64 s, .int .i64 l, .int .i64 a], .agg #[.int .i64 y.gen, .int .i64 y.ep, .int .i64 l, .int .i64 y.seq, .int .i64 y.last, .string y.lab, .slice (some ⟨b, 0, none⟩) x.hs.length y.hc]] W fun e w' => e = .returned (.tuple #[.slice none 0 0, .int .i64 1]) ∧ Below W.heap.size W w' from fun W hW => by
    have h := bytes_not hV z d s l a ({ y with pos := l }) W (tn HT.out (bt hb0 hW)) HO.out (HI.out.next hW) hlab HBAD.out
    rwa [hv] at h)
  have HC2 := Lib.hid (show ∀ W, Below w6.heap.size w6 W → Calls Tryd.prog 15 #[.agg #[.int .i64 z, .int .i64 d, .int .i64 s, .int .i64 l, .int .i64 a], .agg #[.int .i64 y.gen, .int .i64 y.ep, .int .i64 l, .int .i64 y.seq, .int .i64 y.last, .string y.lab, .slice (some ⟨b, 0, none⟩) x.hs.length y.hc]] W fun e w' => e = .returned (.int .i64 1) ∧ Below W.heap.size W w' from fun W hW => by
    have h := check_p hV z d s l a false ({ y with pos := l }) W (tn HT.out (bt hb0 hW)) HO.out (HI.out.next hW) hlab (iff_of_false Bool.false_ne_true HBAD.out)
    rwa [hv] at h)
  have hb6 := Below.refl w6.heap.size w6
  clear hv hlab
  obtain ⟨c0, c1, c2, c3, c4, c5, c6⟩ := id FF
  obtain ⟨g0, g1, g2, g3, g4⟩ := id GG
  obtain ⟨y0, y1, y2, y3, y4, y5, y6, -, -, -, -, -, -, -⟩ := id FY
  go_wp2_with (first
    | (go_at_call 12; (with_reducible refine (HB2.out _ hb6).mono ?_); rintro e wq ⟨rfl, hbq⟩; replace FF := FF.keep hbq (by omega); replace GG := GG.keep hbq (by omega); replace FY := FY.keep hbq lY; replace lY := Nat.lt_of_lt_of_le lY hbq.size; clear c0 c1 c2 c3 c4 c5 c6 g0 g1 g2 g3 g4 y0 y1 y2 y3 y4 y5 y6; obtain ⟨c0, c1, c2, c3, c4, c5, c6⟩ := id FF; obtain ⟨g0, g1, g2, g3, g4⟩ := id GG; obtain ⟨y0, y1, y2, y3, y4, y5, y6, -, -, -, -, -, -, -⟩ := id FY; replace hb0 := bt hb0 hbq; replace hb6 := bt hb6 hbq; clear hbq)
    | (go_at_call 15; (with_reducible refine (HK.out _ hb0).mono ?_); rintro e wq ⟨rfl, hbq⟩; replace FF := FF.keep hbq (by omega); replace GG := GG.keep hbq (by omega); replace FY := FY.keep hbq lY; replace lY := Nat.lt_of_lt_of_le lY hbq.size; clear c0 c1 c2 c3 c4 c5 c6 g0 g1 g2 g3 g4 y0 y1 y2 y3 y4 y5 y6; obtain ⟨c0, c1, c2, c3, c4, c5, c6⟩ := id FF; obtain ⟨g0, g1, g2, g3, g4⟩ := id GG; obtain ⟨y0, y1, y2, y3, y4, y5, y6, -, -, -, -, -, -, -⟩ := id FY; replace hb0 := bt hb0 hbq; replace hb6 := bt hb6 hbq; clear hbq)
    | (go_at_call 15; (with_reducible refine (HC2.out _ hb6).mono ?_); rintro e wq ⟨rfl, hbq⟩; replace FF := FF.keep hbq (by omega); replace GG := GG.keep hbq (by omega); replace FY := FY.keep hbq lY; replace lY := Nat.lt_of_lt_of_le lY hbq.size; clear c0 c1 c2 c3 c4 c5 c6 g0 g1 g2 g3 g4 y0 y1 y2 y3 y4 y5 y6; obtain ⟨c0, c1, c2, c3, c4, c5, c6⟩ := id FF; obtain ⟨g0, g1, g2, g3, g4⟩ := id GG; obtain ⟨y0, y1, y2, y3, y4, y5, y6, -, -, -, -, -, -, -⟩ := id FY; replace hb0 := bt hb0 hbq; replace hb6 := bt hb6 hbq; clear hbq)
    | (go_at_call 17; (with_reducible refine (wk_anc hV hC _ (tn HT.out hb0)).mono ?_); rintro e wz ⟨rfl, hbz⟩))
  go_ret
  exact ⟨rfl, bt hb0 hbz⟩
set_option maxRecDepth 100000 in
set_option maxHeartbeats 8000000 in
theorem bent_4 (hV : ValidOk) (hC : CloneOk) (j : Nat) (z d s l a : Int) (x : AV) (zz how : Int) (w : World) (hT : Tabs w) (hx : x.In w w.heap.size) (hh : ¬ HeavyA x.d) (ho : Ok z d s l a) (hg : Good z d s l x.d) (hjn : j < x.hs.length) (hj : (IntKind.u64.wrap zz).tmod (x.hs.length : Int) = (j : Int)) (hm : (IntKind.u64.wrap how).tmod 7 = 4) :
    Calls Tryd.prog 6 #[.agg #[.int .i64 z, .int .i64 d, .int .i64 s, .int .i64 l, .int .i64 a], x.v, .int .i64 zz, .int .i64 how] w fun e w' => e = .returned (.bool true) ∧ Below w.heap.size w w' := by
  obtain ⟨t1, t2, t3⟩ := light hh
  have HT := Lib.hid hT
  have cH := fun W (hW : Below w.heap.size w W) => heavy_any false x W (hx.next hW) (iff_of_false Bool.false_ne_true hh)
  have cG := fun W => rgeo_at true z d s l a W (iff_of_true rfl ho)
  have cR := fun W (hW : Below w.heap.size w W) => right_p z d s l a true x W ho (hx.next hW) (by omega) (fun r hr => by have := t3 r hr; omega) (by omega) (iff_of_true rfl hg)
  have cT := fun W (hW : Below w.heap.size w W) => twin_parted x W (hx.next hW) (by omega) (fun r hr => by have := t3 r hr; omega)
  have HK := Lib.hid (show ∀ W, Below w.heap.size w W → Calls Tryd.prog 15 #[.agg #[.int .i64 z, .int .i64 d, .int .i64 s, .int .i64 l, .int .i64 a], x.v] W fun e w' => e = .returned (.int .i64 0) ∧ Below W.heap.size W w' from fun W hW => check_p hV z d s l a true x W (tn HT.out hW) ho (hx.next hW) (by omega) (iff_of_true rfl hg))
  have HG := Lib.hid hg
  have HO := Lib.hid ho
  have HJ := Lib.hid hj
  have HM := Lib.hid hm
  unfold AV.v
  have GG := (g5_new w z d s l a).keep (bl (w.alloc (.cells #[.int .i64 z, .int .i64 d, .int .i64 s, .int .i64 l, .int .i64 a] 23)) (.cells #[.int .i64 x.gen, .int .i64 x.ep, .int .i64 x.pos, .int .i64 x.seq, .int .i64 x.last, .string x.lab, .slice x.HA x.hs.length x.hc] 26)) (by simp)
  have FF := ac_new (w.alloc (.cells #[.int .i64 z, .int .i64 d, .int .i64 s, .int .i64 l, .int .i64 a] 23)) x
  have hb0 := kal (bl w (.cells #[.int .i64 z, .int .i64 d, .int .i64 s, .int .i64 l, .int .i64 a] 23)) (.cells #[.int .i64 x.gen, .int .i64 x.ep, .int .i64 x.pos, .int .i64 x.seq, .int .i64 x.last, .string x.lab, .slice x.HA x.hs.length x.hc] 26)
  rw [show (w.alloc (.cells #[.int .i64 z, .int .i64 d, .int .i64 s, .int .i64 l, .int .i64 a] 23)).heap.size = w.heap.size + 1 by simp] at FF
  have l1 : w.heap.size + 1 < ((w.alloc (.cells #[.int .i64 z, .int .i64 d, .int .i64 s, .int .i64 l, .int .i64 a] 23)).alloc (.cells #[.int .i64 x.gen, .int .i64 x.ep, .int .i64 x.pos, .int .i64 x.seq, .int .i64 x.last, .string x.lab, .slice x.HA x.hs.length x.hc] 26)).heap.size := by simp
  unfold AV.v at cH cR cT HK
  clear hx hh ho hg t3 hT hj hm
  go_enter Tryd.func6, Tryd.ntmps6
  go_upto_region 1 with fail
  generalize (w.alloc (.cells #[.int .i64 z, .int .i64 d, .int .i64 s, .int .i64 l, .int .i64 a] 23)).alloc (.cells #[.int .i64 x.gen, .int .i64 x.ep, .int .i64 x.pos, .int .i64 x.seq, .int .i64 x.last, .string x.lab, .slice x.HA x.hs.length x.hc] 26) = w0 at *
  obtain ⟨c0, c1, c2, c3, c4, c5, c6⟩ := id FF
  obtain ⟨g0, g1, g2, g3, g4⟩ := id GG
  go_upto_region 4 with (first
    | (go_at_call 9; (with_reducible refine (cH _ hb0).mono ?_); rintro e wq ⟨rfl, hbq⟩; replace FF := FF.keep hbq (by omega); replace GG := GG.keep hbq (by omega); replace l1 := Nat.lt_of_lt_of_le l1 hbq.size; clear c0 c1 c2 c3 c4 c5 c6 g0 g1 g2 g3 g4; obtain ⟨c0, c1, c2, c3, c4, c5, c6⟩ := id FF; obtain ⟨g0, g1, g2, g3, g4⟩ := id GG; replace hb0 := bt hb0 hbq; clear hbq)
    | (go_at_call 14; (with_reducible refine (cG _).mono ?_); rintro e wq ⟨rfl, hbq⟩; replace FF := FF.keep hbq (by omega); replace GG := GG.keep hbq (by omega); replace l1 := Nat.lt_of_lt_of_le l1 hbq.size; clear c0 c1 c2 c3 c4 c5 c6 g0 g1 g2 g3 g4; obtain ⟨c0, c1, c2, c3, c4, c5, c6⟩ := id FF; obtain ⟨g0, g1, g2, g3, g4⟩ := id GG; replace hb0 := bt hb0 hbq; clear hbq)
    | (go_at_call 21; (with_reducible refine (cR _ hb0).mono ?_); rintro e wq ⟨rfl, hbq⟩; replace FF := FF.keep hbq (by omega); replace GG := GG.keep hbq (by omega); replace l1 := Nat.lt_of_lt_of_le l1 hbq.size; clear c0 c1 c2 c3 c4 c5 c6 g0 g1 g2 g3 g4; obtain ⟨c0, c1, c2, c3, c4, c5, c6⟩ := id FF; obtain ⟨g0, g1, g2, g3, g4⟩ := id GG; replace hb0 := bt hb0 hbq; clear hbq)
    | (go_at_call 10; (with_reducible refine (cT _ hb0).mono ?_); rintro e wT ⟨⟨y, rfl, hyd, hyo, hyp⟩, hbq⟩; have hbase := l1; replace FF := FF.keep hbq (by omega); replace GG := GG.keep hbq (by omega); replace l1 := Nat.lt_of_lt_of_le l1 hbq.size; clear c0 c1 c2 c3 c4 c5 c6 g0 g1 g2 g3 g4; obtain ⟨c0, c1, c2, c3, c4, c5, c6⟩ := id FF; obtain ⟨g0, g1, g2, g3, g4⟩ := id GG; replace hb0 := bt hb0 hbq; clear hbq))
  have hln : y.hs.length = x.hs.length := by
    have := congrArg (fun u => u.hs.length) hyd
    exact (hds_length y.hs).symm.trans (this.trans (hds_length x.hs))
  have hjy : j < y.hs.length := by omega
  obtain ⟨r, hr⟩ : ∃ r, y.hs[j]? = some r := ⟨_, List.getElem?_eq_getElem hjy⟩
  have hro : HomeOk d s r.d := HG.out.2.2.2.2.2.2.2.2 r.d (by rw [← hyd]; exact List.mem_map_of_mem (List.mem_of_getElem? hr))
  obtain ⟨b, hHA, hbT, hbB⟩ := hyo.tab (by omega)
  have hyin := AV.Own.inn hyo
  obtain ⟨gp, hgp, -, hgT, hgB⟩ := hyo.row hr (by have := hro.1; have := HO.out.2.1; have e : r.d.ps.length = r.ps.length := rfl; omega)
  have hx6 := bl wT (.cells #[.int .i64 y.gen, .int .i64 y.ep, .int .i64 y.pos, .int .i64 y.seq, .int .i64 y.last, .string y.lab, .slice y.HA y.hs.length y.hc] 26)
  have FY := sev_new wT (.int .i64 y.gen) (.int .i64 y.ep) (.int .i64 y.pos) (.int .i64 y.seq) (.int .i64 y.last) (.string y.lab) (.slice y.HA y.hs.length y.hc) 26
  have lY : wT.heap.size < (wT.alloc (.cells #[.int .i64 y.gen, .int .i64 y.ep, .int .i64 y.pos, .int .i64 y.seq, .int .i64 y.last, .string y.lab, .slice y.HA y.hs.length y.hc] 26)).heap.size := by simp
  have hyo2 := OwnH.below hyo hx6
  replace FF := FF.keep hx6 l1
  replace GG := GG.keep hx6 (by omega)
  replace hb0 := bt hb0 hx6
  obtain ⟨gy, hgy⟩ : ∃ g, g = wT.heap.size := ⟨_, rfl⟩
  rw [← hgy] at FY lY hbT hgT hx6 hyin ⊢
  replace l1 : w.heap.size + 1 < gy := by omega
  have hyin4 := hyin.below hx6
  clear c0 c1 c2 c3 c4 c5 c6 g0 g1 g2 g3 g4 hx6 hgy hyo hyin cH cR cT cG
  generalize wT.alloc (.cells #[.int .i64 y.gen, .int .i64 y.ep, .int .i64 y.pos, .int .i64 y.seq, .int .i64 y.last, .string y.lab, .slice y.HA y.hs.length y.hc] 26) = w4 at *
  rw [hHA, hln] at FY
  have HYD := Lib.hid hyd
  have HYO := Lib.hid hyo2
  have HYP := Lib.hid hyp
  have HIN := Lib.hid hyin4
  have HR := Lib.hid hr
  have HRO := Lib.hid hro
  have HHA := Lib.hid hHA
  have HGP := Lib.hid hgp
  have HLN := Lib.hid hln
  obtain ⟨c0, c1, c2, c3, c4, c5, c6⟩ := id FF
  obtain ⟨g0, g1, g2, g3, g4⟩ := id GG
  obtain ⟨y0, y1, y2, y3, y4, y5, y6, -, -, -, -, -, -, -⟩ := id FY
  have hxb : x.hs.length ≤ 1048576 := by omega
  have n0 : ¬ (x.hs.length : Int) = 0 := by omega
  have n1 : ((x.hs.length : Int) == 0) = false := beq_eq_false_iff_ne.2 n0
  have n2 : (0 : Int) ≤ (j : Int) := by omega
  have n3 : (j : Int) < (x.hs.length : Int) := by omega
  have n4 : IntKind.u64.wrap (x.hs.length : Int) = (x.hs.length : Int) := IntWalk.u64_in _ (by omega)
  have n5 : IntKind.i64.wrap (j : Int) = (j : Int) := IntWalk.i64_in _ (by omega)
  have n6 := HJ.out
  clear hyin4 hyd hyo2 hyp hr hro hHA hgp hln hjy
  go_quiet (fail)
  have hbN := below_dn (Below.refl w4.heap.size w4) nq
  have HYO : Hid (AV.Own _ _ y) := Lib.hid (OwnH.below HYO.out hbN)
  have HIN := Lib.hid (HIN.out.below (hbN.mono (Nat.le_of_lt lY)))
  replace FF := FF.keep hbN (by omega)
  replace GG := GG.keep hbN (by omega)
  replace FY := FY.keep hbN lY
  replace lY := Nat.lt_of_lt_of_le lY hbN.size
  replace hb0 := bt hb0 hbN
  clear c0 c1 c2 c3 c4 c5 c6 g0 g1 g2 g3 g4 y0 y1 y2 y3 y4 y5 y6 n1 n4 n5 n6 hbN
  generalize w4.drewN nq = w5 at *
  have m0 := HM.out
  have m1 : (IntKind.u64.wrap how) % 7 = 4 := by rw [← Int.tmod_eq_emod_of_nonneg (wrap_nonneg how)]; exact m0
  obtain ⟨g0, g1, g2, g3, g4⟩ := id GG
  obtain ⟨-, -, -, -, -, -, -, f0, f1, f2, f3, f4, f5, f6⟩ := id FY
  obtain ⟨y0, y1, y2, y3, y4, y5, y6, -, -, -, -, -, -, -⟩ := id FY
  go_upto_region 19 with fail
  have hB6 : Below gy w5 ((w5.setCell ⟨gy, 3, none⟩ (.int .i64 5)).setCell ⟨gy, 4, none⟩ (.int .i64 3)) := ((Below.refl gy w5).setCell (p := ⟨gy, 3, none⟩) (Nat.le_refl _) (.int .i64 5)).setCell (p := ⟨gy, 4, none⟩) (Nat.le_refl _) (.int .i64 3)
  have FY6 := ((FY.set3 (.int .i64 5)).set4 (.int .i64 3))
  have lY6 : gy < (((w5.setCell ⟨gy, 3, none⟩ (.int .i64 5)).setCell ⟨gy, 4, none⟩ (.int .i64 3))).heap.size := by simpa using lY
  have HI := Lib.hid (show AV.In ((w5.setCell ⟨gy, 3, none⟩ (.int .i64 5)).setCell ⟨gy, 4, none⟩ (.int .i64 3)) (((w5.setCell ⟨gy, 3, none⟩ (.int .i64 5)).setCell ⟨gy, 4, none⟩ (.int .i64 3))).heap.size ({ y with seq := 5, last := 3 }) from (AV.In.more (a := { y with seq := 5, last := 3 }) ⟨(HIN.out.below hB6).hh, (HIN.out.below hB6).hi, HIN.out.hl⟩ (Nat.le_of_lt lY6)))
  replace FF := FF.keep hB6 (by omega)
  replace GG := GG.keep hB6 (by omega)
  replace hb0 := hb0.trans (hB6.mono (by omega))
  clear g0 g1 g2 g3 g4 y0 y1 y2 y3 y4 y5 y6 f0 f1 f2 f3 f4 f5 f6 FY lY hB6
  generalize ((w5.setCell ⟨gy, 3, none⟩ (.int .i64 5)).setCell ⟨gy, 4, none⟩ (.int .i64 3)) = w6 at *
  have FY := FY6
  have lY := lY6
  clear FY6 lY6
  have HBAD := Lib.hid (show ¬ Good z d s l (AV.d ({ y with seq := 5, last := 3 })) from fun h => by have h1 : (5 : Int) - 1 ≤ 3 := h.2.2.2.2.1; omega)
  have hv : AV.v ({ y with seq := 5, last := 3 }) = .agg #[.int .i64 y.gen, .int .i64 y.ep, .int .i64 y.pos, .int .i64 5, .int .i64 3, .string y.lab, .slice (some ⟨b, 0, none⟩) x.hs.length y.hc] := by unfold AV.v; dsimp only; rw [HHA.out, HLN.out]
  have hlab : y.lab.size ≤ 4294967296 := by
    have e : y.lab = x.lab := congrArg Anc.lab HYD.out
    rw [e]
    omega
  have HB2 := Lib.hid (show ∀ W, Below w6.heap.size w6 W → Calls Tryd.prog 12 #[.agg #[.int .i64 z, .int .i64 d, .int .i64 s, .int .i64 l, .int .i64 a], .agg #[.int .i64 y.gen, .int .i64 y.ep, .int .i64 y.pos, .int .i64 5, .int .i64 3, .string y.lab, .slice (some ⟨b, 0, none⟩) x.hs.length y.hc]] W fun e w' => e = .returned (.tuple #[.slice none 0 0, .int .i64 1]) ∧ Below W.heap.size W w' from fun W hW => by
    have h := bytes_not hV z d s l a ({ y with seq := 5, last := 3 }) W (tn HT.out (bt hb0 hW)) HO.out (HI.out.next hW) hlab HBAD.out
    rwa [hv] at h)
  have HC2 := Lib.hid (show ∀ W, Below w6.heap.size w6 W → Calls Tryd.prog 15 #[.agg #[.int .i64 z, .int .i64 d, .int .i64 s, .int .i64 l, .int .i64 a], .agg #[.int .i64 y.gen, .int .i64 y.ep, .int .i64 y.pos, .int .i64 5, .int .i64 3, .string y.lab, .slice (some ⟨b, 0, none⟩) x.hs.length y.hc]] W fun e w' => e = .returned (.int .i64 1) ∧ Below W.heap.size W w' from fun W hW => by
    have h := check_p hV z d s l a false ({ y with seq := 5, last := 3 }) W (tn HT.out (bt hb0 hW)) HO.out (HI.out.next hW) hlab (iff_of_false Bool.false_ne_true HBAD.out)
    rwa [hv] at h)
  have hb6 := Below.refl w6.heap.size w6
  clear hv hlab
  obtain ⟨c0, c1, c2, c3, c4, c5, c6⟩ := id FF
  obtain ⟨g0, g1, g2, g3, g4⟩ := id GG
  obtain ⟨y0, y1, y2, y3, y4, y5, y6, -, -, -, -, -, -, -⟩ := id FY
  go_wp2_with (first
    | (go_at_call 12; (with_reducible refine (HB2.out _ hb6).mono ?_); rintro e wq ⟨rfl, hbq⟩; replace FF := FF.keep hbq (by omega); replace GG := GG.keep hbq (by omega); replace FY := FY.keep hbq lY; replace lY := Nat.lt_of_lt_of_le lY hbq.size; clear c0 c1 c2 c3 c4 c5 c6 g0 g1 g2 g3 g4 y0 y1 y2 y3 y4 y5 y6; obtain ⟨c0, c1, c2, c3, c4, c5, c6⟩ := id FF; obtain ⟨g0, g1, g2, g3, g4⟩ := id GG; obtain ⟨y0, y1, y2, y3, y4, y5, y6, -, -, -, -, -, -, -⟩ := id FY; replace hb0 := bt hb0 hbq; replace hb6 := bt hb6 hbq; clear hbq)
    | (go_at_call 15; (with_reducible refine (HK.out _ hb0).mono ?_); rintro e wq ⟨rfl, hbq⟩; replace FF := FF.keep hbq (by omega); replace GG := GG.keep hbq (by omega); replace FY := FY.keep hbq lY; replace lY := Nat.lt_of_lt_of_le lY hbq.size; clear c0 c1 c2 c3 c4 c5 c6 g0 g1 g2 g3 g4 y0 y1 y2 y3 y4 y5 y6; obtain ⟨c0, c1, c2, c3, c4, c5, c6⟩ := id FF; obtain ⟨g0, g1, g2, g3, g4⟩ := id GG; obtain ⟨y0, y1, y2, y3, y4, y5, y6, -, -, -, -, -, -, -⟩ := id FY; replace hb0 := bt hb0 hbq; replace hb6 := bt hb6 hbq; clear hbq)
    | (go_at_call 15; (with_reducible refine (HC2.out _ hb6).mono ?_); rintro e wq ⟨rfl, hbq⟩; replace FF := FF.keep hbq (by omega); replace GG := GG.keep hbq (by omega); replace FY := FY.keep hbq lY; replace lY := Nat.lt_of_lt_of_le lY hbq.size; clear c0 c1 c2 c3 c4 c5 c6 g0 g1 g2 g3 g4 y0 y1 y2 y3 y4 y5 y6; obtain ⟨c0, c1, c2, c3, c4, c5, c6⟩ := id FF; obtain ⟨g0, g1, g2, g3, g4⟩ := id GG; obtain ⟨y0, y1, y2, y3, y4, y5, y6, -, -, -, -, -, -, -⟩ := id FY; replace hb0 := bt hb0 hbq; replace hb6 := bt hb6 hbq; clear hbq)
    | (go_at_call 17; (with_reducible refine (wk_anc hV hC _ (tn HT.out hb0)).mono ?_); rintro e wz ⟨rfl, hbz⟩))
  go_ret
  exact ⟨rfl, bt hb0 hbz⟩
set_option maxRecDepth 100000 in
set_option maxHeartbeats 8000000 in
theorem bent_6 (hV : ValidOk) (hC : CloneOk) (j : Nat) (z d s l a : Int) (x : AV) (zz how : Int) (w : World) (hT : Tabs w) (hx : x.In w w.heap.size) (hh : ¬ HeavyA x.d) (ho : Ok z d s l a) (hg : Good z d s l x.d) (hjn : j < x.hs.length) (hj : (IntKind.u64.wrap zz).tmod (x.hs.length : Int) = (j : Int)) (hm : (IntKind.u64.wrap how).tmod 7 = 6) :
    Calls Tryd.prog 6 #[.agg #[.int .i64 z, .int .i64 d, .int .i64 s, .int .i64 l, .int .i64 a], x.v, .int .i64 zz, .int .i64 how] w fun e w' => e = .returned (.bool true) ∧ Below w.heap.size w w' := by
  obtain ⟨t1, t2, t3⟩ := light hh
  have HT := Lib.hid hT
  have cH := fun W (hW : Below w.heap.size w W) => heavy_any false x W (hx.next hW) (iff_of_false Bool.false_ne_true hh)
  have cG := fun W => rgeo_at true z d s l a W (iff_of_true rfl ho)
  have cR := fun W (hW : Below w.heap.size w W) => right_p z d s l a true x W ho (hx.next hW) (by omega) (fun r hr => by have := t3 r hr; omega) (by omega) (iff_of_true rfl hg)
  have cT := fun W (hW : Below w.heap.size w W) => twin_parted x W (hx.next hW) (by omega) (fun r hr => by have := t3 r hr; omega)
  have HK := Lib.hid (show ∀ W, Below w.heap.size w W → Calls Tryd.prog 15 #[.agg #[.int .i64 z, .int .i64 d, .int .i64 s, .int .i64 l, .int .i64 a], x.v] W fun e w' => e = .returned (.int .i64 0) ∧ Below W.heap.size W w' from fun W hW => check_p hV z d s l a true x W (tn HT.out hW) ho (hx.next hW) (by omega) (iff_of_true rfl hg))
  have HG := Lib.hid hg
  have HO := Lib.hid ho
  have HJ := Lib.hid hj
  have HM := Lib.hid hm
  unfold AV.v
  have GG := (g5_new w z d s l a).keep (bl (w.alloc (.cells #[.int .i64 z, .int .i64 d, .int .i64 s, .int .i64 l, .int .i64 a] 23)) (.cells #[.int .i64 x.gen, .int .i64 x.ep, .int .i64 x.pos, .int .i64 x.seq, .int .i64 x.last, .string x.lab, .slice x.HA x.hs.length x.hc] 26)) (by simp)
  have FF := ac_new (w.alloc (.cells #[.int .i64 z, .int .i64 d, .int .i64 s, .int .i64 l, .int .i64 a] 23)) x
  have hb0 := kal (bl w (.cells #[.int .i64 z, .int .i64 d, .int .i64 s, .int .i64 l, .int .i64 a] 23)) (.cells #[.int .i64 x.gen, .int .i64 x.ep, .int .i64 x.pos, .int .i64 x.seq, .int .i64 x.last, .string x.lab, .slice x.HA x.hs.length x.hc] 26)
  rw [show (w.alloc (.cells #[.int .i64 z, .int .i64 d, .int .i64 s, .int .i64 l, .int .i64 a] 23)).heap.size = w.heap.size + 1 by simp] at FF
  have l1 : w.heap.size + 1 < ((w.alloc (.cells #[.int .i64 z, .int .i64 d, .int .i64 s, .int .i64 l, .int .i64 a] 23)).alloc (.cells #[.int .i64 x.gen, .int .i64 x.ep, .int .i64 x.pos, .int .i64 x.seq, .int .i64 x.last, .string x.lab, .slice x.HA x.hs.length x.hc] 26)).heap.size := by simp
  unfold AV.v at cH cR cT HK
  clear hx hh ho hg t3 hT hj hm
  go_enter Tryd.func6, Tryd.ntmps6
  go_upto_region 1 with fail
  generalize (w.alloc (.cells #[.int .i64 z, .int .i64 d, .int .i64 s, .int .i64 l, .int .i64 a] 23)).alloc (.cells #[.int .i64 x.gen, .int .i64 x.ep, .int .i64 x.pos, .int .i64 x.seq, .int .i64 x.last, .string x.lab, .slice x.HA x.hs.length x.hc] 26) = w0 at *
  obtain ⟨c0, c1, c2, c3, c4, c5, c6⟩ := id FF
  obtain ⟨g0, g1, g2, g3, g4⟩ := id GG
  go_upto_region 4 with (first
    | (go_at_call 9; (with_reducible refine (cH _ hb0).mono ?_); rintro e wq ⟨rfl, hbq⟩; replace FF := FF.keep hbq (by omega); replace GG := GG.keep hbq (by omega); replace l1 := Nat.lt_of_lt_of_le l1 hbq.size; clear c0 c1 c2 c3 c4 c5 c6 g0 g1 g2 g3 g4; obtain ⟨c0, c1, c2, c3, c4, c5, c6⟩ := id FF; obtain ⟨g0, g1, g2, g3, g4⟩ := id GG; replace hb0 := bt hb0 hbq; clear hbq)
    | (go_at_call 14; (with_reducible refine (cG _).mono ?_); rintro e wq ⟨rfl, hbq⟩; replace FF := FF.keep hbq (by omega); replace GG := GG.keep hbq (by omega); replace l1 := Nat.lt_of_lt_of_le l1 hbq.size; clear c0 c1 c2 c3 c4 c5 c6 g0 g1 g2 g3 g4; obtain ⟨c0, c1, c2, c3, c4, c5, c6⟩ := id FF; obtain ⟨g0, g1, g2, g3, g4⟩ := id GG; replace hb0 := bt hb0 hbq; clear hbq)
    | (go_at_call 21; (with_reducible refine (cR _ hb0).mono ?_); rintro e wq ⟨rfl, hbq⟩; replace FF := FF.keep hbq (by omega); replace GG := GG.keep hbq (by omega); replace l1 := Nat.lt_of_lt_of_le l1 hbq.size; clear c0 c1 c2 c3 c4 c5 c6 g0 g1 g2 g3 g4; obtain ⟨c0, c1, c2, c3, c4, c5, c6⟩ := id FF; obtain ⟨g0, g1, g2, g3, g4⟩ := id GG; replace hb0 := bt hb0 hbq; clear hbq)
    | (go_at_call 10; (with_reducible refine (cT _ hb0).mono ?_); rintro e wT ⟨⟨y, rfl, hyd, hyo, hyp⟩, hbq⟩; have hbase := l1; replace FF := FF.keep hbq (by omega); replace GG := GG.keep hbq (by omega); replace l1 := Nat.lt_of_lt_of_le l1 hbq.size; clear c0 c1 c2 c3 c4 c5 c6 g0 g1 g2 g3 g4; obtain ⟨c0, c1, c2, c3, c4, c5, c6⟩ := id FF; obtain ⟨g0, g1, g2, g3, g4⟩ := id GG; replace hb0 := bt hb0 hbq; clear hbq))
  have hln : y.hs.length = x.hs.length := by
    have := congrArg (fun u => u.hs.length) hyd
    exact (hds_length y.hs).symm.trans (this.trans (hds_length x.hs))
  have hjy : j < y.hs.length := by omega
  obtain ⟨r, hr⟩ : ∃ r, y.hs[j]? = some r := ⟨_, List.getElem?_eq_getElem hjy⟩
  have hro : HomeOk d s r.d := HG.out.2.2.2.2.2.2.2.2 r.d (by rw [← hyd]; exact List.mem_map_of_mem (List.mem_of_getElem? hr))
  obtain ⟨b, hHA, hbT, hbB⟩ := hyo.tab (by omega)
  have hyin := AV.Own.inn hyo
  obtain ⟨gp, hgp, -, hgT, hgB⟩ := hyo.row hr (by have := hro.1; have := HO.out.2.1; have e : r.d.ps.length = r.ps.length := rfl; omega)
  have hx6 := bl wT (.cells #[.int .i64 y.gen, .int .i64 y.ep, .int .i64 y.pos, .int .i64 y.seq, .int .i64 y.last, .string y.lab, .slice y.HA y.hs.length y.hc] 26)
  have FY := sev_new wT (.int .i64 y.gen) (.int .i64 y.ep) (.int .i64 y.pos) (.int .i64 y.seq) (.int .i64 y.last) (.string y.lab) (.slice y.HA y.hs.length y.hc) 26
  have lY : wT.heap.size < (wT.alloc (.cells #[.int .i64 y.gen, .int .i64 y.ep, .int .i64 y.pos, .int .i64 y.seq, .int .i64 y.last, .string y.lab, .slice y.HA y.hs.length y.hc] 26)).heap.size := by simp
  have hyo2 := OwnH.below hyo hx6
  replace FF := FF.keep hx6 l1
  replace GG := GG.keep hx6 (by omega)
  replace hb0 := bt hb0 hx6
  obtain ⟨gy, hgy⟩ : ∃ g, g = wT.heap.size := ⟨_, rfl⟩
  rw [← hgy] at FY lY hbT hgT hx6 hyin ⊢
  replace l1 : w.heap.size + 1 < gy := by omega
  have hyin4 := hyin.below hx6
  clear c0 c1 c2 c3 c4 c5 c6 g0 g1 g2 g3 g4 hx6 hgy hyo hyin cH cR cT cG
  generalize wT.alloc (.cells #[.int .i64 y.gen, .int .i64 y.ep, .int .i64 y.pos, .int .i64 y.seq, .int .i64 y.last, .string y.lab, .slice y.HA y.hs.length y.hc] 26) = w4 at *
  rw [hHA, hln] at FY
  have HYD := Lib.hid hyd
  have HYO := Lib.hid hyo2
  have HYP := Lib.hid hyp
  have HIN := Lib.hid hyin4
  have HR := Lib.hid hr
  have HRO := Lib.hid hro
  have HHA := Lib.hid hHA
  have HGP := Lib.hid hgp
  have HLN := Lib.hid hln
  obtain ⟨c0, c1, c2, c3, c4, c5, c6⟩ := id FF
  obtain ⟨g0, g1, g2, g3, g4⟩ := id GG
  obtain ⟨y0, y1, y2, y3, y4, y5, y6, -, -, -, -, -, -, -⟩ := id FY
  have hxb : x.hs.length ≤ 1048576 := by omega
  have n0 : ¬ (x.hs.length : Int) = 0 := by omega
  have n1 : ((x.hs.length : Int) == 0) = false := beq_eq_false_iff_ne.2 n0
  have n2 : (0 : Int) ≤ (j : Int) := by omega
  have n3 : (j : Int) < (x.hs.length : Int) := by omega
  have n4 : IntKind.u64.wrap (x.hs.length : Int) = (x.hs.length : Int) := IntWalk.u64_in _ (by omega)
  have n5 : IntKind.i64.wrap (j : Int) = (j : Int) := IntWalk.i64_in _ (by omega)
  have n6 := HJ.out
  clear hyin4 hyd hyo2 hyp hr hro hHA hgp hln hjy
  go_quiet (fail)
  have hbN := below_dn (Below.refl w4.heap.size w4) nq
  have HYO : Hid (AV.Own _ _ y) := Lib.hid (OwnH.below HYO.out hbN)
  have HIN := Lib.hid (HIN.out.below (hbN.mono (Nat.le_of_lt lY)))
  replace FF := FF.keep hbN (by omega)
  replace GG := GG.keep hbN (by omega)
  replace FY := FY.keep hbN lY
  replace lY := Nat.lt_of_lt_of_le lY hbN.size
  replace hb0 := bt hb0 hbN
  clear c0 c1 c2 c3 c4 c5 c6 g0 g1 g2 g3 g4 y0 y1 y2 y3 y4 y5 y6 n1 n4 n5 n6 hbN
  generalize w4.drewN nq = w5 at *
  have m0 := HM.out
  have m1 : (IntKind.u64.wrap how) % 7 = 6 := by rw [← Int.tmod_eq_emod_of_nonneg (wrap_nonneg how)]; exact m0
  obtain ⟨g0, g1, g2, g3, g4⟩ := id GG
  obtain ⟨-, -, -, -, -, -, -, f0, f1, f2, f3, f4, f5, f6⟩ := id FY
  obtain ⟨y0, y1, y2, y3, y4, y5, y6, -, -, -, -, -, -, -⟩ := id FY
  go_upto_region 19 with fail
  have hB6 : Below gy w5 (w5.setCell ⟨gy, 0, none⟩ (.int .i64 (-1))) := (Below.refl gy w5).setCell (p := ⟨gy, 0, none⟩) (Nat.le_refl _) (.int .i64 (-1))
  have FY6 := (FY.set0 (.int .i64 (-1)))
  have lY6 : gy < ((w5.setCell ⟨gy, 0, none⟩ (.int .i64 (-1)))).heap.size := by simpa using lY
  have HI := Lib.hid (show AV.In (w5.setCell ⟨gy, 0, none⟩ (.int .i64 (-1))) ((w5.setCell ⟨gy, 0, none⟩ (.int .i64 (-1)))).heap.size ({ y with gen := -1 }) from (AV.In.more (a := { y with gen := -1 }) ⟨(HIN.out.below hB6).hh, (HIN.out.below hB6).hi, HIN.out.hl⟩ (Nat.le_of_lt lY6)))
  replace FF := FF.keep hB6 (by omega)
  replace GG := GG.keep hB6 (by omega)
  replace hb0 := hb0.trans (hB6.mono (by omega))
  clear g0 g1 g2 g3 g4 y0 y1 y2 y3 y4 y5 y6 f0 f1 f2 f3 f4 f5 f6 FY lY hB6
  generalize (w5.setCell ⟨gy, 0, none⟩ (.int .i64 (-1))) = w6 at *
  have FY := FY6
  have lY := lY6
  clear FY6 lY6
  have HBAD := Lib.hid (show ¬ Good z d s l (AV.d ({ y with gen := -1 })) from fun h => by have h1 : (0 : Int) ≤ -1 := h.1.1; omega)
  have hv : AV.v ({ y with gen := -1 }) = .agg #[.int .i64 (-1), .int .i64 y.ep, .int .i64 y.pos, .int .i64 y.seq, .int .i64 y.last, .string y.lab, .slice (some ⟨b, 0, none⟩) x.hs.length y.hc] := by unfold AV.v; dsimp only; rw [HHA.out, HLN.out]
  have hlab : y.lab.size ≤ 4294967296 := by
    have e : y.lab = x.lab := congrArg Anc.lab HYD.out
    rw [e]
    omega
  have HB2 := Lib.hid (show ∀ W, Below w6.heap.size w6 W → Calls Tryd.prog 12 #[.agg #[.int .i64 z, .int .i64 d, .int .i64 s, .int .i64 l, .int .i64 a], .agg #[.int .i64 (-1), .int .i64 y.ep, .int .i64 y.pos, .int .i64 y.seq, .int .i64 y.last, .string y.lab, .slice (some ⟨b, 0, none⟩) x.hs.length y.hc]] W fun e w' => e = .returned (.tuple #[.slice none 0 0, .int .i64 1]) ∧ Below W.heap.size W w' from fun W hW => by
    have h := bytes_not hV z d s l a ({ y with gen := -1 }) W (tn HT.out (bt hb0 hW)) HO.out (HI.out.next hW) hlab HBAD.out
    rwa [hv] at h)
  have HC2 := Lib.hid (show ∀ W, Below w6.heap.size w6 W → Calls Tryd.prog 15 #[.agg #[.int .i64 z, .int .i64 d, .int .i64 s, .int .i64 l, .int .i64 a], .agg #[.int .i64 (-1), .int .i64 y.ep, .int .i64 y.pos, .int .i64 y.seq, .int .i64 y.last, .string y.lab, .slice (some ⟨b, 0, none⟩) x.hs.length y.hc]] W fun e w' => e = .returned (.int .i64 1) ∧ Below W.heap.size W w' from fun W hW => by
    have h := check_p hV z d s l a false ({ y with gen := -1 }) W (tn HT.out (bt hb0 hW)) HO.out (HI.out.next hW) hlab (iff_of_false Bool.false_ne_true HBAD.out)
    rwa [hv] at h)
  have hb6 := Below.refl w6.heap.size w6
  clear hv hlab
  obtain ⟨c0, c1, c2, c3, c4, c5, c6⟩ := id FF
  obtain ⟨g0, g1, g2, g3, g4⟩ := id GG
  obtain ⟨y0, y1, y2, y3, y4, y5, y6, -, -, -, -, -, -, -⟩ := id FY
  go_wp2_with (first
    | (go_at_call 12; (with_reducible refine (HB2.out _ hb6).mono ?_); rintro e wq ⟨rfl, hbq⟩; replace FF := FF.keep hbq (by omega); replace GG := GG.keep hbq (by omega); replace FY := FY.keep hbq lY; replace lY := Nat.lt_of_lt_of_le lY hbq.size; clear c0 c1 c2 c3 c4 c5 c6 g0 g1 g2 g3 g4 y0 y1 y2 y3 y4 y5 y6; obtain ⟨c0, c1, c2, c3, c4, c5, c6⟩ := id FF; obtain ⟨g0, g1, g2, g3, g4⟩ := id GG; obtain ⟨y0, y1, y2, y3, y4, y5, y6, -, -, -, -, -, -, -⟩ := id FY; replace hb0 := bt hb0 hbq; replace hb6 := bt hb6 hbq; clear hbq)
    | (go_at_call 15; (with_reducible refine (HK.out _ hb0).mono ?_); rintro e wq ⟨rfl, hbq⟩; replace FF := FF.keep hbq (by omega); replace GG := GG.keep hbq (by omega); replace FY := FY.keep hbq lY; replace lY := Nat.lt_of_lt_of_le lY hbq.size; clear c0 c1 c2 c3 c4 c5 c6 g0 g1 g2 g3 g4 y0 y1 y2 y3 y4 y5 y6; obtain ⟨c0, c1, c2, c3, c4, c5, c6⟩ := id FF; obtain ⟨g0, g1, g2, g3, g4⟩ := id GG; obtain ⟨y0, y1, y2, y3, y4, y5, y6, -, -, -, -, -, -, -⟩ := id FY; replace hb0 := bt hb0 hbq; replace hb6 := bt hb6 hbq; clear hbq)
    | (go_at_call 15; (with_reducible refine (HC2.out _ hb6).mono ?_); rintro e wq ⟨rfl, hbq⟩; replace FF := FF.keep hbq (by omega); replace GG := GG.keep hbq (by omega); replace FY := FY.keep hbq lY; replace lY := Nat.lt_of_lt_of_le lY hbq.size; clear c0 c1 c2 c3 c4 c5 c6 g0 g1 g2 g3 g4 y0 y1 y2 y3 y4 y5 y6; obtain ⟨c0, c1, c2, c3, c4, c5, c6⟩ := id FF; obtain ⟨g0, g1, g2, g3, g4⟩ := id GG; obtain ⟨y0, y1, y2, y3, y4, y5, y6, -, -, -, -, -, -, -⟩ := id FY; replace hb0 := bt hb0 hbq; replace hb6 := bt hb6 hbq; clear hbq)
    | (go_at_call 17; (with_reducible refine (wk_anc hV hC _ (tn HT.out hb0)).mono ?_); rintro e wz ⟨rfl, hbz⟩))
  go_ret
  exact ⟨rfl, bt hb0 hbz⟩
set_option maxRecDepth 100000 in
set_option maxHeartbeats 8000000 in
theorem bent_0 (hV : ValidOk) (hC : CloneOk) (j : Nat) (z d s l a : Int) (x : AV) (zz how : Int) (w : World) (hT : Tabs w) (hx : x.In w w.heap.size) (hh : ¬ HeavyA x.d) (ho : Ok z d s l a) (hg : Good z d s l x.d) (hjn : j < x.hs.length) (hj : (IntKind.u64.wrap zz).tmod (x.hs.length : Int) = (j : Int)) (hm : (IntKind.u64.wrap how).tmod 7 = 0) :
    Calls Tryd.prog 6 #[.agg #[.int .i64 z, .int .i64 d, .int .i64 s, .int .i64 l, .int .i64 a], x.v, .int .i64 zz, .int .i64 how] w fun e w' => e = .returned (.bool true) ∧ Below w.heap.size w w' := by
  obtain ⟨t1, t2, t3⟩ := light hh
  have HT := Lib.hid hT
  have cH := fun W (hW : Below w.heap.size w W) => heavy_any false x W (hx.next hW) (iff_of_false Bool.false_ne_true hh)
  have cG := fun W => rgeo_at true z d s l a W (iff_of_true rfl ho)
  have cR := fun W (hW : Below w.heap.size w W) => right_p z d s l a true x W ho (hx.next hW) (by omega) (fun r hr => by have := t3 r hr; omega) (by omega) (iff_of_true rfl hg)
  have cT := fun W (hW : Below w.heap.size w W) => twin_parted x W (hx.next hW) (by omega) (fun r hr => by have := t3 r hr; omega)
  have HK := Lib.hid (show ∀ W, Below w.heap.size w W → Calls Tryd.prog 15 #[.agg #[.int .i64 z, .int .i64 d, .int .i64 s, .int .i64 l, .int .i64 a], x.v] W fun e w' => e = .returned (.int .i64 0) ∧ Below W.heap.size W w' from fun W hW => check_p hV z d s l a true x W (tn HT.out hW) ho (hx.next hW) (by omega) (iff_of_true rfl hg))
  have HG := Lib.hid hg
  have HO := Lib.hid ho
  have HJ := Lib.hid hj
  have HM := Lib.hid hm
  unfold AV.v
  have GG := (g5_new w z d s l a).keep (bl (w.alloc (.cells #[.int .i64 z, .int .i64 d, .int .i64 s, .int .i64 l, .int .i64 a] 23)) (.cells #[.int .i64 x.gen, .int .i64 x.ep, .int .i64 x.pos, .int .i64 x.seq, .int .i64 x.last, .string x.lab, .slice x.HA x.hs.length x.hc] 26)) (by simp)
  have FF := ac_new (w.alloc (.cells #[.int .i64 z, .int .i64 d, .int .i64 s, .int .i64 l, .int .i64 a] 23)) x
  have hb0 := kal (bl w (.cells #[.int .i64 z, .int .i64 d, .int .i64 s, .int .i64 l, .int .i64 a] 23)) (.cells #[.int .i64 x.gen, .int .i64 x.ep, .int .i64 x.pos, .int .i64 x.seq, .int .i64 x.last, .string x.lab, .slice x.HA x.hs.length x.hc] 26)
  rw [show (w.alloc (.cells #[.int .i64 z, .int .i64 d, .int .i64 s, .int .i64 l, .int .i64 a] 23)).heap.size = w.heap.size + 1 by simp] at FF
  have l1 : w.heap.size + 1 < ((w.alloc (.cells #[.int .i64 z, .int .i64 d, .int .i64 s, .int .i64 l, .int .i64 a] 23)).alloc (.cells #[.int .i64 x.gen, .int .i64 x.ep, .int .i64 x.pos, .int .i64 x.seq, .int .i64 x.last, .string x.lab, .slice x.HA x.hs.length x.hc] 26)).heap.size := by simp
  unfold AV.v at cH cR cT HK
  clear hx hh ho hg t3 hT hj hm
  go_enter Tryd.func6, Tryd.ntmps6
  go_upto_region 1 with fail
  generalize (w.alloc (.cells #[.int .i64 z, .int .i64 d, .int .i64 s, .int .i64 l, .int .i64 a] 23)).alloc (.cells #[.int .i64 x.gen, .int .i64 x.ep, .int .i64 x.pos, .int .i64 x.seq, .int .i64 x.last, .string x.lab, .slice x.HA x.hs.length x.hc] 26) = w0 at *
  obtain ⟨c0, c1, c2, c3, c4, c5, c6⟩ := id FF
  obtain ⟨g0, g1, g2, g3, g4⟩ := id GG
  go_upto_region 4 with (first
    | (go_at_call 9; (with_reducible refine (cH _ hb0).mono ?_); rintro e wq ⟨rfl, hbq⟩; replace FF := FF.keep hbq (by omega); replace GG := GG.keep hbq (by omega); replace l1 := Nat.lt_of_lt_of_le l1 hbq.size; clear c0 c1 c2 c3 c4 c5 c6 g0 g1 g2 g3 g4; obtain ⟨c0, c1, c2, c3, c4, c5, c6⟩ := id FF; obtain ⟨g0, g1, g2, g3, g4⟩ := id GG; replace hb0 := bt hb0 hbq; clear hbq)
    | (go_at_call 14; (with_reducible refine (cG _).mono ?_); rintro e wq ⟨rfl, hbq⟩; replace FF := FF.keep hbq (by omega); replace GG := GG.keep hbq (by omega); replace l1 := Nat.lt_of_lt_of_le l1 hbq.size; clear c0 c1 c2 c3 c4 c5 c6 g0 g1 g2 g3 g4; obtain ⟨c0, c1, c2, c3, c4, c5, c6⟩ := id FF; obtain ⟨g0, g1, g2, g3, g4⟩ := id GG; replace hb0 := bt hb0 hbq; clear hbq)
    | (go_at_call 21; (with_reducible refine (cR _ hb0).mono ?_); rintro e wq ⟨rfl, hbq⟩; replace FF := FF.keep hbq (by omega); replace GG := GG.keep hbq (by omega); replace l1 := Nat.lt_of_lt_of_le l1 hbq.size; clear c0 c1 c2 c3 c4 c5 c6 g0 g1 g2 g3 g4; obtain ⟨c0, c1, c2, c3, c4, c5, c6⟩ := id FF; obtain ⟨g0, g1, g2, g3, g4⟩ := id GG; replace hb0 := bt hb0 hbq; clear hbq)
    | (go_at_call 10; (with_reducible refine (cT _ hb0).mono ?_); rintro e wT ⟨⟨y, rfl, hyd, hyo, hyp⟩, hbq⟩; have hbase := l1; replace FF := FF.keep hbq (by omega); replace GG := GG.keep hbq (by omega); replace l1 := Nat.lt_of_lt_of_le l1 hbq.size; clear c0 c1 c2 c3 c4 c5 c6 g0 g1 g2 g3 g4; obtain ⟨c0, c1, c2, c3, c4, c5, c6⟩ := id FF; obtain ⟨g0, g1, g2, g3, g4⟩ := id GG; replace hb0 := bt hb0 hbq; clear hbq))
  have hln : y.hs.length = x.hs.length := by
    have := congrArg (fun u => u.hs.length) hyd
    exact (hds_length y.hs).symm.trans (this.trans (hds_length x.hs))
  have hjy : j < y.hs.length := by omega
  obtain ⟨r, hr⟩ : ∃ r, y.hs[j]? = some r := ⟨_, List.getElem?_eq_getElem hjy⟩
  have hro : HomeOk d s r.d := HG.out.2.2.2.2.2.2.2.2 r.d (by rw [← hyd]; exact List.mem_map_of_mem (List.mem_of_getElem? hr))
  obtain ⟨b, hHA, hbT, hbB⟩ := hyo.tab (by omega)
  have hyin := AV.Own.inn hyo
  obtain ⟨gp, hgp, -, hgT, hgB⟩ := hyo.row hr (by have := hro.1; have := HO.out.2.1; have e : r.d.ps.length = r.ps.length := rfl; omega)
  have hx6 := bl wT (.cells #[.int .i64 y.gen, .int .i64 y.ep, .int .i64 y.pos, .int .i64 y.seq, .int .i64 y.last, .string y.lab, .slice y.HA y.hs.length y.hc] 26)
  have FY := sev_new wT (.int .i64 y.gen) (.int .i64 y.ep) (.int .i64 y.pos) (.int .i64 y.seq) (.int .i64 y.last) (.string y.lab) (.slice y.HA y.hs.length y.hc) 26
  have lY : wT.heap.size < (wT.alloc (.cells #[.int .i64 y.gen, .int .i64 y.ep, .int .i64 y.pos, .int .i64 y.seq, .int .i64 y.last, .string y.lab, .slice y.HA y.hs.length y.hc] 26)).heap.size := by simp
  have hyo2 := OwnH.below hyo hx6
  replace FF := FF.keep hx6 l1
  replace GG := GG.keep hx6 (by omega)
  replace hb0 := bt hb0 hx6
  obtain ⟨gy, hgy⟩ : ∃ g, g = wT.heap.size := ⟨_, rfl⟩
  rw [← hgy] at FY lY hbT hgT hx6 hyin ⊢
  replace l1 : w.heap.size + 1 < gy := by omega
  have hyin4 := hyin.below hx6
  clear c0 c1 c2 c3 c4 c5 c6 g0 g1 g2 g3 g4 hx6 hgy hyo hyin cH cR cT cG
  generalize wT.alloc (.cells #[.int .i64 y.gen, .int .i64 y.ep, .int .i64 y.pos, .int .i64 y.seq, .int .i64 y.last, .string y.lab, .slice y.HA y.hs.length y.hc] 26) = w4 at *
  rw [hHA, hln] at FY
  have HYD := Lib.hid hyd
  have HYO := Lib.hid hyo2
  have HYP := Lib.hid hyp
  have HIN := Lib.hid hyin4
  have HR := Lib.hid hr
  have HRO := Lib.hid hro
  have HHA := Lib.hid hHA
  have HGP := Lib.hid hgp
  have HLN := Lib.hid hln
  obtain ⟨c0, c1, c2, c3, c4, c5, c6⟩ := id FF
  obtain ⟨g0, g1, g2, g3, g4⟩ := id GG
  obtain ⟨y0, y1, y2, y3, y4, y5, y6, -, -, -, -, -, -, -⟩ := id FY
  have hxb : x.hs.length ≤ 1048576 := by omega
  have n0 : ¬ (x.hs.length : Int) = 0 := by omega
  have n1 : ((x.hs.length : Int) == 0) = false := beq_eq_false_iff_ne.2 n0
  have n2 : (0 : Int) ≤ (j : Int) := by omega
  have n3 : (j : Int) < (x.hs.length : Int) := by omega
  have n4 : IntKind.u64.wrap (x.hs.length : Int) = (x.hs.length : Int) := IntWalk.u64_in _ (by omega)
  have n5 : IntKind.i64.wrap (j : Int) = (j : Int) := IntWalk.i64_in _ (by omega)
  have n6 := HJ.out
  clear hyin4 hyd hyo2 hyp hr hro hHA hgp hln hjy
  go_quiet (fail)
  have hbN := below_dn (Below.refl w4.heap.size w4) nq
  have HYO : Hid (AV.Own _ _ y) := Lib.hid (OwnH.below HYO.out hbN)
  have HIN := Lib.hid (HIN.out.below (hbN.mono (Nat.le_of_lt lY)))
  replace FF := FF.keep hbN (by omega)
  replace GG := GG.keep hbN (by omega)
  replace FY := FY.keep hbN lY
  replace lY := Nat.lt_of_lt_of_le lY hbN.size
  replace hb0 := bt hb0 hbN
  clear c0 c1 c2 c3 c4 c5 c6 g0 g1 g2 g3 g4 y0 y1 y2 y3 y4 y5 y6 n1 n4 n5 n6 hbN
  generalize w4.drewN nq = w5 at *
  have m0 := HM.out
  have m1 : (IntKind.u64.wrap how) % 7 = 0 := by rw [← Int.tmod_eq_emod_of_nonneg (wrap_nonneg how)]; exact m0
  have hjy : j < y.hs.length := by rw [HLN.out]; exact hjn
  have hps1 : (r.ps.length : Int) = d + 1 := HRO.out.1
  obtain ⟨p0, p1, t, hps⟩ := two_more hps1 HO.out.2.1.1
  have hpl : 2 ≤ r.ps.length := by rw [hps]; simp
  obtain ⟨gq, hgq, hown, -, -⟩ := AV.Own.row HYO.out HR.out (by omega)
  obtain rfl : gp = gq := by have := HGP.out.symm.trans hgq; simpa using this
  have e0 := hown.cell 0 (by rw [ints_length]; omega)
  have e1 := hown.cell 1 (by rw [ints_length]; omega)
  rw [ints_get, show r.ps[0] = p0 by simp [hps]] at e0
  rw [ints_get, show r.ps[1] = p1 by simp [hps]] at e1
  have f0 := OwnV.frozen (ints_length _) hown 0
  obtain ⟨b', off, r', k9, -, k0, k1, -, -, -, k8, -⟩ := home_at HIN.out.hh HIN.out.hi (k := j) hjy
  obtain ⟨rfl, rfl⟩ : b = b' ∧ 0 = off := by have := HHA.out.symm.trans k9; simpa using this
  obtain rfl : r = r' := Option.some.inj (HR.out.symm.trans k8)
  rw [HGP.out, Nat.zero_add] at k0
  rw [Nat.zero_add] at k1
  have i0 : (0 : Int) < (r.ps.length : Int) := by omega
  have i1 : (1 : Int) < (r.ps.length : Int) := by omega
  have i2 : 0 < r.ps.length := by omega
  have HPS := Lib.hid hps
  clear hown hgq k9 k8 hps hps1
  obtain ⟨g0, g1, g2, g3, g4⟩ := id GG
  obtain ⟨y0, y1, y2, y3, y4, y5, y6, -, -, -, -, -, -, -⟩ := id FY
  go_upto_region 8 with fail
  go_still_tail 11, (by kernel_rfl)
  change wpList _ _ _ _ _ w5.drew
  have hD := below_dr (Below.refl w5.heap.size w5)
  have HYO7 := Lib.hid (show AV.Own w5.drew _ y from OwnH.below HYO.out hD)
  have HIN7 := Lib.hid (HIN.out.below (hD.mono (Nat.le_of_lt lY)))
  replace f0 := (hD.frozen (p := ⟨gp, 0, none⟩) (by show gp < _; omega)).trans f0
  replace e0 := kst hD (by omega) e0
  replace e1 := kst hD (by omega) e1
  replace FF := FF.keep hD (by omega)
  replace GG := GG.keep hD (by omega)
  replace FY := FY.keep hD lY
  replace lY := Nat.lt_of_lt_of_le lY hD.size
  replace hb0 := bt hb0 hD
  clear g0 g1 g2 g3 g4 y0 y1 y2 y3 y4 y5 y6 k0 k1 hD HYO HIN
  generalize w5.drew = w7 at *
  go_upto_region 19 with fail
  have HYO6 := AV.Own.set_place HYO7.out HYP.out HR.out HGP.out 0 (p1)
  have HI := Lib.hid HYO6.inn
  have hB6 : Below gp w7 (w7.setCell ⟨gp, 0, none⟩ (.int .i64 p1)) := (Below.refl gp w7).setCell (p := ⟨gp, 0, none⟩) (Nat.le_refl gp) _
  have FY6 := FY.apart (g' := gp) (o := 0) (by omega) (.int .i64 p1)
  have lY6 : gy < ((w7.setCell ⟨gp, 0, none⟩ (.int .i64 p1))).heap.size := by simpa using lY
  replace FF := FF.keep hB6 (by omega)
  replace GG := GG.keep hB6 (by omega)
  replace hb0 := hb0.trans (hB6.mono (by omega))
  clear f0 e0 e1 FY lY hB6 HYO7 HYO6 HIN7 i0 i1 i2
  generalize (w7.setCell ⟨gp, 0, none⟩ (.int .i64 p1)) = w6 at *
  have FY := FY6
  have lY := lY6
  clear FY6 lY6
  have HBAD := Lib.hid (show ¬ Good z d s l (AV.d ({ y with hs := y.hs.set j { r with ps := r.ps.set 0 (p1) } })) from fun h => by
    have h1 := (bad_home hjy h).2.2.2 1 (by show 1 < (r.ps.set 0 p1).length; rw [List.length_set]; omega)
    refine h1.2 0 (by omega) ?_
    show (r.ps.set 0 p1)[0]'_ = (r.ps.set 0 p1)[1]'_
    simp [HPS.out])
  have hv : AV.v ({ y with hs := y.hs.set j { r with ps := r.ps.set 0 (p1) } }) = .agg #[.int .i64 y.gen, .int .i64 y.ep, .int .i64 y.pos, .int .i64 y.seq, .int .i64 y.last, .string y.lab, .slice (some ⟨b, 0, none⟩) x.hs.length y.hc] := by unfold AV.v; dsimp only; rw [HHA.out, List.length_set, HLN.out]
  have hlab : y.lab.size ≤ 4294967296 := by
    have e : y.lab = x.lab := congrArg Anc.lab HYD.out
    rw [e]
    omega
  have HB2 := Lib.hid (show ∀ W, Below w6.heap.size w6 W → Calls Tryd.prog 12 #[.agg #[.int .i64 z, .int .i64 d, .int .i64 s, .int .i64 l, .int .i64 a], .agg #[.int .i64 y.gen, .int .i64 y.ep, .int .i64 y.pos, .int .i64 y.seq, .int .i64 y.last, .string y.lab, .slice (some ⟨b, 0, none⟩) x.hs.length y.hc]] W fun e w' => e = .returned (.tuple #[.slice none 0 0, .int .i64 1]) ∧ Below W.heap.size W w' from fun W hW => by
    have h := bytes_not hV z d s l a ({ y with hs := y.hs.set j { r with ps := r.ps.set 0 (p1) } }) W (tn HT.out (bt hb0 hW)) HO.out (HI.out.next hW) hlab HBAD.out
    rwa [hv] at h)
  have HC2 := Lib.hid (show ∀ W, Below w6.heap.size w6 W → Calls Tryd.prog 15 #[.agg #[.int .i64 z, .int .i64 d, .int .i64 s, .int .i64 l, .int .i64 a], .agg #[.int .i64 y.gen, .int .i64 y.ep, .int .i64 y.pos, .int .i64 y.seq, .int .i64 y.last, .string y.lab, .slice (some ⟨b, 0, none⟩) x.hs.length y.hc]] W fun e w' => e = .returned (.int .i64 1) ∧ Below W.heap.size W w' from fun W hW => by
    have h := check_p hV z d s l a false ({ y with hs := y.hs.set j { r with ps := r.ps.set 0 (p1) } }) W (tn HT.out (bt hb0 hW)) HO.out (HI.out.next hW) hlab (iff_of_false Bool.false_ne_true HBAD.out)
    rwa [hv] at h)
  have hb6 := Below.refl w6.heap.size w6
  clear hv hlab
  obtain ⟨c0, c1, c2, c3, c4, c5, c6⟩ := id FF
  obtain ⟨g0, g1, g2, g3, g4⟩ := id GG
  obtain ⟨y0, y1, y2, y3, y4, y5, y6, -, -, -, -, -, -, -⟩ := id FY
  go_wp2_with (first
    | (go_at_call 12; (with_reducible refine (HB2.out _ hb6).mono ?_); rintro e wq ⟨rfl, hbq⟩; replace FF := FF.keep hbq (by omega); replace GG := GG.keep hbq (by omega); replace FY := FY.keep hbq lY; replace lY := Nat.lt_of_lt_of_le lY hbq.size; clear c0 c1 c2 c3 c4 c5 c6 g0 g1 g2 g3 g4 y0 y1 y2 y3 y4 y5 y6; obtain ⟨c0, c1, c2, c3, c4, c5, c6⟩ := id FF; obtain ⟨g0, g1, g2, g3, g4⟩ := id GG; obtain ⟨y0, y1, y2, y3, y4, y5, y6, -, -, -, -, -, -, -⟩ := id FY; replace hb0 := bt hb0 hbq; replace hb6 := bt hb6 hbq; clear hbq)
    | (go_at_call 15; (with_reducible refine (HK.out _ hb0).mono ?_); rintro e wq ⟨rfl, hbq⟩; replace FF := FF.keep hbq (by omega); replace GG := GG.keep hbq (by omega); replace FY := FY.keep hbq lY; replace lY := Nat.lt_of_lt_of_le lY hbq.size; clear c0 c1 c2 c3 c4 c5 c6 g0 g1 g2 g3 g4 y0 y1 y2 y3 y4 y5 y6; obtain ⟨c0, c1, c2, c3, c4, c5, c6⟩ := id FF; obtain ⟨g0, g1, g2, g3, g4⟩ := id GG; obtain ⟨y0, y1, y2, y3, y4, y5, y6, -, -, -, -, -, -, -⟩ := id FY; replace hb0 := bt hb0 hbq; replace hb6 := bt hb6 hbq; clear hbq)
    | (go_at_call 15; (with_reducible refine (HC2.out _ hb6).mono ?_); rintro e wq ⟨rfl, hbq⟩; replace FF := FF.keep hbq (by omega); replace GG := GG.keep hbq (by omega); replace FY := FY.keep hbq lY; replace lY := Nat.lt_of_lt_of_le lY hbq.size; clear c0 c1 c2 c3 c4 c5 c6 g0 g1 g2 g3 g4 y0 y1 y2 y3 y4 y5 y6; obtain ⟨c0, c1, c2, c3, c4, c5, c6⟩ := id FF; obtain ⟨g0, g1, g2, g3, g4⟩ := id GG; obtain ⟨y0, y1, y2, y3, y4, y5, y6, -, -, -, -, -, -, -⟩ := id FY; replace hb0 := bt hb0 hbq; replace hb6 := bt hb6 hbq; clear hbq)
    | (go_at_call 17; (with_reducible refine (wk_anc hV hC _ (tn HT.out hb0)).mono ?_); rintro e wz ⟨rfl, hbz⟩))
  go_ret
  exact ⟨rfl, bt hb0 hbz⟩
set_option maxRecDepth 100000 in
set_option maxHeartbeats 8000000 in
theorem bent_1 (hV : ValidOk) (hC : CloneOk) (j : Nat) (z d s l a : Int) (x : AV) (zz how : Int) (w : World) (hT : Tabs w) (hx : x.In w w.heap.size) (hh : ¬ HeavyA x.d) (ho : Ok z d s l a) (hg : Good z d s l x.d) (hjn : j < x.hs.length) (hj : (IntKind.u64.wrap zz).tmod (x.hs.length : Int) = (j : Int)) (hm : (IntKind.u64.wrap how).tmod 7 = 1) :
    Calls Tryd.prog 6 #[.agg #[.int .i64 z, .int .i64 d, .int .i64 s, .int .i64 l, .int .i64 a], x.v, .int .i64 zz, .int .i64 how] w fun e w' => e = .returned (.bool true) ∧ Below w.heap.size w w' := by
  obtain ⟨t1, t2, t3⟩ := light hh
  have HT := Lib.hid hT
  have cH := fun W (hW : Below w.heap.size w W) => heavy_any false x W (hx.next hW) (iff_of_false Bool.false_ne_true hh)
  have cG := fun W => rgeo_at true z d s l a W (iff_of_true rfl ho)
  have cR := fun W (hW : Below w.heap.size w W) => right_p z d s l a true x W ho (hx.next hW) (by omega) (fun r hr => by have := t3 r hr; omega) (by omega) (iff_of_true rfl hg)
  have cT := fun W (hW : Below w.heap.size w W) => twin_parted x W (hx.next hW) (by omega) (fun r hr => by have := t3 r hr; omega)
  have HK := Lib.hid (show ∀ W, Below w.heap.size w W → Calls Tryd.prog 15 #[.agg #[.int .i64 z, .int .i64 d, .int .i64 s, .int .i64 l, .int .i64 a], x.v] W fun e w' => e = .returned (.int .i64 0) ∧ Below W.heap.size W w' from fun W hW => check_p hV z d s l a true x W (tn HT.out hW) ho (hx.next hW) (by omega) (iff_of_true rfl hg))
  have HG := Lib.hid hg
  have HO := Lib.hid ho
  have HJ := Lib.hid hj
  have HM := Lib.hid hm
  unfold AV.v
  have GG := (g5_new w z d s l a).keep (bl (w.alloc (.cells #[.int .i64 z, .int .i64 d, .int .i64 s, .int .i64 l, .int .i64 a] 23)) (.cells #[.int .i64 x.gen, .int .i64 x.ep, .int .i64 x.pos, .int .i64 x.seq, .int .i64 x.last, .string x.lab, .slice x.HA x.hs.length x.hc] 26)) (by simp)
  have FF := ac_new (w.alloc (.cells #[.int .i64 z, .int .i64 d, .int .i64 s, .int .i64 l, .int .i64 a] 23)) x
  have hb0 := kal (bl w (.cells #[.int .i64 z, .int .i64 d, .int .i64 s, .int .i64 l, .int .i64 a] 23)) (.cells #[.int .i64 x.gen, .int .i64 x.ep, .int .i64 x.pos, .int .i64 x.seq, .int .i64 x.last, .string x.lab, .slice x.HA x.hs.length x.hc] 26)
  rw [show (w.alloc (.cells #[.int .i64 z, .int .i64 d, .int .i64 s, .int .i64 l, .int .i64 a] 23)).heap.size = w.heap.size + 1 by simp] at FF
  have l1 : w.heap.size + 1 < ((w.alloc (.cells #[.int .i64 z, .int .i64 d, .int .i64 s, .int .i64 l, .int .i64 a] 23)).alloc (.cells #[.int .i64 x.gen, .int .i64 x.ep, .int .i64 x.pos, .int .i64 x.seq, .int .i64 x.last, .string x.lab, .slice x.HA x.hs.length x.hc] 26)).heap.size := by simp
  unfold AV.v at cH cR cT HK
  clear hx hh ho hg t3 hT hj hm
  go_enter Tryd.func6, Tryd.ntmps6
  go_upto_region 1 with fail
  generalize (w.alloc (.cells #[.int .i64 z, .int .i64 d, .int .i64 s, .int .i64 l, .int .i64 a] 23)).alloc (.cells #[.int .i64 x.gen, .int .i64 x.ep, .int .i64 x.pos, .int .i64 x.seq, .int .i64 x.last, .string x.lab, .slice x.HA x.hs.length x.hc] 26) = w0 at *
  obtain ⟨c0, c1, c2, c3, c4, c5, c6⟩ := id FF
  obtain ⟨g0, g1, g2, g3, g4⟩ := id GG
  go_upto_region 4 with (first
    | (go_at_call 9; (with_reducible refine (cH _ hb0).mono ?_); rintro e wq ⟨rfl, hbq⟩; replace FF := FF.keep hbq (by omega); replace GG := GG.keep hbq (by omega); replace l1 := Nat.lt_of_lt_of_le l1 hbq.size; clear c0 c1 c2 c3 c4 c5 c6 g0 g1 g2 g3 g4; obtain ⟨c0, c1, c2, c3, c4, c5, c6⟩ := id FF; obtain ⟨g0, g1, g2, g3, g4⟩ := id GG; replace hb0 := bt hb0 hbq; clear hbq)
    | (go_at_call 14; (with_reducible refine (cG _).mono ?_); rintro e wq ⟨rfl, hbq⟩; replace FF := FF.keep hbq (by omega); replace GG := GG.keep hbq (by omega); replace l1 := Nat.lt_of_lt_of_le l1 hbq.size; clear c0 c1 c2 c3 c4 c5 c6 g0 g1 g2 g3 g4; obtain ⟨c0, c1, c2, c3, c4, c5, c6⟩ := id FF; obtain ⟨g0, g1, g2, g3, g4⟩ := id GG; replace hb0 := bt hb0 hbq; clear hbq)
    | (go_at_call 21; (with_reducible refine (cR _ hb0).mono ?_); rintro e wq ⟨rfl, hbq⟩; replace FF := FF.keep hbq (by omega); replace GG := GG.keep hbq (by omega); replace l1 := Nat.lt_of_lt_of_le l1 hbq.size; clear c0 c1 c2 c3 c4 c5 c6 g0 g1 g2 g3 g4; obtain ⟨c0, c1, c2, c3, c4, c5, c6⟩ := id FF; obtain ⟨g0, g1, g2, g3, g4⟩ := id GG; replace hb0 := bt hb0 hbq; clear hbq)
    | (go_at_call 10; (with_reducible refine (cT _ hb0).mono ?_); rintro e wT ⟨⟨y, rfl, hyd, hyo, hyp⟩, hbq⟩; have hbase := l1; replace FF := FF.keep hbq (by omega); replace GG := GG.keep hbq (by omega); replace l1 := Nat.lt_of_lt_of_le l1 hbq.size; clear c0 c1 c2 c3 c4 c5 c6 g0 g1 g2 g3 g4; obtain ⟨c0, c1, c2, c3, c4, c5, c6⟩ := id FF; obtain ⟨g0, g1, g2, g3, g4⟩ := id GG; replace hb0 := bt hb0 hbq; clear hbq))
  have hln : y.hs.length = x.hs.length := by
    have := congrArg (fun u => u.hs.length) hyd
    exact (hds_length y.hs).symm.trans (this.trans (hds_length x.hs))
  have hjy : j < y.hs.length := by omega
  obtain ⟨r, hr⟩ : ∃ r, y.hs[j]? = some r := ⟨_, List.getElem?_eq_getElem hjy⟩
  have hro : HomeOk d s r.d := HG.out.2.2.2.2.2.2.2.2 r.d (by rw [← hyd]; exact List.mem_map_of_mem (List.mem_of_getElem? hr))
  obtain ⟨b, hHA, hbT, hbB⟩ := hyo.tab (by omega)
  have hyin := AV.Own.inn hyo
  obtain ⟨gp, hgp, -, hgT, hgB⟩ := hyo.row hr (by have := hro.1; have := HO.out.2.1; have e : r.d.ps.length = r.ps.length := rfl; omega)
  have hx6 := bl wT (.cells #[.int .i64 y.gen, .int .i64 y.ep, .int .i64 y.pos, .int .i64 y.seq, .int .i64 y.last, .string y.lab, .slice y.HA y.hs.length y.hc] 26)
  have FY := sev_new wT (.int .i64 y.gen) (.int .i64 y.ep) (.int .i64 y.pos) (.int .i64 y.seq) (.int .i64 y.last) (.string y.lab) (.slice y.HA y.hs.length y.hc) 26
  have lY : wT.heap.size < (wT.alloc (.cells #[.int .i64 y.gen, .int .i64 y.ep, .int .i64 y.pos, .int .i64 y.seq, .int .i64 y.last, .string y.lab, .slice y.HA y.hs.length y.hc] 26)).heap.size := by simp
  have hyo2 := OwnH.below hyo hx6
  replace FF := FF.keep hx6 l1
  replace GG := GG.keep hx6 (by omega)
  replace hb0 := bt hb0 hx6
  obtain ⟨gy, hgy⟩ : ∃ g, g = wT.heap.size := ⟨_, rfl⟩
  rw [← hgy] at FY lY hbT hgT hx6 hyin ⊢
  replace l1 : w.heap.size + 1 < gy := by omega
  have hyin4 := hyin.below hx6
  clear c0 c1 c2 c3 c4 c5 c6 g0 g1 g2 g3 g4 hx6 hgy hyo hyin cH cR cT cG
  generalize wT.alloc (.cells #[.int .i64 y.gen, .int .i64 y.ep, .int .i64 y.pos, .int .i64 y.seq, .int .i64 y.last, .string y.lab, .slice y.HA y.hs.length y.hc] 26) = w4 at *
  rw [hHA, hln] at FY
  have HYD := Lib.hid hyd
  have HYO := Lib.hid hyo2
  have HYP := Lib.hid hyp
  have HIN := Lib.hid hyin4
  have HR := Lib.hid hr
  have HRO := Lib.hid hro
  have HHA := Lib.hid hHA
  have HGP := Lib.hid hgp
  have HLN := Lib.hid hln
  obtain ⟨c0, c1, c2, c3, c4, c5, c6⟩ := id FF
  obtain ⟨g0, g1, g2, g3, g4⟩ := id GG
  obtain ⟨y0, y1, y2, y3, y4, y5, y6, -, -, -, -, -, -, -⟩ := id FY
  have hxb : x.hs.length ≤ 1048576 := by omega
  have n0 : ¬ (x.hs.length : Int) = 0 := by omega
  have n1 : ((x.hs.length : Int) == 0) = false := beq_eq_false_iff_ne.2 n0
  have n2 : (0 : Int) ≤ (j : Int) := by omega
  have n3 : (j : Int) < (x.hs.length : Int) := by omega
  have n4 : IntKind.u64.wrap (x.hs.length : Int) = (x.hs.length : Int) := IntWalk.u64_in _ (by omega)
  have n5 : IntKind.i64.wrap (j : Int) = (j : Int) := IntWalk.i64_in _ (by omega)
  have n6 := HJ.out
  clear hyin4 hyd hyo2 hyp hr hro hHA hgp hln hjy
  go_quiet (fail)
  have hbN := below_dn (Below.refl w4.heap.size w4) nq
  have HYO : Hid (AV.Own _ _ y) := Lib.hid (OwnH.below HYO.out hbN)
  have HIN := Lib.hid (HIN.out.below (hbN.mono (Nat.le_of_lt lY)))
  replace FF := FF.keep hbN (by omega)
  replace GG := GG.keep hbN (by omega)
  replace FY := FY.keep hbN lY
  replace lY := Nat.lt_of_lt_of_le lY hbN.size
  replace hb0 := bt hb0 hbN
  clear c0 c1 c2 c3 c4 c5 c6 g0 g1 g2 g3 g4 y0 y1 y2 y3 y4 y5 y6 n1 n4 n5 n6 hbN
  generalize w4.drewN nq = w5 at *
  have m0 := HM.out
  have m1 : (IntKind.u64.wrap how) % 7 = 1 := by rw [← Int.tmod_eq_emod_of_nonneg (wrap_nonneg how)]; exact m0
  have hjy : j < y.hs.length := by rw [HLN.out]; exact hjn
  have hps1 : (r.ps.length : Int) = d + 1 := HRO.out.1
  obtain ⟨p0, p1, t, hps⟩ := two_more hps1 HO.out.2.1.1
  have hpl : 2 ≤ r.ps.length := by rw [hps]; simp
  obtain ⟨gq, hgq, hown, -, -⟩ := AV.Own.row HYO.out HR.out (by omega)
  obtain rfl : gp = gq := by have := HGP.out.symm.trans hgq; simpa using this
  have e0 := hown.cell 0 (by rw [ints_length]; omega)
  have e1 := hown.cell 1 (by rw [ints_length]; omega)
  rw [ints_get, show r.ps[0] = p0 by simp [hps]] at e0
  rw [ints_get, show r.ps[1] = p1 by simp [hps]] at e1
  have f0 := OwnV.frozen (ints_length _) hown 0
  obtain ⟨b', off, r', k9, -, k0, k1, -, -, -, k8, -⟩ := home_at HIN.out.hh HIN.out.hi (k := j) hjy
  obtain ⟨rfl, rfl⟩ : b = b' ∧ 0 = off := by have := HHA.out.symm.trans k9; simpa using this
  obtain rfl : r = r' := Option.some.inj (HR.out.symm.trans k8)
  rw [HGP.out, Nat.zero_add] at k0
  rw [Nat.zero_add] at k1
  have i0 : (0 : Int) < (r.ps.length : Int) := by omega
  have i1 : (1 : Int) < (r.ps.length : Int) := by omega
  have i2 : 0 < r.ps.length := by omega
  have HPS := Lib.hid hps
  clear hown hgq k9 k8 hps hps1
  obtain ⟨g0, g1, g2, g3, g4⟩ := id GG
  obtain ⟨y0, y1, y2, y3, y4, y5, y6, -, -, -, -, -, -, -⟩ := id FY
  go_upto_region 10 with fail
  go_still_tail 9, (by kernel_rfl)
  change wpList _ _ _ _ _ w5.drew
  have hD := below_dr (Below.refl w5.heap.size w5)
  have HYO7 := Lib.hid (show AV.Own w5.drew _ y from OwnH.below HYO.out hD)
  have HIN7 := Lib.hid (HIN.out.below (hD.mono (Nat.le_of_lt lY)))
  replace f0 := (hD.frozen (p := ⟨gp, 0, none⟩) (by show gp < _; omega)).trans f0
  replace e0 := kst hD (by omega) e0
  replace e1 := kst hD (by omega) e1
  replace FF := FF.keep hD (by omega)
  replace GG := GG.keep hD (by omega)
  replace FY := FY.keep hD lY
  replace lY := Nat.lt_of_lt_of_le lY hD.size
  replace hb0 := bt hb0 hD
  clear g0 g1 g2 g3 g4 y0 y1 y2 y3 y4 y5 y6 k0 k1 hD HYO HIN
  generalize w5.drew = w7 at *
  go_upto_region 19 with fail
  have HYO6 := AV.Own.set_place HYO7.out HYP.out HR.out HGP.out 0 (r.nx)
  have HI := Lib.hid HYO6.inn
  have hB6 : Below gp w7 (w7.setCell ⟨gp, 0, none⟩ (.int .i64 r.nx)) := (Below.refl gp w7).setCell (p := ⟨gp, 0, none⟩) (Nat.le_refl gp) _
  have FY6 := FY.apart (g' := gp) (o := 0) (by omega) (.int .i64 r.nx)
  have lY6 : gy < ((w7.setCell ⟨gp, 0, none⟩ (.int .i64 r.nx))).heap.size := by simpa using lY
  replace FF := FF.keep hB6 (by omega)
  replace GG := GG.keep hB6 (by omega)
  replace hb0 := hb0.trans (hB6.mono (by omega))
  clear f0 e0 e1 FY lY hB6 HYO7 HYO6 HIN7 i0 i1 i2
  generalize (w7.setCell ⟨gp, 0, none⟩ (.int .i64 r.nx)) = w6 at *
  have FY := FY6
  have lY := lY6
  clear FY6 lY6
  have HBAD := Lib.hid (show ¬ Good z d s l (AV.d ({ y with hs := y.hs.set j { r with ps := r.ps.set 0 (r.nx) } })) from fun h => by
    have h1 := (bad_home hjy h).2.2.2 0 (by show 0 < (r.ps.set 0 r.nx).length; rw [List.length_set]; omega)
    have h2 : (r.ps.set 0 r.nx)[0]'(by rw [List.length_set]; omega) ≤ r.nx - 1 := h1.1.2
    simp at h2
    omega)
  have hv : AV.v ({ y with hs := y.hs.set j { r with ps := r.ps.set 0 (r.nx) } }) = .agg #[.int .i64 y.gen, .int .i64 y.ep, .int .i64 y.pos, .int .i64 y.seq, .int .i64 y.last, .string y.lab, .slice (some ⟨b, 0, none⟩) x.hs.length y.hc] := by unfold AV.v; dsimp only; rw [HHA.out, List.length_set, HLN.out]
  have hlab : y.lab.size ≤ 4294967296 := by
    have e : y.lab = x.lab := congrArg Anc.lab HYD.out
    rw [e]
    omega
  have HB2 := Lib.hid (show ∀ W, Below w6.heap.size w6 W → Calls Tryd.prog 12 #[.agg #[.int .i64 z, .int .i64 d, .int .i64 s, .int .i64 l, .int .i64 a], .agg #[.int .i64 y.gen, .int .i64 y.ep, .int .i64 y.pos, .int .i64 y.seq, .int .i64 y.last, .string y.lab, .slice (some ⟨b, 0, none⟩) x.hs.length y.hc]] W fun e w' => e = .returned (.tuple #[.slice none 0 0, .int .i64 1]) ∧ Below W.heap.size W w' from fun W hW => by
    have h := bytes_not hV z d s l a ({ y with hs := y.hs.set j { r with ps := r.ps.set 0 (r.nx) } }) W (tn HT.out (bt hb0 hW)) HO.out (HI.out.next hW) hlab HBAD.out
    rwa [hv] at h)
  have HC2 := Lib.hid (show ∀ W, Below w6.heap.size w6 W → Calls Tryd.prog 15 #[.agg #[.int .i64 z, .int .i64 d, .int .i64 s, .int .i64 l, .int .i64 a], .agg #[.int .i64 y.gen, .int .i64 y.ep, .int .i64 y.pos, .int .i64 y.seq, .int .i64 y.last, .string y.lab, .slice (some ⟨b, 0, none⟩) x.hs.length y.hc]] W fun e w' => e = .returned (.int .i64 1) ∧ Below W.heap.size W w' from fun W hW => by
    have h := check_p hV z d s l a false ({ y with hs := y.hs.set j { r with ps := r.ps.set 0 (r.nx) } }) W (tn HT.out (bt hb0 hW)) HO.out (HI.out.next hW) hlab (iff_of_false Bool.false_ne_true HBAD.out)
    rwa [hv] at h)
  have hb6 := Below.refl w6.heap.size w6
  clear hv hlab
  obtain ⟨c0, c1, c2, c3, c4, c5, c6⟩ := id FF
  obtain ⟨g0, g1, g2, g3, g4⟩ := id GG
  obtain ⟨y0, y1, y2, y3, y4, y5, y6, -, -, -, -, -, -, -⟩ := id FY
  go_wp2_with (first
    | (go_at_call 12; (with_reducible refine (HB2.out _ hb6).mono ?_); rintro e wq ⟨rfl, hbq⟩; replace FF := FF.keep hbq (by omega); replace GG := GG.keep hbq (by omega); replace FY := FY.keep hbq lY; replace lY := Nat.lt_of_lt_of_le lY hbq.size; clear c0 c1 c2 c3 c4 c5 c6 g0 g1 g2 g3 g4 y0 y1 y2 y3 y4 y5 y6; obtain ⟨c0, c1, c2, c3, c4, c5, c6⟩ := id FF; obtain ⟨g0, g1, g2, g3, g4⟩ := id GG; obtain ⟨y0, y1, y2, y3, y4, y5, y6, -, -, -, -, -, -, -⟩ := id FY; replace hb0 := bt hb0 hbq; replace hb6 := bt hb6 hbq; clear hbq)
    | (go_at_call 15; (with_reducible refine (HK.out _ hb0).mono ?_); rintro e wq ⟨rfl, hbq⟩; replace FF := FF.keep hbq (by omega); replace GG := GG.keep hbq (by omega); replace FY := FY.keep hbq lY; replace lY := Nat.lt_of_lt_of_le lY hbq.size; clear c0 c1 c2 c3 c4 c5 c6 g0 g1 g2 g3 g4 y0 y1 y2 y3 y4 y5 y6; obtain ⟨c0, c1, c2, c3, c4, c5, c6⟩ := id FF; obtain ⟨g0, g1, g2, g3, g4⟩ := id GG; obtain ⟨y0, y1, y2, y3, y4, y5, y6, -, -, -, -, -, -, -⟩ := id FY; replace hb0 := bt hb0 hbq; replace hb6 := bt hb6 hbq; clear hbq)
    | (go_at_call 15; (with_reducible refine (HC2.out _ hb6).mono ?_); rintro e wq ⟨rfl, hbq⟩; replace FF := FF.keep hbq (by omega); replace GG := GG.keep hbq (by omega); replace FY := FY.keep hbq lY; replace lY := Nat.lt_of_lt_of_le lY hbq.size; clear c0 c1 c2 c3 c4 c5 c6 g0 g1 g2 g3 g4 y0 y1 y2 y3 y4 y5 y6; obtain ⟨c0, c1, c2, c3, c4, c5, c6⟩ := id FF; obtain ⟨g0, g1, g2, g3, g4⟩ := id GG; obtain ⟨y0, y1, y2, y3, y4, y5, y6, -, -, -, -, -, -, -⟩ := id FY; replace hb0 := bt hb0 hbq; replace hb6 := bt hb6 hbq; clear hbq)
    | (go_at_call 17; (with_reducible refine (wk_anc hV hC _ (tn HT.out hb0)).mono ?_); rintro e wz ⟨rfl, hbz⟩))
  go_ret
  exact ⟨rfl, bt hb0 hbz⟩
set_option maxRecDepth 100000 in
set_option maxHeartbeats 8000000 in
theorem bent_5 (hV : ValidOk) (hC : CloneOk) (j : Nat) (z d s l a : Int) (x : AV) (zz how : Int) (w : World) (hT : Tabs w) (hx : x.In w w.heap.size) (hh : ¬ HeavyA x.d) (ho : Ok z d s l a) (hg : Good z d s l x.d) (hjn : j < x.hs.length) (hj : (IntKind.u64.wrap zz).tmod (x.hs.length : Int) = (j : Int)) (hm : (IntKind.u64.wrap how).tmod 7 = 5) :
    Calls Tryd.prog 6 #[.agg #[.int .i64 z, .int .i64 d, .int .i64 s, .int .i64 l, .int .i64 a], x.v, .int .i64 zz, .int .i64 how] w fun e w' => e = .returned (.bool true) ∧ Below w.heap.size w w' := by
  obtain ⟨t1, t2, t3⟩ := light hh
  have HT := Lib.hid hT
  have cH := fun W (hW : Below w.heap.size w W) => heavy_any false x W (hx.next hW) (iff_of_false Bool.false_ne_true hh)
  have cG := fun W => rgeo_at true z d s l a W (iff_of_true rfl ho)
  have cR := fun W (hW : Below w.heap.size w W) => right_p z d s l a true x W ho (hx.next hW) (by omega) (fun r hr => by have := t3 r hr; omega) (by omega) (iff_of_true rfl hg)
  have cT := fun W (hW : Below w.heap.size w W) => twin_parted x W (hx.next hW) (by omega) (fun r hr => by have := t3 r hr; omega)
  have HK := Lib.hid (show ∀ W, Below w.heap.size w W → Calls Tryd.prog 15 #[.agg #[.int .i64 z, .int .i64 d, .int .i64 s, .int .i64 l, .int .i64 a], x.v] W fun e w' => e = .returned (.int .i64 0) ∧ Below W.heap.size W w' from fun W hW => check_p hV z d s l a true x W (tn HT.out hW) ho (hx.next hW) (by omega) (iff_of_true rfl hg))
  have HG := Lib.hid hg
  have HO := Lib.hid ho
  have HJ := Lib.hid hj
  have HM := Lib.hid hm
  unfold AV.v
  have GG := (g5_new w z d s l a).keep (bl (w.alloc (.cells #[.int .i64 z, .int .i64 d, .int .i64 s, .int .i64 l, .int .i64 a] 23)) (.cells #[.int .i64 x.gen, .int .i64 x.ep, .int .i64 x.pos, .int .i64 x.seq, .int .i64 x.last, .string x.lab, .slice x.HA x.hs.length x.hc] 26)) (by simp)
  have FF := ac_new (w.alloc (.cells #[.int .i64 z, .int .i64 d, .int .i64 s, .int .i64 l, .int .i64 a] 23)) x
  have hb0 := kal (bl w (.cells #[.int .i64 z, .int .i64 d, .int .i64 s, .int .i64 l, .int .i64 a] 23)) (.cells #[.int .i64 x.gen, .int .i64 x.ep, .int .i64 x.pos, .int .i64 x.seq, .int .i64 x.last, .string x.lab, .slice x.HA x.hs.length x.hc] 26)
  rw [show (w.alloc (.cells #[.int .i64 z, .int .i64 d, .int .i64 s, .int .i64 l, .int .i64 a] 23)).heap.size = w.heap.size + 1 by simp] at FF
  have l1 : w.heap.size + 1 < ((w.alloc (.cells #[.int .i64 z, .int .i64 d, .int .i64 s, .int .i64 l, .int .i64 a] 23)).alloc (.cells #[.int .i64 x.gen, .int .i64 x.ep, .int .i64 x.pos, .int .i64 x.seq, .int .i64 x.last, .string x.lab, .slice x.HA x.hs.length x.hc] 26)).heap.size := by simp
  unfold AV.v at cH cR cT HK
  clear hx hh ho hg t3 hT hj hm
  go_enter Tryd.func6, Tryd.ntmps6
  go_upto_region 1 with fail
  generalize (w.alloc (.cells #[.int .i64 z, .int .i64 d, .int .i64 s, .int .i64 l, .int .i64 a] 23)).alloc (.cells #[.int .i64 x.gen, .int .i64 x.ep, .int .i64 x.pos, .int .i64 x.seq, .int .i64 x.last, .string x.lab, .slice x.HA x.hs.length x.hc] 26) = w0 at *
  obtain ⟨c0, c1, c2, c3, c4, c5, c6⟩ := id FF
  obtain ⟨g0, g1, g2, g3, g4⟩ := id GG
  go_upto_region 4 with (first
    | (go_at_call 9; (with_reducible refine (cH _ hb0).mono ?_); rintro e wq ⟨rfl, hbq⟩; replace FF := FF.keep hbq (by omega); replace GG := GG.keep hbq (by omega); replace l1 := Nat.lt_of_lt_of_le l1 hbq.size; clear c0 c1 c2 c3 c4 c5 c6 g0 g1 g2 g3 g4; obtain ⟨c0, c1, c2, c3, c4, c5, c6⟩ := id FF; obtain ⟨g0, g1, g2, g3, g4⟩ := id GG; replace hb0 := bt hb0 hbq; clear hbq)
    | (go_at_call 14; (with_reducible refine (cG _).mono ?_); rintro e wq ⟨rfl, hbq⟩; replace FF := FF.keep hbq (by omega); replace GG := GG.keep hbq (by omega); replace l1 := Nat.lt_of_lt_of_le l1 hbq.size; clear c0 c1 c2 c3 c4 c5 c6 g0 g1 g2 g3 g4; obtain ⟨c0, c1, c2, c3, c4, c5, c6⟩ := id FF; obtain ⟨g0, g1, g2, g3, g4⟩ := id GG; replace hb0 := bt hb0 hbq; clear hbq)
    | (go_at_call 21; (with_reducible refine (cR _ hb0).mono ?_); rintro e wq ⟨rfl, hbq⟩; replace FF := FF.keep hbq (by omega); replace GG := GG.keep hbq (by omega); replace l1 := Nat.lt_of_lt_of_le l1 hbq.size; clear c0 c1 c2 c3 c4 c5 c6 g0 g1 g2 g3 g4; obtain ⟨c0, c1, c2, c3, c4, c5, c6⟩ := id FF; obtain ⟨g0, g1, g2, g3, g4⟩ := id GG; replace hb0 := bt hb0 hbq; clear hbq)
    | (go_at_call 10; (with_reducible refine (cT _ hb0).mono ?_); rintro e wT ⟨⟨y, rfl, hyd, hyo, hyp⟩, hbq⟩; have hbase := l1; replace FF := FF.keep hbq (by omega); replace GG := GG.keep hbq (by omega); replace l1 := Nat.lt_of_lt_of_le l1 hbq.size; clear c0 c1 c2 c3 c4 c5 c6 g0 g1 g2 g3 g4; obtain ⟨c0, c1, c2, c3, c4, c5, c6⟩ := id FF; obtain ⟨g0, g1, g2, g3, g4⟩ := id GG; replace hb0 := bt hb0 hbq; clear hbq))
  have hln : y.hs.length = x.hs.length := by
    have := congrArg (fun u => u.hs.length) hyd
    exact (hds_length y.hs).symm.trans (this.trans (hds_length x.hs))
  have hjy : j < y.hs.length := by omega
  obtain ⟨r, hr⟩ : ∃ r, y.hs[j]? = some r := ⟨_, List.getElem?_eq_getElem hjy⟩
  have hro : HomeOk d s r.d := HG.out.2.2.2.2.2.2.2.2 r.d (by rw [← hyd]; exact List.mem_map_of_mem (List.mem_of_getElem? hr))
  obtain ⟨b, hHA, hbT, hbB⟩ := hyo.tab (by omega)
  have hyin := AV.Own.inn hyo
  obtain ⟨gp, hgp, -, hgT, hgB⟩ := hyo.row hr (by have := hro.1; have := HO.out.2.1; have e : r.d.ps.length = r.ps.length := rfl; omega)
  have hx6 := bl wT (.cells #[.int .i64 y.gen, .int .i64 y.ep, .int .i64 y.pos, .int .i64 y.seq, .int .i64 y.last, .string y.lab, .slice y.HA y.hs.length y.hc] 26)
  have FY := sev_new wT (.int .i64 y.gen) (.int .i64 y.ep) (.int .i64 y.pos) (.int .i64 y.seq) (.int .i64 y.last) (.string y.lab) (.slice y.HA y.hs.length y.hc) 26
  have lY : wT.heap.size < (wT.alloc (.cells #[.int .i64 y.gen, .int .i64 y.ep, .int .i64 y.pos, .int .i64 y.seq, .int .i64 y.last, .string y.lab, .slice y.HA y.hs.length y.hc] 26)).heap.size := by simp
  have hyo2 := OwnH.below hyo hx6
  replace FF := FF.keep hx6 l1
  replace GG := GG.keep hx6 (by omega)
  replace hb0 := bt hb0 hx6
  obtain ⟨gy, hgy⟩ : ∃ g, g = wT.heap.size := ⟨_, rfl⟩
  rw [← hgy] at FY lY hbT hgT hx6 hyin ⊢
  replace l1 : w.heap.size + 1 < gy := by omega
  have hyin4 := hyin.below hx6
  clear c0 c1 c2 c3 c4 c5 c6 g0 g1 g2 g3 g4 hx6 hgy hyo hyin cH cR cT cG
  generalize wT.alloc (.cells #[.int .i64 y.gen, .int .i64 y.ep, .int .i64 y.pos, .int .i64 y.seq, .int .i64 y.last, .string y.lab, .slice y.HA y.hs.length y.hc] 26) = w4 at *
  rw [hHA, hln] at FY
  have HYD := Lib.hid hyd
  have HYO := Lib.hid hyo2
  have HYP := Lib.hid hyp
  have HIN := Lib.hid hyin4
  have HR := Lib.hid hr
  have HRO := Lib.hid hro
  have HHA := Lib.hid hHA
  have HGP := Lib.hid hgp
  have HLN := Lib.hid hln
  obtain ⟨c0, c1, c2, c3, c4, c5, c6⟩ := id FF
  obtain ⟨g0, g1, g2, g3, g4⟩ := id GG
  obtain ⟨y0, y1, y2, y3, y4, y5, y6, -, -, -, -, -, -, -⟩ := id FY
  have hxb : x.hs.length ≤ 1048576 := by omega
  have n0 : ¬ (x.hs.length : Int) = 0 := by omega
  have n1 : ((x.hs.length : Int) == 0) = false := beq_eq_false_iff_ne.2 n0
  have n2 : (0 : Int) ≤ (j : Int) := by omega
  have n3 : (j : Int) < (x.hs.length : Int) := by omega
  have n4 : IntKind.u64.wrap (x.hs.length : Int) = (x.hs.length : Int) := IntWalk.u64_in _ (by omega)
  have n5 : IntKind.i64.wrap (j : Int) = (j : Int) := IntWalk.i64_in _ (by omega)
  have n6 := HJ.out
  clear hyin4 hyd hyo2 hyp hr hro hHA hgp hln hjy
  go_quiet (fail)
  have hbN := below_dn (Below.refl w4.heap.size w4) nq
  have HYO : Hid (AV.Own _ _ y) := Lib.hid (OwnH.below HYO.out hbN)
  have HIN := Lib.hid (HIN.out.below (hbN.mono (Nat.le_of_lt lY)))
  replace FF := FF.keep hbN (by omega)
  replace GG := GG.keep hbN (by omega)
  replace FY := FY.keep hbN lY
  replace lY := Nat.lt_of_lt_of_le lY hbN.size
  replace hb0 := bt hb0 hbN
  clear c0 c1 c2 c3 c4 c5 c6 g0 g1 g2 g3 g4 y0 y1 y2 y3 y4 y5 y6 n1 n4 n5 n6 hbN
  generalize w4.drewN nq = w5 at *
  have m0 := HM.out
  have m1 : (IntKind.u64.wrap how) % 7 = 5 := by rw [← Int.tmod_eq_emod_of_nonneg (wrap_nonneg how)]; exact m0
  have hjy : j < y.hs.length := by rw [HLN.out]; exact hjn
  obtain ⟨b', off, r', k9, -, k0, k1, -, -, -, k8, -⟩ := home_at HIN.out.hh HIN.out.hi (k := j) hjy
  obtain ⟨rfl, rfl⟩ : b = b' ∧ 0 = off := by have := HHA.out.symm.trans k9; simpa using this
  obtain rfl : r = r' := Option.some.inj (HR.out.symm.trans k8)
  rw [Nat.zero_add] at k0 k1
  have f1 : w5.frozen? ⟨b, j * 3 + 1, none⟩ = false := by
    have h1 := HYO.out.1
    rw [HHA.out] at h1
    exact World.ownsRow.frozenAt h1 _
  obtain ⟨o1, o2, o3, -⟩ := id HO.out
  obtain ⟨g0, g1, g2, g3, g4⟩ := id GG
  obtain ⟨y0, y1, y2, y3, y4, y5, y6, -, -, -, -, -, -, -⟩ := id FY
  clear k8 k9
  go_upto_region 19 with fail
  have HYO6 := AV.Own.set_next HYO.out HR.out HHA.out (d + s + 2)
  have HI := Lib.hid HYO6.inn
  have hB6 : Below b w5 (w5.setCell ⟨b, j * 3 + 1, none⟩ (.int .i64 (d + s + 2))) := (Below.refl b w5).setCell (p := ⟨b, j * 3 + 1, none⟩) (Nat.le_refl b) _
  have FY6 := FY.apart (g' := b) (o := j * 3 + 1) (by omega) (.int .i64 (d + s + 2))
  have lY6 : gy < ((w5.setCell ⟨b, j * 3 + 1, none⟩ (.int .i64 (d + s + 2)))).heap.size := by simpa using lY
  replace FF := FF.keep hB6 (by omega)
  replace GG := GG.keep hB6 (by omega)
  replace hb0 := hb0.trans (hB6.mono (by omega))
  clear g0 g1 g2 g3 g4 y0 y1 y2 y3 y4 y5 y6 k0 k1 f1 FY lY hB6 HYO HYO6 HIN
  generalize (w5.setCell ⟨b, j * 3 + 1, none⟩ (.int .i64 (d + s + 2))) = w6 at *
  have FY := FY6
  have lY := lY6
  clear FY6 lY6
  have HBAD := Lib.hid (show ¬ Good z d s l (AV.d ({ y with hs := y.hs.set j { r with nx := d + s + 2 } })) from fun h => by
    have h1 : d + s + 2 ≤ d + 1 + s := (bad_home hjy h).2.1.2
    omega)
  have hv : AV.v ({ y with hs := y.hs.set j { r with nx := d + s + 2 } }) = .agg #[.int .i64 y.gen, .int .i64 y.ep, .int .i64 y.pos, .int .i64 y.seq, .int .i64 y.last, .string y.lab, .slice (some ⟨b, 0, none⟩) x.hs.length y.hc] := by unfold AV.v; dsimp only; rw [HHA.out, List.length_set, HLN.out]
  have hlab : y.lab.size ≤ 4294967296 := by
    have e : y.lab = x.lab := congrArg Anc.lab HYD.out
    rw [e]
    omega
  have HB2 := Lib.hid (show ∀ W, Below w6.heap.size w6 W → Calls Tryd.prog 12 #[.agg #[.int .i64 z, .int .i64 d, .int .i64 s, .int .i64 l, .int .i64 a], .agg #[.int .i64 y.gen, .int .i64 y.ep, .int .i64 y.pos, .int .i64 y.seq, .int .i64 y.last, .string y.lab, .slice (some ⟨b, 0, none⟩) x.hs.length y.hc]] W fun e w' => e = .returned (.tuple #[.slice none 0 0, .int .i64 1]) ∧ Below W.heap.size W w' from fun W hW => by
    have h := bytes_not hV z d s l a ({ y with hs := y.hs.set j { r with nx := d + s + 2 } }) W (tn HT.out (bt hb0 hW)) HO.out (HI.out.next hW) hlab HBAD.out
    rwa [hv] at h)
  have HC2 := Lib.hid (show ∀ W, Below w6.heap.size w6 W → Calls Tryd.prog 15 #[.agg #[.int .i64 z, .int .i64 d, .int .i64 s, .int .i64 l, .int .i64 a], .agg #[.int .i64 y.gen, .int .i64 y.ep, .int .i64 y.pos, .int .i64 y.seq, .int .i64 y.last, .string y.lab, .slice (some ⟨b, 0, none⟩) x.hs.length y.hc]] W fun e w' => e = .returned (.int .i64 1) ∧ Below W.heap.size W w' from fun W hW => by
    have h := check_p hV z d s l a false ({ y with hs := y.hs.set j { r with nx := d + s + 2 } }) W (tn HT.out (bt hb0 hW)) HO.out (HI.out.next hW) hlab (iff_of_false Bool.false_ne_true HBAD.out)
    rwa [hv] at h)
  have hb6 := Below.refl w6.heap.size w6
  clear hv hlab
  obtain ⟨c0, c1, c2, c3, c4, c5, c6⟩ := id FF
  obtain ⟨g0, g1, g2, g3, g4⟩ := id GG
  obtain ⟨y0, y1, y2, y3, y4, y5, y6, -, -, -, -, -, -, -⟩ := id FY
  go_wp2_with (first
    | (go_at_call 12; (with_reducible refine (HB2.out _ hb6).mono ?_); rintro e wq ⟨rfl, hbq⟩; replace FF := FF.keep hbq (by omega); replace GG := GG.keep hbq (by omega); replace FY := FY.keep hbq lY; replace lY := Nat.lt_of_lt_of_le lY hbq.size; clear c0 c1 c2 c3 c4 c5 c6 g0 g1 g2 g3 g4 y0 y1 y2 y3 y4 y5 y6; obtain ⟨c0, c1, c2, c3, c4, c5, c6⟩ := id FF; obtain ⟨g0, g1, g2, g3, g4⟩ := id GG; obtain ⟨y0, y1, y2, y3, y4, y5, y6, -, -, -, -, -, -, -⟩ := id FY; replace hb0 := bt hb0 hbq; replace hb6 := bt hb6 hbq; clear hbq)
    | (go_at_call 15; (with_reducible refine (HK.out _ hb0).mono ?_); rintro e wq ⟨rfl, hbq⟩; replace FF := FF.keep hbq (by omega); replace GG := GG.keep hbq (by omega); replace FY := FY.keep hbq lY; replace lY := Nat.lt_of_lt_of_le lY hbq.size; clear c0 c1 c2 c3 c4 c5 c6 g0 g1 g2 g3 g4 y0 y1 y2 y3 y4 y5 y6; obtain ⟨c0, c1, c2, c3, c4, c5, c6⟩ := id FF; obtain ⟨g0, g1, g2, g3, g4⟩ := id GG; obtain ⟨y0, y1, y2, y3, y4, y5, y6, -, -, -, -, -, -, -⟩ := id FY; replace hb0 := bt hb0 hbq; replace hb6 := bt hb6 hbq; clear hbq)
    | (go_at_call 15; (with_reducible refine (HC2.out _ hb6).mono ?_); rintro e wq ⟨rfl, hbq⟩; replace FF := FF.keep hbq (by omega); replace GG := GG.keep hbq (by omega); replace FY := FY.keep hbq lY; replace lY := Nat.lt_of_lt_of_le lY hbq.size; clear c0 c1 c2 c3 c4 c5 c6 g0 g1 g2 g3 g4 y0 y1 y2 y3 y4 y5 y6; obtain ⟨c0, c1, c2, c3, c4, c5, c6⟩ := id FF; obtain ⟨g0, g1, g2, g3, g4⟩ := id GG; obtain ⟨y0, y1, y2, y3, y4, y5, y6, -, -, -, -, -, -, -⟩ := id FY; replace hb0 := bt hb0 hbq; replace hb6 := bt hb6 hbq; clear hbq)
    | (go_at_call 17; (with_reducible refine (wk_anc hV hC _ (tn HT.out hb0)).mono ?_); rintro e wz ⟨rfl, hbz⟩))
  go_ret
  exact ⟨rfl, bt hb0 hbz⟩
theorem hvs_tail (hs : List HomR) : hvs hs.tail = (hvs hs).drop 3 := by
  cases hs with
  | nil => rfl
  | cons r t => rfl
set_option maxRecDepth 100000 in
set_option maxHeartbeats 8000000 in
theorem bent_2 (hV : ValidOk) (hC : CloneOk) (j : Nat) (z d s l a : Int) (x : AV) (zz how : Int) (w : World) (hT : Tabs w) (hx : x.In w w.heap.size) (hh : ¬ HeavyA x.d) (ho : Ok z d s l a) (hg : Good z d s l x.d) (hjn : j < x.hs.length) (hj : (IntKind.u64.wrap zz).tmod (x.hs.length : Int) = (j : Int)) (hm : (IntKind.u64.wrap how).tmod 7 = 2) :
    Calls Tryd.prog 6 #[.agg #[.int .i64 z, .int .i64 d, .int .i64 s, .int .i64 l, .int .i64 a], x.v, .int .i64 zz, .int .i64 how] w fun e w' => e = .returned (.bool true) ∧ Below w.heap.size w w' := by
  obtain ⟨t1, t2, t3⟩ := light hh
  have HT := Lib.hid hT
  have cH := fun W (hW : Below w.heap.size w W) => heavy_any false x W (hx.next hW) (iff_of_false Bool.false_ne_true hh)
  have cG := fun W => rgeo_at true z d s l a W (iff_of_true rfl ho)
  have cR := fun W (hW : Below w.heap.size w W) => right_p z d s l a true x W ho (hx.next hW) (by omega) (fun r hr => by have := t3 r hr; omega) (by omega) (iff_of_true rfl hg)
  have cT := fun W (hW : Below w.heap.size w W) => twin_parted x W (hx.next hW) (by omega) (fun r hr => by have := t3 r hr; omega)
  have HK := Lib.hid (show ∀ W, Below w.heap.size w W → Calls Tryd.prog 15 #[.agg #[.int .i64 z, .int .i64 d, .int .i64 s, .int .i64 l, .int .i64 a], x.v] W fun e w' => e = .returned (.int .i64 0) ∧ Below W.heap.size W w' from fun W hW => check_p hV z d s l a true x W (tn HT.out hW) ho (hx.next hW) (by omega) (iff_of_true rfl hg))
  have HG := Lib.hid hg
  have HO := Lib.hid ho
  have HJ := Lib.hid hj
  have HM := Lib.hid hm
  unfold AV.v
  have GG := (g5_new w z d s l a).keep (bl (w.alloc (.cells #[.int .i64 z, .int .i64 d, .int .i64 s, .int .i64 l, .int .i64 a] 23)) (.cells #[.int .i64 x.gen, .int .i64 x.ep, .int .i64 x.pos, .int .i64 x.seq, .int .i64 x.last, .string x.lab, .slice x.HA x.hs.length x.hc] 26)) (by simp)
  have FF := ac_new (w.alloc (.cells #[.int .i64 z, .int .i64 d, .int .i64 s, .int .i64 l, .int .i64 a] 23)) x
  have hb0 := kal (bl w (.cells #[.int .i64 z, .int .i64 d, .int .i64 s, .int .i64 l, .int .i64 a] 23)) (.cells #[.int .i64 x.gen, .int .i64 x.ep, .int .i64 x.pos, .int .i64 x.seq, .int .i64 x.last, .string x.lab, .slice x.HA x.hs.length x.hc] 26)
  rw [show (w.alloc (.cells #[.int .i64 z, .int .i64 d, .int .i64 s, .int .i64 l, .int .i64 a] 23)).heap.size = w.heap.size + 1 by simp] at FF
  have l1 : w.heap.size + 1 < ((w.alloc (.cells #[.int .i64 z, .int .i64 d, .int .i64 s, .int .i64 l, .int .i64 a] 23)).alloc (.cells #[.int .i64 x.gen, .int .i64 x.ep, .int .i64 x.pos, .int .i64 x.seq, .int .i64 x.last, .string x.lab, .slice x.HA x.hs.length x.hc] 26)).heap.size := by simp
  unfold AV.v at cH cR cT HK
  clear hx hh ho hg t3 hT hj hm
  go_enter Tryd.func6, Tryd.ntmps6
  go_upto_region 1 with fail
  generalize (w.alloc (.cells #[.int .i64 z, .int .i64 d, .int .i64 s, .int .i64 l, .int .i64 a] 23)).alloc (.cells #[.int .i64 x.gen, .int .i64 x.ep, .int .i64 x.pos, .int .i64 x.seq, .int .i64 x.last, .string x.lab, .slice x.HA x.hs.length x.hc] 26) = w0 at *
  obtain ⟨c0, c1, c2, c3, c4, c5, c6⟩ := id FF
  obtain ⟨g0, g1, g2, g3, g4⟩ := id GG
  go_upto_region 4 with (first
    | (go_at_call 9; (with_reducible refine (cH _ hb0).mono ?_); rintro e wq ⟨rfl, hbq⟩; replace FF := FF.keep hbq (by omega); replace GG := GG.keep hbq (by omega); replace l1 := Nat.lt_of_lt_of_le l1 hbq.size; clear c0 c1 c2 c3 c4 c5 c6 g0 g1 g2 g3 g4; obtain ⟨c0, c1, c2, c3, c4, c5, c6⟩ := id FF; obtain ⟨g0, g1, g2, g3, g4⟩ := id GG; replace hb0 := bt hb0 hbq; clear hbq)
    | (go_at_call 14; (with_reducible refine (cG _).mono ?_); rintro e wq ⟨rfl, hbq⟩; replace FF := FF.keep hbq (by omega); replace GG := GG.keep hbq (by omega); replace l1 := Nat.lt_of_lt_of_le l1 hbq.size; clear c0 c1 c2 c3 c4 c5 c6 g0 g1 g2 g3 g4; obtain ⟨c0, c1, c2, c3, c4, c5, c6⟩ := id FF; obtain ⟨g0, g1, g2, g3, g4⟩ := id GG; replace hb0 := bt hb0 hbq; clear hbq)
    | (go_at_call 21; (with_reducible refine (cR _ hb0).mono ?_); rintro e wq ⟨rfl, hbq⟩; replace FF := FF.keep hbq (by omega); replace GG := GG.keep hbq (by omega); replace l1 := Nat.lt_of_lt_of_le l1 hbq.size; clear c0 c1 c2 c3 c4 c5 c6 g0 g1 g2 g3 g4; obtain ⟨c0, c1, c2, c3, c4, c5, c6⟩ := id FF; obtain ⟨g0, g1, g2, g3, g4⟩ := id GG; replace hb0 := bt hb0 hbq; clear hbq)
    | (go_at_call 10; (with_reducible refine (cT _ hb0).mono ?_); rintro e wT ⟨⟨y, rfl, hyd, hyo, hyp⟩, hbq⟩; have hbase := l1; replace FF := FF.keep hbq (by omega); replace GG := GG.keep hbq (by omega); replace l1 := Nat.lt_of_lt_of_le l1 hbq.size; clear c0 c1 c2 c3 c4 c5 c6 g0 g1 g2 g3 g4; obtain ⟨c0, c1, c2, c3, c4, c5, c6⟩ := id FF; obtain ⟨g0, g1, g2, g3, g4⟩ := id GG; replace hb0 := bt hb0 hbq; clear hbq))
  have hln : y.hs.length = x.hs.length := by
    have := congrArg (fun u => u.hs.length) hyd
    exact (hds_length y.hs).symm.trans (this.trans (hds_length x.hs))
  have hjy : j < y.hs.length := by omega
  obtain ⟨r, hr⟩ : ∃ r, y.hs[j]? = some r := ⟨_, List.getElem?_eq_getElem hjy⟩
  have hro : HomeOk d s r.d := HG.out.2.2.2.2.2.2.2.2 r.d (by rw [← hyd]; exact List.mem_map_of_mem (List.mem_of_getElem? hr))
  obtain ⟨b, hHA, hbT, hbB⟩ := hyo.tab (by omega)
  have hyin := AV.Own.inn hyo
  obtain ⟨gp, hgp, -, hgT, hgB⟩ := hyo.row hr (by have := hro.1; have := HO.out.2.1; have e : r.d.ps.length = r.ps.length := rfl; omega)
  have hyc : x.hs.length ≤ y.hc ∧ y.hc ≤ maxLen := by have := hyin.hl; omega
  unfold maxLen at hyc
  have hx6 := bl wT (.cells #[.int .i64 y.gen, .int .i64 y.ep, .int .i64 y.pos, .int .i64 y.seq, .int .i64 y.last, .string y.lab, .slice y.HA y.hs.length y.hc] 26)
  have FY := sev_new wT (.int .i64 y.gen) (.int .i64 y.ep) (.int .i64 y.pos) (.int .i64 y.seq) (.int .i64 y.last) (.string y.lab) (.slice y.HA y.hs.length y.hc) 26
  have lY : wT.heap.size < (wT.alloc (.cells #[.int .i64 y.gen, .int .i64 y.ep, .int .i64 y.pos, .int .i64 y.seq, .int .i64 y.last, .string y.lab, .slice y.HA y.hs.length y.hc] 26)).heap.size := by simp
  have hyo2 := OwnH.below hyo hx6
  replace FF := FF.keep hx6 l1
  replace GG := GG.keep hx6 (by omega)
  replace hb0 := bt hb0 hx6
  obtain ⟨gy, hgy⟩ : ∃ g, g = wT.heap.size := ⟨_, rfl⟩
  rw [← hgy] at FY lY hbT hgT hx6 hyin ⊢
  replace l1 : w.heap.size + 1 < gy := by omega
  have hyin4 := hyin.below hx6
  clear c0 c1 c2 c3 c4 c5 c6 g0 g1 g2 g3 g4 hx6 hgy hyo hyin cH cR cT cG
  generalize wT.alloc (.cells #[.int .i64 y.gen, .int .i64 y.ep, .int .i64 y.pos, .int .i64 y.seq, .int .i64 y.last, .string y.lab, .slice y.HA y.hs.length y.hc] 26) = w4 at *
  rw [hHA, hln] at FY
  have HYD := Lib.hid hyd
  have HYO := Lib.hid hyo2
  have HYP := Lib.hid hyp
  have HIN := Lib.hid hyin4
  have HR := Lib.hid hr
  have HRO := Lib.hid hro
  have HHA := Lib.hid hHA
  have HGP := Lib.hid hgp
  have HLN := Lib.hid hln
  obtain ⟨c0, c1, c2, c3, c4, c5, c6⟩ := id FF
  obtain ⟨g0, g1, g2, g3, g4⟩ := id GG
  obtain ⟨y0, y1, y2, y3, y4, y5, y6, -, -, -, -, -, -, -⟩ := id FY
  have hxb : x.hs.length ≤ 1048576 := by omega
  have n0 : ¬ (x.hs.length : Int) = 0 := by omega
  have n1 : ((x.hs.length : Int) == 0) = false := beq_eq_false_iff_ne.2 n0
  have n2 : (0 : Int) ≤ (j : Int) := by omega
  have n3 : (j : Int) < (x.hs.length : Int) := by omega
  have n4 : IntKind.u64.wrap (x.hs.length : Int) = (x.hs.length : Int) := IntWalk.u64_in _ (by omega)
  have n5 : IntKind.i64.wrap (j : Int) = (j : Int) := IntWalk.i64_in _ (by omega)
  have n6 := HJ.out
  clear hyin4 hyd hyo2 hyp hr hro hHA hgp hln hjy
  go_quiet (fail)
  have hbN := below_dn (Below.refl w4.heap.size w4) nq
  have HYO : Hid (AV.Own _ _ y) := Lib.hid (OwnH.below HYO.out hbN)
  have HIN := Lib.hid (HIN.out.below (hbN.mono (Nat.le_of_lt lY)))
  replace FF := FF.keep hbN (by omega)
  replace GG := GG.keep hbN (by omega)
  replace FY := FY.keep hbN lY
  replace lY := Nat.lt_of_lt_of_le lY hbN.size
  replace hb0 := bt hb0 hbN
  clear c0 c1 c2 c3 c4 c5 c6 g0 g1 g2 g3 g4 y0 y1 y2 y3 y4 y5 y6 n1 n4 n5 n6 hbN
  generalize w4.drewN nq = w5 at *
  have m0 := HM.out
  have m1 : (IntKind.u64.wrap how) % 7 = 2 := by rw [← Int.tmod_eq_emod_of_nonneg (wrap_nonneg how)]; exact m0
  obtain ⟨-, -, -, -, -, -, -, -, -, -, -, -, -, f6⟩ := id FY
  obtain ⟨g0, g1, g2, g3, g4⟩ := id GG
  obtain ⟨y0, y1, y2, y3, y4, y5, y6, -, -, -, -, -, -, -⟩ := id FY
  have i1 : 1 ≤ x.hs.length := by omega
  have i2 : (1 : Int) ≤ (x.hs.length : Int) := by omega
  have i3 : (1 : Int) ≤ (y.hc : Int) := by omega
  have hz : (x.hs.length : Int) = z := by
    have h1 := HG.out.2.2.2.2.2.2.2.1
    have e : x.d.hs.length = x.hs.length := hds_length x.hs
    rw [e] at h1
    exact h1
  have HZ := Lib.hid hz
  clear hz
  by_cases hc1 : y.hc = 1
  case pos =>
    have HCX := Lib.hid hyc
    clear hyc
    go_upto_region 19 with fail
    have hyc := HCX.out
    have hB6 : Below gy w5 (w5.setCell ⟨gy, 6, none⟩ (.slice (some ⟨b, 0, none⟩) (x.hs.length - 1) 0)) := (Below.refl gy w5).setCell (p := ⟨gy, 6, none⟩) (Nat.le_refl gy) _
    have FY6 := FY.set6 (.slice (some ⟨b, 0, none⟩) (x.hs.length - 1) 0)
    have lY6 : gy < ((w5.setCell ⟨gy, 6, none⟩ (.slice (some ⟨b, 0, none⟩) (x.hs.length - 1) 0))).heap.size := by simpa using lY
    have HI := Lib.hid (show AV.In (w5.setCell ⟨gy, 6, none⟩ (.slice (some ⟨b, 0, none⟩) (x.hs.length - 1) 0)) ((w5.setCell ⟨gy, 6, none⟩ (.slice (some ⟨b, 0, none⟩) (x.hs.length - 1) 0))).heap.size ({ y with HA := some ⟨b, 0, none⟩, hc := 0, hs := y.hs.tail }) from AV.In.more (a := { y with HA := some ⟨b, 0, none⟩, hc := 0, hs := y.hs.tail }) ⟨(by have e : y.hs.tail = [] := List.eq_nil_of_length_eq_zero (by rw [List.length_tail, HLN.out]; omega); show SlV _ gy _ (hvs y.hs.tail); rw [e]; exact SlV.nil _ _ _), fun q hq => (HIN.out.below hB6).hi q (List.mem_of_mem_tail hq), by show y.hs.tail.length ≤ 0 ∧ 0 ≤ maxLen; rw [List.length_tail, HLN.out]; unfold maxLen; omega⟩ (Nat.le_of_lt lY6))
    replace FF := FF.keep hB6 (by omega)
    replace GG := GG.keep hB6 (by omega)
    replace hb0 := hb0.trans (hB6.mono (by omega))
    clear g0 g1 g2 g3 g4 y0 y1 y2 y3 y4 y5 y6 f6 FY lY hB6 hyc HCX
    generalize (w5.setCell ⟨gy, 6, none⟩ (.slice (some ⟨b, 0, none⟩) (x.hs.length - 1) 0)) = w6 at *
    have FY := FY6
    have lY := lY6
    clear FY6 lY6 hc1
    have HBAD := Lib.hid (show ¬ Good z d s l (AV.d ({ y with HA := some ⟨b, 0, none⟩, hc := 0, hs := y.hs.tail })) from fun h => by
      have h1 : ((hds y.hs.tail).length : Int) = z := h.2.2.2.2.2.2.2.1
      rw [hds_length, List.length_tail, HLN.out] at h1
      have h2 := HZ.out
      omega)
    have hv : AV.v ({ y with HA := some ⟨b, 0, none⟩, hc := 0, hs := y.hs.tail }) = .agg #[.int .i64 y.gen, .int .i64 y.ep, .int .i64 y.pos, .int .i64 y.seq, .int .i64 y.last, .string y.lab, .slice (some ⟨b, 0, none⟩) (x.hs.length - 1) 0] := by unfold AV.v; dsimp only; rw [List.length_tail, HLN.out]
    have hlab : y.lab.size ≤ 4294967296 := by
      have e : y.lab = x.lab := congrArg Anc.lab HYD.out
      rw [e]
      omega
    have HB2 := Lib.hid (show ∀ W, Below w6.heap.size w6 W → Calls Tryd.prog 12 #[.agg #[.int .i64 z, .int .i64 d, .int .i64 s, .int .i64 l, .int .i64 a], .agg #[.int .i64 y.gen, .int .i64 y.ep, .int .i64 y.pos, .int .i64 y.seq, .int .i64 y.last, .string y.lab, .slice (some ⟨b, 0, none⟩) (x.hs.length - 1) 0]] W fun e w' => e = .returned (.tuple #[.slice none 0 0, .int .i64 1]) ∧ Below W.heap.size W w' from fun W hW => by
      have h := bytes_not hV z d s l a ({ y with HA := some ⟨b, 0, none⟩, hc := 0, hs := y.hs.tail }) W (tn HT.out (bt hb0 hW)) HO.out (HI.out.next hW) hlab HBAD.out
      rwa [hv] at h)
    have HC2 := Lib.hid (show ∀ W, Below w6.heap.size w6 W → Calls Tryd.prog 15 #[.agg #[.int .i64 z, .int .i64 d, .int .i64 s, .int .i64 l, .int .i64 a], .agg #[.int .i64 y.gen, .int .i64 y.ep, .int .i64 y.pos, .int .i64 y.seq, .int .i64 y.last, .string y.lab, .slice (some ⟨b, 0, none⟩) (x.hs.length - 1) 0]] W fun e w' => e = .returned (.int .i64 1) ∧ Below W.heap.size W w' from fun W hW => by
      have h := check_p hV z d s l a false ({ y with HA := some ⟨b, 0, none⟩, hc := 0, hs := y.hs.tail }) W (tn HT.out (bt hb0 hW)) HO.out (HI.out.next hW) hlab (iff_of_false Bool.false_ne_true HBAD.out)
      rwa [hv] at h)
    have hb6 := Below.refl w6.heap.size w6
    clear hv hlab
    obtain ⟨c0, c1, c2, c3, c4, c5, c6⟩ := id FF
    obtain ⟨g0, g1, g2, g3, g4⟩ := id GG
    obtain ⟨y0, y1, y2, y3, y4, y5, y6, -, -, -, -, -, -, -⟩ := id FY
    go_wp2_with (first
      | (go_at_call 12; (with_reducible refine (HB2.out _ hb6).mono ?_); rintro e wq ⟨rfl, hbq⟩; replace FF := FF.keep hbq (by omega); replace GG := GG.keep hbq (by omega); replace FY := FY.keep hbq lY; replace lY := Nat.lt_of_lt_of_le lY hbq.size; clear c0 c1 c2 c3 c4 c5 c6 g0 g1 g2 g3 g4 y0 y1 y2 y3 y4 y5 y6; obtain ⟨c0, c1, c2, c3, c4, c5, c6⟩ := id FF; obtain ⟨g0, g1, g2, g3, g4⟩ := id GG; obtain ⟨y0, y1, y2, y3, y4, y5, y6, -, -, -, -, -, -, -⟩ := id FY; replace hb0 := bt hb0 hbq; replace hb6 := bt hb6 hbq; clear hbq)
      | (go_at_call 15; (with_reducible refine (HK.out _ hb0).mono ?_); rintro e wq ⟨rfl, hbq⟩; replace FF := FF.keep hbq (by omega); replace GG := GG.keep hbq (by omega); replace FY := FY.keep hbq lY; replace lY := Nat.lt_of_lt_of_le lY hbq.size; clear c0 c1 c2 c3 c4 c5 c6 g0 g1 g2 g3 g4 y0 y1 y2 y3 y4 y5 y6; obtain ⟨c0, c1, c2, c3, c4, c5, c6⟩ := id FF; obtain ⟨g0, g1, g2, g3, g4⟩ := id GG; obtain ⟨y0, y1, y2, y3, y4, y5, y6, -, -, -, -, -, -, -⟩ := id FY; replace hb0 := bt hb0 hbq; replace hb6 := bt hb6 hbq; clear hbq)
      | (go_at_call 15; (with_reducible refine (HC2.out _ hb6).mono ?_); rintro e wq ⟨rfl, hbq⟩; replace FF := FF.keep hbq (by omega); replace GG := GG.keep hbq (by omega); replace FY := FY.keep hbq lY; replace lY := Nat.lt_of_lt_of_le lY hbq.size; clear c0 c1 c2 c3 c4 c5 c6 g0 g1 g2 g3 g4 y0 y1 y2 y3 y4 y5 y6; obtain ⟨c0, c1, c2, c3, c4, c5, c6⟩ := id FF; obtain ⟨g0, g1, g2, g3, g4⟩ := id GG; obtain ⟨y0, y1, y2, y3, y4, y5, y6, -, -, -, -, -, -, -⟩ := id FY; replace hb0 := bt hb0 hbq; replace hb6 := bt hb6 hbq; clear hbq)
      | (go_at_call 17; (with_reducible refine (wk_anc hV hC _ (tn HT.out hb0)).mono ?_); rintro e wz ⟨rfl, hbz⟩))
    go_ret
    exact ⟨rfl, bt hb0 hbz⟩
  case neg =>
    have HCX := Lib.hid hyc
    clear hyc
    go_upto_region 19 with fail
    have hyc := HCX.out
    have hB6 : Below gy w5 (w5.setCell ⟨gy, 6, none⟩ (.slice (some ⟨b, 3, none⟩) (x.hs.length - 1) (y.hc - 1))) := (Below.refl gy w5).setCell (p := ⟨gy, 6, none⟩) (Nat.le_refl gy) _
    have FY6 := FY.set6 (.slice (some ⟨b, 3, none⟩) (x.hs.length - 1) (y.hc - 1))
    have lY6 : gy < ((w5.setCell ⟨gy, 6, none⟩ (.slice (some ⟨b, 3, none⟩) (x.hs.length - 1) (y.hc - 1)))).heap.size := by simpa using lY
    have HI := Lib.hid (show AV.In (w5.setCell ⟨gy, 6, none⟩ (.slice (some ⟨b, 3, none⟩) (x.hs.length - 1) (y.hc - 1))) ((w5.setCell ⟨gy, 6, none⟩ (.slice (some ⟨b, 3, none⟩) (x.hs.length - 1) (y.hc - 1)))).heap.size ({ y with HA := some ⟨b, 3, none⟩, hc := (y.hc - 1), hs := y.hs.tail }) from AV.In.more (a := { y with HA := some ⟨b, 3, none⟩, hc := (y.hc - 1), hs := y.hs.tail }) ⟨(by have h3 := (HIN.out.below hB6).hh; rw [HHA.out] at h3; have h4 := h3.drop 3; rw [← hvs_tail] at h4; exact h4), fun q hq => (HIN.out.below hB6).hi q (List.mem_of_mem_tail hq), by show y.hs.tail.length ≤ (y.hc - 1) ∧ (y.hc - 1) ≤ maxLen; rw [List.length_tail, HLN.out]; unfold maxLen; omega⟩ (Nat.le_of_lt lY6))
    replace FF := FF.keep hB6 (by omega)
    replace GG := GG.keep hB6 (by omega)
    replace hb0 := hb0.trans (hB6.mono (by omega))
    clear g0 g1 g2 g3 g4 y0 y1 y2 y3 y4 y5 y6 f6 FY lY hB6 hyc HCX
    generalize (w5.setCell ⟨gy, 6, none⟩ (.slice (some ⟨b, 3, none⟩) (x.hs.length - 1) (y.hc - 1))) = w6 at *
    have FY := FY6
    have lY := lY6
    clear FY6 lY6 hc1
    have HBAD := Lib.hid (show ¬ Good z d s l (AV.d ({ y with HA := some ⟨b, 3, none⟩, hc := (y.hc - 1), hs := y.hs.tail })) from fun h => by
      have h1 : ((hds y.hs.tail).length : Int) = z := h.2.2.2.2.2.2.2.1
      rw [hds_length, List.length_tail, HLN.out] at h1
      have h2 := HZ.out
      omega)
    have hv : AV.v ({ y with HA := some ⟨b, 3, none⟩, hc := (y.hc - 1), hs := y.hs.tail }) = .agg #[.int .i64 y.gen, .int .i64 y.ep, .int .i64 y.pos, .int .i64 y.seq, .int .i64 y.last, .string y.lab, .slice (some ⟨b, 3, none⟩) (x.hs.length - 1) (y.hc - 1)] := by unfold AV.v; dsimp only; rw [List.length_tail, HLN.out]
    have hlab : y.lab.size ≤ 4294967296 := by
      have e : y.lab = x.lab := congrArg Anc.lab HYD.out
      rw [e]
      omega
    have HB2 := Lib.hid (show ∀ W, Below w6.heap.size w6 W → Calls Tryd.prog 12 #[.agg #[.int .i64 z, .int .i64 d, .int .i64 s, .int .i64 l, .int .i64 a], .agg #[.int .i64 y.gen, .int .i64 y.ep, .int .i64 y.pos, .int .i64 y.seq, .int .i64 y.last, .string y.lab, .slice (some ⟨b, 3, none⟩) (x.hs.length - 1) (y.hc - 1)]] W fun e w' => e = .returned (.tuple #[.slice none 0 0, .int .i64 1]) ∧ Below W.heap.size W w' from fun W hW => by
      have h := bytes_not hV z d s l a ({ y with HA := some ⟨b, 3, none⟩, hc := (y.hc - 1), hs := y.hs.tail }) W (tn HT.out (bt hb0 hW)) HO.out (HI.out.next hW) hlab HBAD.out
      rwa [hv] at h)
    have HC2 := Lib.hid (show ∀ W, Below w6.heap.size w6 W → Calls Tryd.prog 15 #[.agg #[.int .i64 z, .int .i64 d, .int .i64 s, .int .i64 l, .int .i64 a], .agg #[.int .i64 y.gen, .int .i64 y.ep, .int .i64 y.pos, .int .i64 y.seq, .int .i64 y.last, .string y.lab, .slice (some ⟨b, 3, none⟩) (x.hs.length - 1) (y.hc - 1)]] W fun e w' => e = .returned (.int .i64 1) ∧ Below W.heap.size W w' from fun W hW => by
      have h := check_p hV z d s l a false ({ y with HA := some ⟨b, 3, none⟩, hc := (y.hc - 1), hs := y.hs.tail }) W (tn HT.out (bt hb0 hW)) HO.out (HI.out.next hW) hlab (iff_of_false Bool.false_ne_true HBAD.out)
      rwa [hv] at h)
    have hb6 := Below.refl w6.heap.size w6
    clear hv hlab
    obtain ⟨c0, c1, c2, c3, c4, c5, c6⟩ := id FF
    obtain ⟨g0, g1, g2, g3, g4⟩ := id GG
    obtain ⟨y0, y1, y2, y3, y4, y5, y6, -, -, -, -, -, -, -⟩ := id FY
    go_wp2_with (first
      | (go_at_call 12; (with_reducible refine (HB2.out _ hb6).mono ?_); rintro e wq ⟨rfl, hbq⟩; replace FF := FF.keep hbq (by omega); replace GG := GG.keep hbq (by omega); replace FY := FY.keep hbq lY; replace lY := Nat.lt_of_lt_of_le lY hbq.size; clear c0 c1 c2 c3 c4 c5 c6 g0 g1 g2 g3 g4 y0 y1 y2 y3 y4 y5 y6; obtain ⟨c0, c1, c2, c3, c4, c5, c6⟩ := id FF; obtain ⟨g0, g1, g2, g3, g4⟩ := id GG; obtain ⟨y0, y1, y2, y3, y4, y5, y6, -, -, -, -, -, -, -⟩ := id FY; replace hb0 := bt hb0 hbq; replace hb6 := bt hb6 hbq; clear hbq)
      | (go_at_call 15; (with_reducible refine (HK.out _ hb0).mono ?_); rintro e wq ⟨rfl, hbq⟩; replace FF := FF.keep hbq (by omega); replace GG := GG.keep hbq (by omega); replace FY := FY.keep hbq lY; replace lY := Nat.lt_of_lt_of_le lY hbq.size; clear c0 c1 c2 c3 c4 c5 c6 g0 g1 g2 g3 g4 y0 y1 y2 y3 y4 y5 y6; obtain ⟨c0, c1, c2, c3, c4, c5, c6⟩ := id FF; obtain ⟨g0, g1, g2, g3, g4⟩ := id GG; obtain ⟨y0, y1, y2, y3, y4, y5, y6, -, -, -, -, -, -, -⟩ := id FY; replace hb0 := bt hb0 hbq; replace hb6 := bt hb6 hbq; clear hbq)
      | (go_at_call 15; (with_reducible refine (HC2.out _ hb6).mono ?_); rintro e wq ⟨rfl, hbq⟩; replace FF := FF.keep hbq (by omega); replace GG := GG.keep hbq (by omega); replace FY := FY.keep hbq lY; replace lY := Nat.lt_of_lt_of_le lY hbq.size; clear c0 c1 c2 c3 c4 c5 c6 g0 g1 g2 g3 g4 y0 y1 y2 y3 y4 y5 y6; obtain ⟨c0, c1, c2, c3, c4, c5, c6⟩ := id FF; obtain ⟨g0, g1, g2, g3, g4⟩ := id GG; obtain ⟨y0, y1, y2, y3, y4, y5, y6, -, -, -, -, -, -, -⟩ := id FY; replace hb0 := bt hb0 hbq; replace hb6 := bt hb6 hbq; clear hbq)
      | (go_at_call 17; (with_reducible refine (wk_anc hV hC _ (tn HT.out hb0)).mono ?_); rintro e wz ⟨rfl, hbz⟩))
    go_ret
    exact ⟨rfl, bt hb0 hbz⟩
theorem anchorBent_law (hV : ValidOk) (hC : CloneOk) (z d s l a : Int) (x : AV) (zz how : Int) (w : World) (hT : Tabs w) (hx : x.In w w.heap.size) :
    Calls Tryd.prog 6 #[.agg #[.int .i64 z, .int .i64 d, .int .i64 s, .int .i64 l, .int .i64 a], x.v, .int .i64 zz, .int .i64 how] w fun e w' => e = .returned (.bool true) ∧ Below w.heap.size w w' := by
  by_cases hh : HeavyA x.d
  · exact bent_heavy z d s l a x zz how w hx hh
  by_cases ho : Ok z d s l a
  case neg => exact bent_geo z d s l a x zz how w hx hh ho
  by_cases hg : Good z d s l x.d
  case neg => exact bent_bad z d s l a x zz how w hx hh ho hg
  have hlen : (x.hs.length : Int) = z := by
    have h1 := hg.2.2.2.2.2.2.2.1
    have e : x.d.hs.length = x.hs.length := hds_length x.hs
    rw [e] at h1
    exact h1
  have hz := ho.1
  have h0 := wrap_nonneg zz
  have h1 := wrap_nonneg how
  obtain ⟨j, hj⟩ : ∃ j : Nat, (IntKind.u64.wrap zz).tmod (x.hs.length : Int) = (j : Int) := ⟨((IntKind.u64.wrap zz).tmod (x.hs.length : Int)).toNat, by
    rw [Int.tmod_eq_emod_of_nonneg h0]
    have h2 := Int.emod_nonneg (IntKind.u64.wrap zz) (show (x.hs.length : Int) ≠ 0 by omega)
    omega⟩
  have hjn : j < x.hs.length := by
    have h2 := Int.emod_lt_of_pos (IntKind.u64.wrap zz) (show (0 : Int) < (x.hs.length : Int) by omega)
    rw [← Int.tmod_eq_emod_of_nonneg h0, hj] at h2
    omega
  have hm : (IntKind.u64.wrap how).tmod 7 = (IntKind.u64.wrap how) % 7 := Int.tmod_eq_emod_of_nonneg h1
  rcases (show (IntKind.u64.wrap how) % 7 = 0 ∨ (IntKind.u64.wrap how) % 7 = 1 ∨ (IntKind.u64.wrap how) % 7 = 2 ∨ (IntKind.u64.wrap how) % 7 = 3 ∨ (IntKind.u64.wrap how) % 7 = 4 ∨ (IntKind.u64.wrap how) % 7 = 5 ∨ (IntKind.u64.wrap how) % 7 = 6 by omega) with k | k | k | k | k | k | k
  · exact bent_0 hV hC j z d s l a x zz how w hT hx hh ho hg hjn hj (hm.trans k)
  · exact bent_1 hV hC j z d s l a x zz how w hT hx hh ho hg hjn hj (hm.trans k)
  · exact bent_2 hV hC j z d s l a x zz how w hT hx hh ho hg hjn hj (hm.trans k)
  · exact bent_3 hV hC j z d s l a x zz how w hT hx hh ho hg hjn hj (hm.trans k)
  · exact bent_4 hV hC j z d s l a x zz how w hT hx hh ho hg hjn hj (hm.trans k)
  · exact bent_5 hV hC j z d s l a x zz how w hT hx hh ho hg hjn hj (hm.trans k)
  · exact bent_6 hV hC j z d s l a x zz how w hT hx hh ho hg hjn hj (hm.trans k)
end Go.Proofs.YtkpbfhjpmhgmoaaDoor.anc
