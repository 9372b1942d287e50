/-
  The law NewestLeft, walked. Conditions: 'Cts'.
-/
import Derived.Test.YtdjleimndolonaaDoorNwLC
namespace Go.Proofs.YtdjleimndolonaaDoor.nwt
open Go.RowKit Go.Lib
open Go.Proofs.YtdjleimndolonaaDoor.gmt (Ok five_new rgeo_at)
open Go.Proofs.YtdjleimndolonaaDoor.anc (bl kal kst ks bm ka Anc noAnc AV noAV noAV_own encA RdQ ac_new AC G5 g5_new sev_new heavy_any HeavyA light right_p anchor_any Sev wpList_row)
open Go.Proofs.YtdjleimndolonaaDoor.sel (Lies enc enc_inj enc_length ref_flip_all place maskOf FlipAns)

set_option maxRecDepth 100000 in
set_option maxHeartbeats 8000000 in
theorem nl_heavy (z d s l a : Int) (x : AV) (A : Option Addr) (n c : Nat) (B : Option Addr) (m b : Nat) (w : World) (hx : x.In w w.heap.size) (hh : HeavyA x.d) :
    Calls Tryd.prog 4 #[.agg #[.int .i64 z, .int .i64 d, .int .i64 s, .int .i64 l, .int .i64 a], x.v, .slice A n c, .slice B m b] w fun e w' => e = .returned (.bool true) ∧ Below w.heap.size w w' := by
  have cH := fun W (hW : Below w.heap.size w W) => heavy_any true x W (hx.next hW) (iff_of_true rfl hh)
  unfold AV.v
  have GG := (g5_new w z d s l a).keep (bl (w.alloc (.cells #[.int .i64 z, .int .i64 d, .int .i64 s, .int .i64 l, .int .i64 a] 23)) (.cells #[.int .i64 x.gen, .int .i64 x.ep, .int .i64 x.pos, .int .i64 x.seq, .int .i64 x.last, .string x.lab, .slice x.HA x.hs.length x.hc] 31)) (by simp)
  have FF := ac_new (w.alloc (.cells #[.int .i64 z, .int .i64 d, .int .i64 s, .int .i64 l, .int .i64 a] 23)) x
  have hb0 := kal (bl w (.cells #[.int .i64 z, .int .i64 d, .int .i64 s, .int .i64 l, .int .i64 a] 23)) (.cells #[.int .i64 x.gen, .int .i64 x.ep, .int .i64 x.pos, .int .i64 x.seq, .int .i64 x.last, .string x.lab, .slice x.HA x.hs.length x.hc] 31)
  rw [show (w.alloc (.cells #[.int .i64 z, .int .i64 d, .int .i64 s, .int .i64 l, .int .i64 a] 23)).heap.size = w.heap.size + 1 by simp] at FF
  have l1 : w.heap.size + 1 < ((w.alloc (.cells #[.int .i64 z, .int .i64 d, .int .i64 s, .int .i64 l, .int .i64 a] 23)).alloc (.cells #[.int .i64 x.gen, .int .i64 x.ep, .int .i64 x.pos, .int .i64 x.seq, .int .i64 x.last, .string x.lab, .slice x.HA x.hs.length x.hc] 31)).heap.size := by simp
  unfold AV.v at cH
  clear hx hh
  go_enter Tryd.func4, Tryd.ntmps4
  go_upto_region 1 with fail
  generalize (w.alloc (.cells #[.int .i64 z, .int .i64 d, .int .i64 s, .int .i64 l, .int .i64 a] 23)).alloc (.cells #[.int .i64 x.gen, .int .i64 x.ep, .int .i64 x.pos, .int .i64 x.seq, .int .i64 x.last, .string x.lab, .slice x.HA x.hs.length x.hc] 31) = w0 at *
  obtain ⟨c0, c1, c2, c3, c4, c5, c6⟩ := id FF
  obtain ⟨g0, g1, g2, g3, g4⟩ := id GG
  go_wp2_with (first
    | (go_at_call 8; (with_reducible refine (cH _ hb0).mono ?_); rintro e wq ⟨rfl, hbq⟩; replace FF := FF.keep hbq (by omega); replace GG := GG.keep hbq (by omega); replace l1 := Nat.lt_of_lt_of_le l1 hbq.size; clear c0 c1 c2 c3 c4 c5 c6 g0 g1 g2 g3 g4; obtain ⟨c0, c1, c2, c3, c4, c5, c6⟩ := id FF; obtain ⟨g0, g1, g2, g3, g4⟩ := id GG; replace hb0 := bt hb0 hbq; clear hbq))
  go_ret
  exact ⟨rfl, hb0⟩
set_option maxRecDepth 100000 in
set_option maxHeartbeats 8000000 in
theorem nl_geo (z d s l a : Int) (x : AV) (A : Option Addr) (n c : Nat) (B : Option Addr) (m b : Nat) (w : World) (hx : x.In w w.heap.size) (hh : ¬ HeavyA x.d) (ho : ¬ Ok z d s l a) :
    Calls Tryd.prog 4 #[.agg #[.int .i64 z, .int .i64 d, .int .i64 s, .int .i64 l, .int .i64 a], x.v, .slice A n c, .slice B m b] w fun e w' => e = .returned (.bool true) ∧ Below w.heap.size w w' := by
  have cH := fun W (hW : Below w.heap.size w W) => heavy_any false x W (hx.next hW) (iff_of_false Bool.false_ne_true hh)
  have cG := fun W => rgeo_at false z d s l a W (iff_of_false Bool.false_ne_true ho)
  unfold AV.v
  have GG := (g5_new w z d s l a).keep (bl (w.alloc (.cells #[.int .i64 z, .int .i64 d, .int .i64 s, .int .i64 l, .int .i64 a] 23)) (.cells #[.int .i64 x.gen, .int .i64 x.ep, .int .i64 x.pos, .int .i64 x.seq, .int .i64 x.last, .string x.lab, .slice x.HA x.hs.length x.hc] 31)) (by simp)
  have FF := ac_new (w.alloc (.cells #[.int .i64 z, .int .i64 d, .int .i64 s, .int .i64 l, .int .i64 a] 23)) x
  have hb0 := kal (bl w (.cells #[.int .i64 z, .int .i64 d, .int .i64 s, .int .i64 l, .int .i64 a] 23)) (.cells #[.int .i64 x.gen, .int .i64 x.ep, .int .i64 x.pos, .int .i64 x.seq, .int .i64 x.last, .string x.lab, .slice x.HA x.hs.length x.hc] 31)
  rw [show (w.alloc (.cells #[.int .i64 z, .int .i64 d, .int .i64 s, .int .i64 l, .int .i64 a] 23)).heap.size = w.heap.size + 1 by simp] at FF
  have l1 : w.heap.size + 1 < ((w.alloc (.cells #[.int .i64 z, .int .i64 d, .int .i64 s, .int .i64 l, .int .i64 a] 23)).alloc (.cells #[.int .i64 x.gen, .int .i64 x.ep, .int .i64 x.pos, .int .i64 x.seq, .int .i64 x.last, .string x.lab, .slice x.HA x.hs.length x.hc] 31)).heap.size := by simp
  unfold AV.v at cH
  clear hx hh ho
  go_enter Tryd.func4, Tryd.ntmps4
  go_upto_region 1 with fail
  generalize (w.alloc (.cells #[.int .i64 z, .int .i64 d, .int .i64 s, .int .i64 l, .int .i64 a] 23)).alloc (.cells #[.int .i64 x.gen, .int .i64 x.ep, .int .i64 x.pos, .int .i64 x.seq, .int .i64 x.last, .string x.lab, .slice x.HA x.hs.length x.hc] 31) = w0 at *
  obtain ⟨c0, c1, c2, c3, c4, c5, c6⟩ := id FF
  obtain ⟨g0, g1, g2, g3, g4⟩ := id GG
  go_wp2_with (first
    | (go_at_call 8; (with_reducible refine (cH _ hb0).mono ?_); rintro e wq ⟨rfl, hbq⟩; replace FF := FF.keep hbq (by omega); replace GG := GG.keep hbq (by omega); replace l1 := Nat.lt_of_lt_of_le l1 hbq.size; clear c0 c1 c2 c3 c4 c5 c6 g0 g1 g2 g3 g4; obtain ⟨c0, c1, c2, c3, c4, c5, c6⟩ := id FF; obtain ⟨g0, g1, g2, g3, g4⟩ := id GG; replace hb0 := bt hb0 hbq; clear hbq)
    | (go_at_call 14; (with_reducible refine (cG _).mono ?_); rintro e wq ⟨rfl, hbq⟩; replace FF := FF.keep hbq (by omega); replace GG := GG.keep hbq (by omega); replace l1 := Nat.lt_of_lt_of_le l1 hbq.size; clear c0 c1 c2 c3 c4 c5 c6 g0 g1 g2 g3 g4; obtain ⟨c0, c1, c2, c3, c4, c5, c6⟩ := id FF; obtain ⟨g0, g1, g2, g3, g4⟩ := id GG; replace hb0 := bt hb0 hbq; clear hbq))
  go_ret
  exact ⟨rfl, hb0⟩
set_option maxRecDepth 100000 in
set_option maxHeartbeats 8000000 in
theorem nl_bad (z d s l a : Int) (x : AV) (A : Option Addr) (n c : Nat) (B : Option Addr) (m b : Nat) (w : World) (hx : x.In w w.heap.size) (hh : ¬ HeavyA x.d) (ho : Ok z d s l a) (hg : ¬ anc.Good z d s l x.d) :
    Calls Tryd.prog 4 #[.agg #[.int .i64 z, .int .i64 d, .int .i64 s, .int .i64 l, .int .i64 a], x.v, .slice A n c, .slice B m b] w fun e w' => e = .returned (.bool true) ∧ Below w.heap.size w w' := by
  obtain ⟨t1, t2, t3⟩ := light hh
  have cH := fun W (hW : Below w.heap.size w W) => heavy_any false x W (hx.next hW) (iff_of_false Bool.false_ne_true hh)
  have cG := fun W => rgeo_at true z d s l a W (iff_of_true rfl ho)
  have cR := fun W (hW : Below w.heap.size w W) => right_p z d s l a false x W ho (hx.next hW) (by omega) (fun r hr => by have := t3 r hr; omega) (by omega) (iff_of_false Bool.false_ne_true hg)
  unfold AV.v
  have GG := (g5_new w z d s l a).keep (bl (w.alloc (.cells #[.int .i64 z, .int .i64 d, .int .i64 s, .int .i64 l, .int .i64 a] 23)) (.cells #[.int .i64 x.gen, .int .i64 x.ep, .int .i64 x.pos, .int .i64 x.seq, .int .i64 x.last, .string x.lab, .slice x.HA x.hs.length x.hc] 31)) (by simp)
  have FF := ac_new (w.alloc (.cells #[.int .i64 z, .int .i64 d, .int .i64 s, .int .i64 l, .int .i64 a] 23)) x
  have hb0 := kal (bl w (.cells #[.int .i64 z, .int .i64 d, .int .i64 s, .int .i64 l, .int .i64 a] 23)) (.cells #[.int .i64 x.gen, .int .i64 x.ep, .int .i64 x.pos, .int .i64 x.seq, .int .i64 x.last, .string x.lab, .slice x.HA x.hs.length x.hc] 31)
  rw [show (w.alloc (.cells #[.int .i64 z, .int .i64 d, .int .i64 s, .int .i64 l, .int .i64 a] 23)).heap.size = w.heap.size + 1 by simp] at FF
  have l1 : w.heap.size + 1 < ((w.alloc (.cells #[.int .i64 z, .int .i64 d, .int .i64 s, .int .i64 l, .int .i64 a] 23)).alloc (.cells #[.int .i64 x.gen, .int .i64 x.ep, .int .i64 x.pos, .int .i64 x.seq, .int .i64 x.last, .string x.lab, .slice x.HA x.hs.length x.hc] 31)).heap.size := by simp
  unfold AV.v at cH cR
  clear hx hh ho hg t1 t2 t3
  go_enter Tryd.func4, Tryd.ntmps4
  go_upto_region 1 with fail
  generalize (w.alloc (.cells #[.int .i64 z, .int .i64 d, .int .i64 s, .int .i64 l, .int .i64 a] 23)).alloc (.cells #[.int .i64 x.gen, .int .i64 x.ep, .int .i64 x.pos, .int .i64 x.seq, .int .i64 x.last, .string x.lab, .slice x.HA x.hs.length x.hc] 31) = w0 at *
  obtain ⟨c0, c1, c2, c3, c4, c5, c6⟩ := id FF
  obtain ⟨g0, g1, g2, g3, g4⟩ := id GG
  go_wp2_with (first
    | (go_at_call 8; (with_reducible refine (cH _ hb0).mono ?_); rintro e wq ⟨rfl, hbq⟩; replace FF := FF.keep hbq (by omega); replace GG := GG.keep hbq (by omega); replace l1 := Nat.lt_of_lt_of_le l1 hbq.size; clear c0 c1 c2 c3 c4 c5 c6 g0 g1 g2 g3 g4; obtain ⟨c0, c1, c2, c3, c4, c5, c6⟩ := id FF; obtain ⟨g0, g1, g2, g3, g4⟩ := id GG; replace hb0 := bt hb0 hbq; clear hbq)
    | (go_at_call 14; (with_reducible refine (cG _).mono ?_); rintro e wq ⟨rfl, hbq⟩; replace FF := FF.keep hbq (by omega); replace GG := GG.keep hbq (by omega); replace l1 := Nat.lt_of_lt_of_le l1 hbq.size; clear c0 c1 c2 c3 c4 c5 c6 g0 g1 g2 g3 g4; obtain ⟨c0, c1, c2, c3, c4, c5, c6⟩ := id FF; obtain ⟨g0, g1, g2, g3, g4⟩ := id GG; replace hb0 := bt hb0 hbq; clear hbq)
    | (go_at_call 19; (with_reducible refine (cR _ hb0).mono ?_); rintro e wq ⟨rfl, hbq⟩; replace FF := FF.keep hbq (by omega); replace GG := GG.keep hbq (by omega); replace l1 := Nat.lt_of_lt_of_le l1 hbq.size; clear c0 c1 c2 c3 c4 c5 c6 g0 g1 g2 g3 g4; obtain ⟨c0, c1, c2, c3, c4, c5, c6⟩ := id FF; obtain ⟨g0, g1, g2, g3, g4⟩ := id GG; replace hb0 := bt hb0 hbq; clear hbq))
  go_ret
  exact ⟨rfl, hb0⟩
set_option maxRecDepth 100000 in
set_option maxHeartbeats 8000000 in
theorem nl_many (z d s l a : Int) (x : AV) (A : Option Addr) (n c : Nat) (B : Option Addr) (m b : Nat) (w : World) (hx : x.In w w.heap.size) (hh : ¬ HeavyA x.d) (ho : Ok z d s l a) (hg : anc.Good z d s l x.d) (hm : 10 < n ∨ 10 < m) :
    Calls Tryd.prog 4 #[.agg #[.int .i64 z, .int .i64 d, .int .i64 s, .int .i64 l, .int .i64 a], x.v, .slice A n c, .slice B m b] w fun e w' => e = .returned (.bool true) ∧ Below w.heap.size w w' := by
  obtain ⟨t1, t2, t3⟩ := light hh
  have cH := fun W (hW : Below w.heap.size w W) => heavy_any false x W (hx.next hW) (iff_of_false Bool.false_ne_true hh)
  have cG := fun W => rgeo_at true z d s l a W (iff_of_true rfl ho)
  have cR := fun W (hW : Below w.heap.size w W) => right_p z d s l a true x W ho (hx.next hW) (by omega) (fun r hr => by have := t3 r hr; omega) (by omega) (iff_of_true rfl hg)
  unfold AV.v
  have GG := (g5_new w z d s l a).keep (bl (w.alloc (.cells #[.int .i64 z, .int .i64 d, .int .i64 s, .int .i64 l, .int .i64 a] 23)) (.cells #[.int .i64 x.gen, .int .i64 x.ep, .int .i64 x.pos, .int .i64 x.seq, .int .i64 x.last, .string x.lab, .slice x.HA x.hs.length x.hc] 31)) (by simp)
  have FF := ac_new (w.alloc (.cells #[.int .i64 z, .int .i64 d, .int .i64 s, .int .i64 l, .int .i64 a] 23)) x
  have hb0 := kal (bl w (.cells #[.int .i64 z, .int .i64 d, .int .i64 s, .int .i64 l, .int .i64 a] 23)) (.cells #[.int .i64 x.gen, .int .i64 x.ep, .int .i64 x.pos, .int .i64 x.seq, .int .i64 x.last, .string x.lab, .slice x.HA x.hs.length x.hc] 31)
  rw [show (w.alloc (.cells #[.int .i64 z, .int .i64 d, .int .i64 s, .int .i64 l, .int .i64 a] 23)).heap.size = w.heap.size + 1 by simp] at FF
  have l1 : w.heap.size + 1 < ((w.alloc (.cells #[.int .i64 z, .int .i64 d, .int .i64 s, .int .i64 l, .int .i64 a] 23)).alloc (.cells #[.int .i64 x.gen, .int .i64 x.ep, .int .i64 x.pos, .int .i64 x.seq, .int .i64 x.last, .string x.lab, .slice x.HA x.hs.length x.hc] 31)).heap.size := by simp
  unfold AV.v at cH cR
  clear hx hh ho hg t1 t2 t3
  by_cases h1 : (10 : Int) < (n : Int)
  · clear hm
    go_enter Tryd.func4, Tryd.ntmps4
    go_upto_region 1 with fail
    generalize (w.alloc (.cells #[.int .i64 z, .int .i64 d, .int .i64 s, .int .i64 l, .int .i64 a] 23)).alloc (.cells #[.int .i64 x.gen, .int .i64 x.ep, .int .i64 x.pos, .int .i64 x.seq, .int .i64 x.last, .string x.lab, .slice x.HA x.hs.length x.hc] 31) = w0 at *
    obtain ⟨c0, c1, c2, c3, c4, c5, c6⟩ := id FF
    obtain ⟨g0, g1, g2, g3, g4⟩ := id GG
    go_wp2_with (first
      | (go_at_call 8; (with_reducible refine (cH _ hb0).mono ?_); rintro e wq ⟨rfl, hbq⟩; replace FF := FF.keep hbq (by omega); replace GG := GG.keep hbq (by omega); replace l1 := Nat.lt_of_lt_of_le l1 hbq.size; clear c0 c1 c2 c3 c4 c5 c6 g0 g1 g2 g3 g4; obtain ⟨c0, c1, c2, c3, c4, c5, c6⟩ := id FF; obtain ⟨g0, g1, g2, g3, g4⟩ := id GG; replace hb0 := bt hb0 hbq; clear hbq)
      | (go_at_call 14; (with_reducible refine (cG _).mono ?_); rintro e wq ⟨rfl, hbq⟩; replace FF := FF.keep hbq (by omega); replace GG := GG.keep hbq (by omega); replace l1 := Nat.lt_of_lt_of_le l1 hbq.size; clear c0 c1 c2 c3 c4 c5 c6 g0 g1 g2 g3 g4; obtain ⟨c0, c1, c2, c3, c4, c5, c6⟩ := id FF; obtain ⟨g0, g1, g2, g3, g4⟩ := id GG; replace hb0 := bt hb0 hbq; clear hbq)
      | (go_at_call 19; (with_reducible refine (cR _ hb0).mono ?_); rintro e wq ⟨rfl, hbq⟩; replace FF := FF.keep hbq (by omega); replace GG := GG.keep hbq (by omega); replace l1 := Nat.lt_of_lt_of_le l1 hbq.size; clear c0 c1 c2 c3 c4 c5 c6 g0 g1 g2 g3 g4; obtain ⟨c0, c1, c2, c3, c4, c5, c6⟩ := id FF; obtain ⟨g0, g1, g2, g3, g4⟩ := id GG; replace hb0 := bt hb0 hbq; clear hbq))
    go_ret
    exact ⟨rfl, hb0⟩
  · have h2 : (10 : Int) < (m : Int) := by omega
    clear hm
    go_enter Tryd.func4, Tryd.ntmps4
    go_upto_region 1 with fail
    generalize (w.alloc (.cells #[.int .i64 z, .int .i64 d, .int .i64 s, .int .i64 l, .int .i64 a] 23)).alloc (.cells #[.int .i64 x.gen, .int .i64 x.ep, .int .i64 x.pos, .int .i64 x.seq, .int .i64 x.last, .string x.lab, .slice x.HA x.hs.length x.hc] 31) = w0 at *
    obtain ⟨c0, c1, c2, c3, c4, c5, c6⟩ := id FF
    obtain ⟨g0, g1, g2, g3, g4⟩ := id GG
    go_wp2_with (first
      | (go_at_call 8; (with_reducible refine (cH _ hb0).mono ?_); rintro e wq ⟨rfl, hbq⟩; replace FF := FF.keep hbq (by omega); replace GG := GG.keep hbq (by omega); replace l1 := Nat.lt_of_lt_of_le l1 hbq.size; clear c0 c1 c2 c3 c4 c5 c6 g0 g1 g2 g3 g4; obtain ⟨c0, c1, c2, c3, c4, c5, c6⟩ := id FF; obtain ⟨g0, g1, g2, g3, g4⟩ := id GG; replace hb0 := bt hb0 hbq; clear hbq)
      | (go_at_call 14; (with_reducible refine (cG _).mono ?_); rintro e wq ⟨rfl, hbq⟩; replace FF := FF.keep hbq (by omega); replace GG := GG.keep hbq (by omega); replace l1 := Nat.lt_of_lt_of_le l1 hbq.size; clear c0 c1 c2 c3 c4 c5 c6 g0 g1 g2 g3 g4; obtain ⟨c0, c1, c2, c3, c4, c5, c6⟩ := id FF; obtain ⟨g0, g1, g2, g3, g4⟩ := id GG; replace hb0 := bt hb0 hbq; clear hbq)
      | (go_at_call 19; (with_reducible refine (cR _ hb0).mono ?_); rintro e wq ⟨rfl, hbq⟩; replace FF := FF.keep hbq (by omega); replace GG := GG.keep hbq (by omega); replace l1 := Nat.lt_of_lt_of_le l1 hbq.size; clear c0 c1 c2 c3 c4 c5 c6 g0 g1 g2 g3 g4; obtain ⟨c0, c1, c2, c3, c4, c5, c6⟩ := id FF; obtain ⟨g0, g1, g2, g3, g4⟩ := id GG; replace hb0 := bt hb0 hbq; clear hbq))
    go_ret
    exact ⟨rfl, hb0⟩

set_option maxRecDepth 100000 in
set_option maxHeartbeats 8000000 in
theorem nl_good (z d s l a : Int) (x : AV) (A : Option Addr) (n c : Nat) (L : List Int) (B : Option Addr) (m b : Nat) (L2 : List Int) (w : World) (hc : Cts w) (hx : x.In w w.heap.size) (hh : ¬ HeavyA x.d) (ho : Ok z d s l a) (hg : anc.Good z d s l x.d) (hL : L.length = n) (hA : SlV w w.heap.size A (ints L)) (hL2 : L2.length = m) (hB : SlV w w.heap.size B (ints L2)) (hn : n ≤ 10) (hm : m ≤ 10) :
    Calls Tryd.prog 4 #[.agg #[.int .i64 z, .int .i64 d, .int .i64 s, .int .i64 l, .int .i64 a], x.v, .slice A n c, .slice B m b] w fun e w' => e = .returned (.bool true) ∧ Below w.heap.size w w' := by
  have HC := Lib.hid hc
  obtain ⟨t1, t2, t3⟩ := light hh
  have cH := fun W (hW : Below w.heap.size w W) => heavy_any false x W (hx.next hW) (iff_of_false Bool.false_ne_true hh)
  have cG := fun W => rgeo_at true z d s l a W (iff_of_true rfl ho)
  have cR := fun W (hW : Below w.heap.size w W) => right_p z d s l a true x W ho (hx.next hW) (by omega) (fun r hr => by have := t3 r hr; omega) (by omega) (iff_of_true rfl hg)
  have HX := Lib.hid hx
  have HG := Lib.hid hg
  have HO := Lib.hid ho
  have HSH := Lib.hid (show x.hs.length ≤ 1048576 ∧ anc.HShort 1048576 x.hs from ⟨by omega, fun r hr => by have := t3 r hr; omega⟩)
  have ha3 : 1 ≤ a ∧ a ≤ 3 := ho.2.2.2.2
  have hn' : ¬ (10 : Int) < (n : Int) := by omega
  have hm' : ¬ (10 : Int) < (m : Int) := by omega
  unfold AV.v
  have GG := (g5_new w z d s l a).keep (bl (w.alloc (.cells #[.int .i64 z, .int .i64 d, .int .i64 s, .int .i64 l, .int .i64 a] 23)) (.cells #[.int .i64 x.gen, .int .i64 x.ep, .int .i64 x.pos, .int .i64 x.seq, .int .i64 x.last, .string x.lab, .slice x.HA x.hs.length x.hc] 31)) (by simp)
  have FF := ac_new (w.alloc (.cells #[.int .i64 z, .int .i64 d, .int .i64 s, .int .i64 l, .int .i64 a] 23)) x
  have hb0 := kal (bl w (.cells #[.int .i64 z, .int .i64 d, .int .i64 s, .int .i64 l, .int .i64 a] 23)) (.cells #[.int .i64 x.gen, .int .i64 x.ep, .int .i64 x.pos, .int .i64 x.seq, .int .i64 x.last, .string x.lab, .slice x.HA x.hs.length x.hc] 31)
  rw [show (w.alloc (.cells #[.int .i64 z, .int .i64 d, .int .i64 s, .int .i64 l, .int .i64 a] 23)).heap.size = w.heap.size + 1 by simp] at FF
  have l1 : w.heap.size + 1 < ((w.alloc (.cells #[.int .i64 z, .int .i64 d, .int .i64 s, .int .i64 l, .int .i64 a] 23)).alloc (.cells #[.int .i64 x.gen, .int .i64 x.ep, .int .i64 x.pos, .int .i64 x.seq, .int .i64 x.last, .string x.lab, .slice x.HA x.hs.length x.hc] 31)).heap.size := by simp
  unfold AV.v at cH cR
  clear hx hh ho hg t1 t2 t3 hc
  go_enter Tryd.func4, Tryd.ntmps4
  go_upto_region 1 with fail
  generalize (w.alloc (.cells #[.int .i64 z, .int .i64 d, .int .i64 s, .int .i64 l, .int .i64 a] 23)).alloc (.cells #[.int .i64 x.gen, .int .i64 x.ep, .int .i64 x.pos, .int .i64 x.seq, .int .i64 x.last, .string x.lab, .slice x.HA x.hs.length x.hc] 31) = w0 at *
  obtain ⟨c0, c1, c2, c3, c4, c5, c6⟩ := id FF
  obtain ⟨g0, g1, g2, g3, g4⟩ := id GG
  go_upto_region 3 with (first
    | (go_at_call 8; (with_reducible refine (cH _ hb0).mono ?_); rintro e wq ⟨rfl, hbq⟩; replace FF := FF.keep hbq (by omega); replace GG := GG.keep hbq (by omega); replace l1 := Nat.lt_of_lt_of_le l1 hbq.size; clear c0 c1 c2 c3 c4 c5 c6 g0 g1 g2 g3 g4; obtain ⟨c0, c1, c2, c3, c4, c5, c6⟩ := id FF; obtain ⟨g0, g1, g2, g3, g4⟩ := id GG; replace hb0 := bt hb0 hbq; clear hbq)
    | (go_at_call 14; (with_reducible refine (cG _).mono ?_); rintro e wq ⟨rfl, hbq⟩; replace FF := FF.keep hbq (by omega); replace GG := GG.keep hbq (by omega); replace l1 := Nat.lt_of_lt_of_le l1 hbq.size; clear c0 c1 c2 c3 c4 c5 c6 g0 g1 g2 g3 g4; obtain ⟨c0, c1, c2, c3, c4, c5, c6⟩ := id FF; obtain ⟨g0, g1, g2, g3, g4⟩ := id GG; replace hb0 := bt hb0 hbq; clear hbq)
    | (go_at_call 19; (with_reducible refine (cR _ hb0).mono ?_); rintro e wq ⟨rfl, hbq⟩; replace FF := FF.keep hbq (by omega); replace GG := GG.keep hbq (by omega); replace l1 := Nat.lt_of_lt_of_le l1 hbq.size; clear c0 c1 c2 c3 c4 c5 c6 g0 g1 g2 g3 g4; obtain ⟨c0, c1, c2, c3, c4, c5, c6⟩ := id FF; obtain ⟨g0, g1, g2, g3, g4⟩ := id GG; replace hb0 := bt hb0 hbq; clear hbq))

  obtain ⟨w3, rfl⟩ : ∃ x, x = wq := ⟨wq, rfl⟩
  have HWK := Lib.hid (show ∀ W, Below w.heap.size w W → Calls Tryd.prog 16 #[] W fun e w' => e = .returned (.bool true) ∧ Below W.heap.size W w' from fun W hW => wk_new W (HC.out.next hW))
  have B3 := hb0
  have l3 := l1
  clear hb0 l1 cH cG cR hn' hm'
  go_wp2_with fail
  go_loopw [9, 10, 11] (fun vl vq i w' => ∃ (k q : Nat) (rs : List GotR), (k : Int) ≤ a ∧ i = .int .i64 k ∧ vq = .int .i64 q ∧ q ≤ k ∧ OwnG w' w3.heap.size vl rs ∧ rs.length = k ∧ Lft z d s l x.d rs q ∧ Below w3.heap.size w3 w') (fun _ _ i _ => (a - RowKit.intOf i).toNat)
  case atStart => exact ⟨0, 0, [], by omega, rfl, rfl, Nat.le_refl _, ownG_nil _ _, rfl, lft_nil z d s l x.d, Below.refl _ _⟩
  case round =>
    clear g0 g1 g2 g3 g4 c0 c1 c2 c3 c4 c5 c6
    obtain ⟨w5, rfl⟩ : ∃ x, x = wr := ⟨wr, rfl⟩
    obtain ⟨k, q, rs, hk, rfl, rfl, hqk, hown, hlk, hlf, hb5⟩ := hrel
    have l5 := hb5.size
    obtain ⟨g0, g1, g2, g3, g4⟩ := id (GG.keep hb5 (by omega))
    obtain ⟨c0, c1, c2, c3, c4, c5, c6⟩ := id (FF.keep hb5 (by omega))
    by_cases hlt : (k : Int) < a
    · have HLK := Lib.hid hlk
      have HLF := Lib.hid hlf
      have HOW := Lib.hid hown
      obtain ⟨h96, h25, hg0, hg1⟩ := enc96 HO.out HG.out
      obtain ⟨M, hM⟩ : ∃ M, M = enc k x.gen.toNat (encA x.d) := ⟨_, rfl⟩
      obtain ⟨p, hp⟩ : ∃ p, p = (encA x.d).length + 11 := ⟨_, rfl⟩
      have hMp : M.length = p := by rw [hM, enc_length, hp]
      have hp1 : 0 < p ∧ p ≤ 107 := by omega
      have HCL := Lib.hid (show Calls Tryd.prog 12 #[.agg #[.int .i64 z, .int .i64 d, .int .i64 s, .int .i64 l, .int .i64 a], x.v, .int .i64 k] w5 fun e' w' => CellQ w5.heap.size p M e' w' ∧ Below w5.heap.size w5 w' from by
        have h9 := HC.out.cell z d s l a k x w5 (bt B3 hb5) HO.out (HX.out.next (bt B3 hb5)) HG.out (by omega) hlt
        rw [Int.toNat_natCast] at h9
        rw [hM, hp]
        exact h9)
      have HMP := Lib.hid hMp
      have HM := Lib.hid hM
      have hk3 : k < 3 := by omega
      clear hM hp hMp hg0 hg1 h96 h25 hlk hlf hown
      unfold AV.v at HCL
      go_upto_region 9 with (go_at_call 12; (with_reducible refine HCL.out.mono ?_); rintro e w9 ⟨⟨X, y, rfl, hbo⟩, hb9⟩)
      clear g0 g1 g2 g3 g4 c0 c1 c2 c3 c4 c5 c6 HCL
      have HOW9 := Lib.hid (HOW.out.below hb9)
      have HBO := Lib.hid (hbo.less l5)
      have HB39 := Lib.hid (bm hb5 (Nat.le_refl _) hb9)
      have HBW := Lib.hid (bt B3 HB39.out)
      clear hb9 hbo HOW
      have hp2 : ¬ (p : Int) = 0 := by omega
      go_upto_region 13 with fail
      have PC := gotC_new w9 (.int .i64 0) (.slice X p y) 28
      have hxa := bl w9 (.cells #[.int .i64 0, .slice X p y] 28)
      obtain ⟨gp, hgp⟩ : ∃ g, g = w9.heap.size := ⟨_, rfl⟩
      have lP : gp < (w9.alloc (.cells #[.int .i64 0, .slice X p y] 28)).heap.size := by rw [hgp]; simp
      have HGP := Lib.hid hgp
      rw [← hgp] at PC hxa ⊢
      have HBWa := Lib.hid (bt HBW.out (show Below w9.heap.size w9 (w9.alloc (.cells #[.int .i64 0, .slice X p y] 28)) from bl w9 _))
      clear hgp hp2
      generalize w9.alloc (.cells #[.int .i64 0, .slice X p y] 28) = wa at *
      have hMa : Own wa w3.heap.size 5 (.slice X p y) M := HBO.out.below (by rw [← HGP.out]; exact hxa)
      have HMa := Lib.hid hMa
      have HBO9 := HBO
      clear hMa HBO
      obtain ⟨pc0, pc1, pf0, pf1⟩ := id PC
      have i2 : (0 : Int) ≤ (k : Int) := by omega
      by_cases i1 : (k : Int) < (n : Int)
      · obtain ⟨bL, oL, rfl, hbL, hcL⟩ := hA (by rw [ints_length]; omega)
        have hkL : k < L.length := by omega
        have e0 := hcL k (by rw [ints_length]; exact hkL)
        rw [ints_get] at e0
        have e5 : wa.cell? ⟨bL, oL + k, none⟩ = some (.int .i64 L[k]) := (HBWa.out.cell (p := ⟨bL, oL + k, none⟩) hbL).trans e0
        have h4 : (IntKind.u64.wrap L[k]) % 4 = 0 ∨ (IntKind.u64.wrap L[k]) % 4 = 1 ∨ (IntKind.u64.wrap L[k]) % 4 = 2 ∨ (IntKind.u64.wrap L[k]) % 4 = 3 := by
          have h6 := Int.emod_nonneg (IntKind.u64.wrap L[k]) (show (4 : Int) ≠ 0 by omega)
          have h7 := Int.emod_lt_of_pos (IntKind.u64.wrap L[k]) (show (0 : Int) < 4 by omega)
          omega
        have ht : ∀ v, (IntKind.u64.wrap L[k]) % 4 = v → (IntKind.u64.wrap L[k]).tmod 4 = v := fun v hv => (Int.tmod_eq_emod_of_nonneg (wrap_nonneg _)).trans hv
        clear e0 hcL
        rcases h4 with h4 | h4 | h4 | h4
        · have h5 := ht _ h4
          clear ht
          go_upto_region 26 with fail
          clear pc0 pc1 pf0 pf1
          have PF := PC
          have bF := hxa
          have hRF := HMa.out
          have hRQ := HMP.out
          clear PC hxa
          have HOF := Lib.hid (show OwnG wa w3.heap.size u9 rs from HOW9.out.below (by rw [← HGP.out]; exact bF))
          have HB3F := Lib.hid (show Below w3.heap.size w3 wa from HB39.out.trans (bF.mono (by rw [HGP.out]; exact HB39.out.size)))
          have hszF := HB3F.out.size
          have HRF := Lib.hid hRF
          obtain ⟨pc0, pc1, -, -⟩ := id PF
          have HBF := Lib.hid bF
          have HRQ := Lib.hid hRQ
          have hlk3 : rs.length ≤ 3 := by have := HLK.out; omega
          clear bF hRF PF hRQ
          go_wp2_with (at_builtin
                       refine wpList_row _ rfl (.tmp 109) (.tmp 111) _ _ rfl w3.heap.size 2 32 28 (.agg #[.int .i64 0, .slice none 0 0]) Tryd.underlying24 g_info rfl u9 rs.length (gvs rs) rfl (World.ownsRow.alloc HOF.out.1 _) _ 1 _ rfl (src_got (P := Tryd.prog) (heap_alloc_new wa _) Tryd.underlying24 (by simp [Value.oneCell'])) (by unfold maxLen; omega) (by omega) (by simp; omega) ?_
                       intro v3 w10 h3 hg3)
          have b10 : Below w3.heap.size w3 w10 := (HB3F.out.alloc (by omega) _).grown hg3 (by simp; omega) (fun y hy => (World.ownsRow.lt HOF.out.1 y hy).1)
          have hmeas : (a - RowKit.intOf (.int .i64 ((k : Int) + 1))).toNat < (a - RowKit.intOf (.int .i64 (k : Int))).toNat := by
            show (a - ((k : Int) + 1)).toNat < (a - (k : Int)).toNat
            omega
          have hO10 : OwnG w10 w3.heap.size v3 (rs ++ [⟨0, X, y, M⟩]) := by
            refine OwnG.more (r := ⟨0, X, y, M⟩) (HOF.out.below (bl wa _)) hg3 ?_ ?_
            · show Own _ _ _ (.slice X (M).length (y)) (M)
              rw [HRQ.out]
              exact HRF.out.below (bl wa _)
            · show w10.ownsRow w3.heap.size 28 2 v3 (rs.length + 1) (gvs rs ++ [.int .i64 (0), .slice X (M).length (y)])
              rw [HRQ.out]
              exact h3
          exact ⟨⟨k + 1, q + 1, _, by omega, by go_num, by go_num, by omega, hO10, by rw [List.length_append, List.length_singleton, HLK.out], lft_next HLF.out HLK.out (.inr ⟨by show sayO z d s l 0 M (k : Int) = _; rw [HM.out]; exact sayO_some HO.out (says_enc HG.out (by omega)), rfl⟩), b10⟩, hmeas⟩
        · have h5 := ht _ h4
          clear ht
          go_upto_region 26 with fail
          clear pc0 pc1 pf0 pf1
          have PF := (PC.set0 (.int .i64 6)).set1 (.slice none 0 0)
          have bF : Below gp w9 ((wa.setCell ⟨gp, 0, none⟩ (.int .i64 6)).setCell ⟨gp, 1, none⟩ (.slice none 0 0)) := (hxa.setCell (p := ⟨gp, 0, none⟩) (Nat.le_refl gp) _).setCell (p := ⟨gp, 1, none⟩) (Nat.le_refl gp) _
          have hRF : Own ((wa.setCell ⟨gp, 0, none⟩ (.int .i64 6)).setCell ⟨gp, 1, none⟩ (.slice none 0 0)) w3.heap.size 5 (.slice none 0 0) [] := own_nil _ _ _
          have hRQ : ([] : List UInt8).length = 0 := rfl
          clear PC hxa
          generalize ((wa.setCell ⟨gp, 0, none⟩ (.int .i64 6)).setCell ⟨gp, 1, none⟩ (.slice none 0 0)) = wf at *
          have HOF := Lib.hid (show OwnG wf w3.heap.size u9 rs from HOW9.out.below (by rw [← HGP.out]; exact bF))
          have HB3F := Lib.hid (show Below w3.heap.size w3 wf from HB39.out.trans (bF.mono (by rw [HGP.out]; exact HB39.out.size)))
          have hszF := HB3F.out.size
          have HRF := Lib.hid hRF
          obtain ⟨pc0, pc1, -, -⟩ := id PF
          have HBF := Lib.hid bF
          have HRQ := Lib.hid hRQ
          have hlk3 : rs.length ≤ 3 := by have := HLK.out; omega
          clear bF hRF PF hRQ
          go_wp2_with (at_builtin
                       refine wpList_row _ rfl (.tmp 109) (.tmp 111) _ _ rfl w3.heap.size 2 32 28 (.agg #[.int .i64 0, .slice none 0 0]) Tryd.underlying24 g_info rfl u9 rs.length (gvs rs) rfl (World.ownsRow.alloc HOF.out.1 _) _ 1 _ rfl (src_got (P := Tryd.prog) (heap_alloc_new wf _) Tryd.underlying24 (by simp [Value.oneCell'])) (by unfold maxLen; omega) (by omega) (by simp; omega) ?_
                       intro v3 w10 h3 hg3)
          have b10 : Below w3.heap.size w3 w10 := (HB3F.out.alloc (by omega) _).grown hg3 (by simp; omega) (fun y hy => (World.ownsRow.lt HOF.out.1 y hy).1)
          have hmeas : (a - RowKit.intOf (.int .i64 ((k : Int) + 1))).toNat < (a - RowKit.intOf (.int .i64 (k : Int))).toNat := by
            show (a - ((k : Int) + 1)).toNat < (a - (k : Int)).toNat
            omega
          have hO10 : OwnG w10 w3.heap.size v3 (rs ++ [⟨6, none, 0, []⟩]) := by
            refine OwnG.more (r := ⟨6, none, 0, []⟩) (HOF.out.below (bl wf _)) hg3 ?_ ?_
            · show Own _ _ _ (.slice none ([]).length (0)) ([])
              rw [HRQ.out]
              exact HRF.out.below (bl wf _)
            · show w10.ownsRow w3.heap.size 28 2 v3 (rs.length + 1) (gvs rs ++ [.int .i64 (6), .slice none ([]).length (0)])
              rw [HRQ.out]
              exact h3
          exact ⟨⟨k + 1, q, _, by omega, by go_num, by go_num, by omega, hO10, by rw [List.length_append, List.length_singleton, HLK.out], lft_next HLF.out HLK.out (.inl ⟨says_not6 (by decide), rfl⟩), b10⟩, hmeas⟩
        · have h5 := ht _ h4
          clear ht
          have HFL := Lib.hid (fun bit msk => flip_q HMP.out HMa.out (by omega) bit msk)
          go_upto_region 21 with fail
          by_cases i3 : (k : Int) < (m : Int)
          · obtain ⟨bM, oM, rfl, hbM, hcM⟩ := hB (by rw [ints_length]; omega)
            have hkM : k < L2.length := by omega
            have e1 := hcM k (by rw [ints_length]; exact hkM)
            rw [ints_get] at e1
            have e6 : wa.cell? ⟨bM, oM + k, none⟩ = some (.int .i64 L2[k]) := (HBWa.out.cell (p := ⟨bM, oM + k, none⟩) hbM).trans e1
            obtain ⟨v, hv⟩ : ∃ v, v = (IntKind.u64.wrap L2[k]) % 4294967296 := ⟨_, rfl⟩
            have j1 := hv.symm
            have j2 : (IntKind.u64.wrap L2[k]).tmod 4294967296 = v := (Int.tmod_eq_emod_of_nonneg (wrap_nonneg _)).trans j1
            have j3 : 0 ≤ v ∧ v < 4294967296 := by
              rw [hv]
              exact ⟨Int.emod_nonneg _ (by omega), Int.emod_lt_of_pos _ (by omega)⟩
            clear e1 hcM hv
            go_upto_region 23 with fail
            go_upto_region 26 with (go_at_call 22; (with_reducible refine (HFL.out _ _).mono ?_); rintro e wb ⟨⟨out, Z, zc, rfl, hZo, hZt, hZl⟩, hbb⟩; have PD := PC.keep hbb lP; obtain ⟨pd0, pd1, pe0, pe1⟩ := id PD)
            clear pc0 pc1 pf0 pf1 pd0 pd1 pe0 pe1 HFL
            have PF := PD.set1 (.slice Z p zc)
            have bF : Below gp w9 (wb.setCell ⟨gp, 1, none⟩ (.slice Z p zc)) := (hxa.trans (hbb.mono (Nat.le_of_lt lP))).setCell (p := ⟨gp, 1, none⟩) (Nat.le_refl gp) _
            have hRF : Own (wb.setCell ⟨gp, 1, none⟩ (.slice Z p zc)) w3.heap.size 5 (.slice Z p zc) out := (own_set_low hZo lP _).less (by have h9 := HB39.out.size; have h8 := HGP.out; omega)
            have HSY := Lib.hid (show sayO z d s l 0 out (k : Int) = none from by
              rw [← HMP.out, HM.out] at hZt
              exact says_turned HO.out HG.out hZt)
            clear PC PD hxa hZo hZt hbb
            generalize (wb.setCell ⟨gp, 1, none⟩ (.slice Z p zc)) = wf at *
            have hRQ := hZl
            have HOF := Lib.hid (show OwnG wf w3.heap.size u9 rs from HOW9.out.below (by rw [← HGP.out]; exact bF))
            have HB3F := Lib.hid (show Below w3.heap.size w3 wf from HB39.out.trans (bF.mono (by rw [HGP.out]; exact HB39.out.size)))
            have hszF := HB3F.out.size
            have HRF := Lib.hid hRF
            obtain ⟨pc0, pc1, -, -⟩ := id PF
            have HBF := Lib.hid bF
            have HRQ := Lib.hid hRQ
            have hlk3 : rs.length ≤ 3 := by have := HLK.out; omega
            clear bF hRF PF hRQ
            go_wp2_with (at_builtin
                         refine wpList_row _ rfl (.tmp 109) (.tmp 111) _ _ rfl w3.heap.size 2 32 28 (.agg #[.int .i64 0, .slice none 0 0]) Tryd.underlying24 g_info rfl u9 rs.length (gvs rs) rfl (World.ownsRow.alloc HOF.out.1 _) _ 1 _ rfl (src_got (P := Tryd.prog) (heap_alloc_new wf _) Tryd.underlying24 (by simp [Value.oneCell'])) (by unfold maxLen; omega) (by omega) (by simp; omega) ?_
                         intro v3 w10 h3 hg3)
            have b10 : Below w3.heap.size w3 w10 := (HB3F.out.alloc (by omega) _).grown hg3 (by simp; omega) (fun y hy => (World.ownsRow.lt HOF.out.1 y hy).1)
            have hmeas : (a - RowKit.intOf (.int .i64 ((k : Int) + 1))).toNat < (a - RowKit.intOf (.int .i64 (k : Int))).toNat := by
              show (a - ((k : Int) + 1)).toNat < (a - (k : Int)).toNat
              omega
            have hO10 : OwnG w10 w3.heap.size v3 (rs ++ [⟨0, Z, zc, out⟩]) := by
              refine OwnG.more (r := ⟨0, Z, zc, out⟩) (HOF.out.below (bl wf _)) hg3 ?_ ?_
              · show Own _ _ _ (.slice Z (out).length (zc)) (out)
                rw [HRQ.out]
                exact HRF.out.below (bl wf _)
              · show w10.ownsRow w3.heap.size 28 2 v3 (rs.length + 1) (gvs rs ++ [.int .i64 (0), .slice Z (out).length (zc)])
                rw [HRQ.out]
                exact h3
            exact ⟨⟨k + 1, q, _, by omega, by go_num, by go_num, by omega, hO10, by rw [List.length_append, List.length_singleton, HLK.out], lft_next HLF.out HLK.out (.inl ⟨HSY.out, rfl⟩), b10⟩, hmeas⟩
          · go_upto_region 23 with fail
            go_upto_region 26 with (go_at_call 22; (with_reducible refine (HFL.out _ _).mono ?_); rintro e wb ⟨⟨out, Z, zc, rfl, hZo, hZt, hZl⟩, hbb⟩; have PD := PC.keep hbb lP; obtain ⟨pd0, pd1, pe0, pe1⟩ := id PD)
            clear pc0 pc1 pf0 pf1 pd0 pd1 pe0 pe1 HFL
            have PF := PD.set1 (.slice Z p zc)
            have bF : Below gp w9 (wb.setCell ⟨gp, 1, none⟩ (.slice Z p zc)) := (hxa.trans (hbb.mono (Nat.le_of_lt lP))).setCell (p := ⟨gp, 1, none⟩) (Nat.le_refl gp) _
            have hRF : Own (wb.setCell ⟨gp, 1, none⟩ (.slice Z p zc)) w3.heap.size 5 (.slice Z p zc) out := (own_set_low hZo lP _).less (by have h9 := HB39.out.size; have h8 := HGP.out; omega)
            have HSY := Lib.hid (show sayO z d s l 0 out (k : Int) = none from by
              rw [← HMP.out, HM.out] at hZt
              exact says_turned HO.out HG.out hZt)
            clear PC PD hxa hZo hZt hbb
            generalize (wb.setCell ⟨gp, 1, none⟩ (.slice Z p zc)) = wf at *
            have hRQ := hZl
            have HOF := Lib.hid (show OwnG wf w3.heap.size u9 rs from HOW9.out.below (by rw [← HGP.out]; exact bF))
            have HB3F := Lib.hid (show Below w3.heap.size w3 wf from HB39.out.trans (bF.mono (by rw [HGP.out]; exact HB39.out.size)))
            have hszF := HB3F.out.size
            have HRF := Lib.hid hRF
            obtain ⟨pc0, pc1, -, -⟩ := id PF
            have HBF := Lib.hid bF
            have HRQ := Lib.hid hRQ
            have hlk3 : rs.length ≤ 3 := by have := HLK.out; omega
            clear bF hRF PF hRQ
            go_wp2_with (at_builtin
                         refine wpList_row _ rfl (.tmp 109) (.tmp 111) _ _ rfl w3.heap.size 2 32 28 (.agg #[.int .i64 0, .slice none 0 0]) Tryd.underlying24 g_info rfl u9 rs.length (gvs rs) rfl (World.ownsRow.alloc HOF.out.1 _) _ 1 _ rfl (src_got (P := Tryd.prog) (heap_alloc_new wf _) Tryd.underlying24 (by simp [Value.oneCell'])) (by unfold maxLen; omega) (by omega) (by simp; omega) ?_
                         intro v3 w10 h3 hg3)
            have b10 : Below w3.heap.size w3 w10 := (HB3F.out.alloc (by omega) _).grown hg3 (by simp; omega) (fun y hy => (World.ownsRow.lt HOF.out.1 y hy).1)
            have hmeas : (a - RowKit.intOf (.int .i64 ((k : Int) + 1))).toNat < (a - RowKit.intOf (.int .i64 (k : Int))).toNat := by
              show (a - ((k : Int) + 1)).toNat < (a - (k : Int)).toNat
              omega
            have hO10 : OwnG w10 w3.heap.size v3 (rs ++ [⟨0, Z, zc, out⟩]) := by
              refine OwnG.more (r := ⟨0, Z, zc, out⟩) (HOF.out.below (bl wf _)) hg3 ?_ ?_
              · show Own _ _ _ (.slice Z (out).length (zc)) (out)
                rw [HRQ.out]
                exact HRF.out.below (bl wf _)
              · show w10.ownsRow w3.heap.size 28 2 v3 (rs.length + 1) (gvs rs ++ [.int .i64 (0), .slice Z (out).length (zc)])
                rw [HRQ.out]
                exact h3
            exact ⟨⟨k + 1, q, _, by omega, by go_num, by go_num, by omega, hO10, by rw [List.length_append, List.length_singleton, HLK.out], lft_next HLF.out HLK.out (.inl ⟨HSY.out, rfl⟩), b10⟩, hmeas⟩
        · have h5 := ht _ h4
          clear ht
          have i4 : (1 : Int) ≤ (p : Int) := by omega
          have i5 : (p : Int) - 1 ≤ (y : Int) := by
            have h8 := (own_ly HMa.out).1
            rw [HMP.out] at h8
            omega
          go_upto_region 26 with fail
          clear pc0 pc1 pf0 pf1
          have PF := PC.set1 (.slice X (p - 1) y)
          have bF : Below gp w9 (wa.setCell ⟨gp, 1, none⟩ (.slice X (p - 1) y)) := hxa.setCell (p := ⟨gp, 1, none⟩) (Nat.le_refl gp) _
          have hRF : Own (wa.setCell ⟨gp, 1, none⟩ (.slice X (p - 1) y)) w3.heap.size 5 (.slice X (p - 1) y) (M.take (p - 1)) := own_cut ((HBO9.out.below (by rw [← HGP.out]; exact bF))) (by omega)
          have hRQ : (M.take (p - 1)).length = p - 1 := by
            rw [List.length_take, HMP.out]
            omega
          clear PC hxa i4 i5
          generalize (wa.setCell ⟨gp, 1, none⟩ (.slice X (p - 1) y)) = wf at *
          have HOF := Lib.hid (show OwnG wf w3.heap.size u9 rs from HOW9.out.below (by rw [← HGP.out]; exact bF))
          have HB3F := Lib.hid (show Below w3.heap.size w3 wf from HB39.out.trans (bF.mono (by rw [HGP.out]; exact HB39.out.size)))
          have hszF := HB3F.out.size
          have HRF := Lib.hid hRF
          obtain ⟨pc0, pc1, -, -⟩ := id PF
          have HBF := Lib.hid bF
          have HRQ := Lib.hid hRQ
          have hlk3 : rs.length ≤ 3 := by have := HLK.out; omega
          clear bF hRF PF hRQ
          go_wp2_with (at_builtin
                       refine wpList_row _ rfl (.tmp 109) (.tmp 111) _ _ rfl w3.heap.size 2 32 28 (.agg #[.int .i64 0, .slice none 0 0]) Tryd.underlying24 g_info rfl u9 rs.length (gvs rs) rfl (World.ownsRow.alloc HOF.out.1 _) _ 1 _ rfl (src_got (P := Tryd.prog) (heap_alloc_new wf _) Tryd.underlying24 (by simp [Value.oneCell'])) (by unfold maxLen; omega) (by omega) (by simp; omega) ?_
                       intro v3 w10 h3 hg3)
          have b10 : Below w3.heap.size w3 w10 := (HB3F.out.alloc (by omega) _).grown hg3 (by simp; omega) (fun y hy => (World.ownsRow.lt HOF.out.1 y hy).1)
          have hmeas : (a - RowKit.intOf (.int .i64 ((k : Int) + 1))).toNat < (a - RowKit.intOf (.int .i64 (k : Int))).toNat := by
            show (a - ((k : Int) + 1)).toNat < (a - (k : Int)).toNat
            omega
          have hO10 : OwnG w10 w3.heap.size v3 (rs ++ [⟨0, X, y, M.take (p - 1)⟩]) := by
            refine OwnG.more (r := ⟨0, X, y, M.take (p - 1)⟩) (HOF.out.below (bl wf _)) hg3 ?_ ?_
            · show Own _ _ _ (.slice X (M.take (p - 1)).length (y)) (M.take (p - 1))
              rw [HRQ.out]
              exact HRF.out.below (bl wf _)
            · show w10.ownsRow w3.heap.size 28 2 v3 (rs.length + 1) (gvs rs ++ [.int .i64 (0), .slice X (M.take (p - 1)).length (y)])
              rw [HRQ.out]
              exact h3
          exact ⟨⟨k + 1, q, _, by omega, by go_num, by go_num, by omega, hO10, by rw [List.length_append, List.length_singleton, HLK.out], lft_next HLF.out HLK.out (.inl ⟨by show sayO z d s l 0 (M.take (p - 1)) (k : Int) = _; rw [HM.out]; exact says_cut HO.out HG.out (by rw [← HM.out]; exact HMP.out), rfl⟩), b10⟩, hmeas⟩
      · go_upto_region 26 with fail
        clear pc0 pc1 pf0 pf1
        have PF := PC
        have bF := hxa
        have hRF := HMa.out
        have hRQ := HMP.out
        clear PC hxa
        have HOF := Lib.hid (show OwnG wa w3.heap.size u9 rs from HOW9.out.below (by rw [← HGP.out]; exact bF))
        have HB3F := Lib.hid (show Below w3.heap.size w3 wa from HB39.out.trans (bF.mono (by rw [HGP.out]; exact HB39.out.size)))
        have hszF := HB3F.out.size
        have HRF := Lib.hid hRF
        obtain ⟨pc0, pc1, -, -⟩ := id PF
        have HBF := Lib.hid bF
        have HRQ := Lib.hid hRQ
        have hlk3 : rs.length ≤ 3 := by have := HLK.out; omega
        clear bF hRF PF hRQ
        go_wp2_with (at_builtin
                     refine wpList_row _ rfl (.tmp 109) (.tmp 111) _ _ rfl w3.heap.size 2 32 28 (.agg #[.int .i64 0, .slice none 0 0]) Tryd.underlying24 g_info rfl u9 rs.length (gvs rs) rfl (World.ownsRow.alloc HOF.out.1 _) _ 1 _ rfl (src_got (P := Tryd.prog) (heap_alloc_new wa _) Tryd.underlying24 (by simp [Value.oneCell'])) (by unfold maxLen; omega) (by omega) (by simp; omega) ?_
                     intro v3 w10 h3 hg3)
        have b10 : Below w3.heap.size w3 w10 := (HB3F.out.alloc (by omega) _).grown hg3 (by simp; omega) (fun y hy => (World.ownsRow.lt HOF.out.1 y hy).1)
        have hmeas : (a - RowKit.intOf (.int .i64 ((k : Int) + 1))).toNat < (a - RowKit.intOf (.int .i64 (k : Int))).toNat := by
          show (a - ((k : Int) + 1)).toNat < (a - (k : Int)).toNat
          omega
        have hO10 : OwnG w10 w3.heap.size v3 (rs ++ [⟨0, X, y, M⟩]) := by
          refine OwnG.more (r := ⟨0, X, y, M⟩) (HOF.out.below (bl wa _)) hg3 ?_ ?_
          · show Own _ _ _ (.slice X (M).length (y)) (M)
            rw [HRQ.out]
            exact HRF.out.below (bl wa _)
          · show w10.ownsRow w3.heap.size 28 2 v3 (rs.length + 1) (gvs rs ++ [.int .i64 (0), .slice X (M).length (y)])
            rw [HRQ.out]
            exact h3
        exact ⟨⟨k + 1, q + 1, _, by omega, by go_num, by go_num, by omega, hO10, by rw [List.length_append, List.length_singleton, HLK.out], lft_next HLF.out HLK.out (.inr ⟨by show sayO z d s l 0 M (k : Int) = _; rw [HM.out]; exact sayO_some HO.out (says_enc HG.out (by omega)), rfl⟩), b10⟩, hmeas⟩
    · have hka : (k : Int) = a := by omega
      obtain ⟨V, rfl, rfl, hV2⟩ := ownG_gv hown
      have hin := GV.Own.inn hV2
      have B5 := bt B3 hb5
      have lw5 : w.heap.size + 1 < w5.heap.size := by omega
      have HPK0 := HC.out.pick z d s l a V.A V.rs.length V.c V.rs w5 B5 HO.out rfl hin.l.1 hin.l.2 (by rw [hlk]; exact hka) hin.h hin.i
      unfold GV.v
      rcases lft_newN hlf hlk with ⟨rfl, hN⟩ | ⟨hq0, i, hik, hN⟩
      · have HPK := Lib.hid (show Calls Tryd.prog 11 #[.agg #[.int .i64 z, .int .i64 d, .int .i64 s, .int .i64 l, .int .i64 a], .slice V.A V.rs.length V.c] w5 fun e' w' => PickR w5.heap.size noAnc 0 11 e' w' ∧ Below w5.heap.size w5 w' from by
          have h9 := HPK0
          rw [hlk, hN, ← hlk] at h9
          exact h9)
        clear hown hV2 hin hlf hlk hN HPK0 hb5
        rw [show ((0 : Nat) : Int) = 0 from rfl]
        go_upto_region 28 with (go_at_call 11; (with_reducible refine HPK.out.mono ?_); rintro e w6 ⟨⟨p, hep, hpd, -⟩, hb6⟩; rw [AV.v] at hep; subst hep)
        have B6 := bt (bt B5 hb6) (bl w6 (.cells #[.int .i64 p.gen, .int .i64 p.ep, .int .i64 p.pos, .int .i64 p.seq, .int .i64 p.last, .string p.lab, .slice p.HA p.hs.length p.hc] 31))
        clear hb6 B5 hpd g0 g1 g2 g3 g4 c0 c1 c2 c3 c4 c5 c6
        generalize w6.alloc (.cells #[.int .i64 p.gen, .int .i64 p.ep, .int .i64 p.pos, .int .i64 p.seq, .int .i64 p.last, .string p.lab, .slice p.HA p.hs.length p.hc] 31) = w7 at *
        go_wp2_with (go_at_call 16; (with_reducible refine (HWK.out _ B6).mono ?_); rintro e wz ⟨rfl, hbz⟩)
        go_ret
        exact ⟨rfl, bt B6 hbz⟩
      · have HPK := Lib.hid (show Calls Tryd.prog 11 #[.agg #[.int .i64 z, .int .i64 d, .int .i64 s, .int .i64 l, .int .i64 a], .slice V.A V.rs.length V.c] w5 fun e' w' => PickR w5.heap.size x.d (i : Int) 0 e' w' ∧ Below w5.heap.size w5 w' from by
          have h9 := HPK0
          rw [hlk, hN, ← hlk] at h9
          exact h9)
        have hq1 : ¬ (q : Int) = 0 := by omega
        have hi1 : (0 : Int) ≤ (i : Int) := by omega
        have hi2 : (i : Int) < a := by omega
        clear hown hV2 hin hlf hlk hN HPK0 hb5
        go_upto_region 28 with (go_at_call 11; (with_reducible refine HPK.out.mono ?_); rintro e w6 ⟨⟨p, hep, hpd, hpo⟩, hb6⟩; rw [AV.v] at hep; subst hep)
        have hx6 := bl w6 (.cells #[.int .i64 p.gen, .int .i64 p.ep, .int .i64 p.pos, .int .i64 p.seq, .int .i64 p.last, .string p.lab, .slice p.HA p.hs.length p.hc] 31)
        have h57 := bt hb6 hx6
        have PP := ac_new w6 p
        have hpi := (AV.Own.inn hpo).next hx6
        have B7 := bt B5 h57
        replace g4 := kst h57 (by omega) g4
        replace c0 := kst h57 (by omega) c0
        replace c1 := kst h57 (by omega) c1
        replace c2 := kst h57 (by omega) c2
        replace c3 := kst h57 (by omega) c3
        replace c4 := kst h57 (by omega) c4
        replace c5 := kst h57 (by omega) c5
        replace c6 := kst h57 (by omega) c6
        have l7 : w.heap.size + 1 < (w6.alloc (.cells #[.int .i64 p.gen, .int .i64 p.ep, .int .i64 p.pos, .int .i64 p.seq, .int .i64 p.last, .string p.lab, .slice p.HA p.hs.length p.hc] 31)).heap.size := Nat.lt_of_lt_of_le lw5 h57.size
        obtain ⟨gq, hgq⟩ : ∃ g, g = w6.heap.size := ⟨_, rfl⟩
        rw [← hgq] at PP ⊢
        have HPI := Lib.hid hpi
        have HPD := Lib.hid hpd
        clear hb6 hx6 h57 hpo hpi hpd hgq g0 g1 g2 g3 B5
        generalize w6.alloc (.cells #[.int .i64 p.gen, .int .i64 p.ep, .int .i64 p.pos, .int .i64 p.seq, .int .i64 p.last, .string p.lab, .slice p.HA p.hs.length p.hc] 31) = w7 at *
        obtain ⟨p0, p1, p2, p3, p4, p5, p6⟩ := id PP
        have HAN := Lib.hid (show Calls Tryd.prog 15 #[.agg #[.int .i64 p.gen, .int .i64 p.ep, .int .i64 p.pos, .int .i64 p.seq, .int .i64 p.last, .string p.lab, .slice p.HA p.hs.length p.hc], .agg #[.int .i64 x.gen, .int .i64 x.ep, .int .i64 x.pos, .int .i64 x.seq, .int .i64 x.last, .string x.lab, .slice x.HA x.hs.length x.hc]] w7 fun e w' => e = .returned (.bool true) ∧ Below w7.heap.size w7 w' from by
          have hhs : p.hs.length = x.hs.length := by
            have := congrArg (fun y : Anc => y.hs.length) HPD.out
            simpa [AV.d, anc.hds] using this
          have h9 := anchor_any p x w7 HPI.out (HX.out.next B7) (by rw [hhs]; exact HSH.out.1) (few_of HPD.out HSH.out.2)
          rw [decide_eq_true HPD.out] at h9
          exact h9)
        go_wp2_with (first
          | (go_at_call 15; (with_reducible refine HAN.out.mono ?_); rintro e wq ⟨rfl, hbq⟩; have hb11 := bt B7 hbq; replace g4 := kst hbq (World.block_lt_of_cell? _ _ g4) g4)
          | (go_at_call 16; (with_reducible refine (HWK.out _ hb11).mono ?_); rintro e wz ⟨rfl, hbz⟩))
        go_ret
        exact ⟨rfl, bt hb11 hbz⟩
theorem newestLeft_law (z d s l a : Int) (x : AV) (A : Option Addr) (n c : Nat) (L : List Int) (B : Option Addr) (m b : Nat) (L2 : List Int) (w : World) (hc : Cts w) (hx : x.In w w.heap.size) (hL : L.length = n) (hA : SlV w w.heap.size A (ints L)) (hL2 : L2.length = m) (hB : SlV w w.heap.size B (ints L2)) :
    Calls Tryd.prog 4 #[.agg #[.int .i64 z, .int .i64 d, .int .i64 s, .int .i64 l, .int .i64 a], x.v, .slice A n c, .slice B m b] w fun e w' => e = .returned (.bool true) ∧ Below w.heap.size w w' := by
  by_cases hh : HeavyA x.d
  · exact nl_heavy z d s l a x A n c B m b w hx hh
  by_cases ho : Ok z d s l a
  case neg => exact nl_geo z d s l a x A n c B m b w hx hh ho
  by_cases hg : anc.Good z d s l x.d
  case neg => exact nl_bad z d s l a x A n c B m b w hx hh ho hg
  by_cases hm : 10 < n ∨ 10 < m
  · exact nl_many z d s l a x A n c B m b w hx hh ho hg hm
  · exact nl_good z d s l a x A n c L B m b L2 w hc hx hh ho hg hL hA hL2 hB (by omega) (by omega)
end Go.Proofs.YtdjleimndolonaaDoor.nwt
