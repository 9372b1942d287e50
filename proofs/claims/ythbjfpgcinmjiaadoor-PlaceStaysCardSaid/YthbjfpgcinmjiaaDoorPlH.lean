/-
  The law PlaceStays: what is moved changes its own place and the next spare alone. Conditions: 'ValidOk', 'CloneOk', 'Tabs'.
-/
import Derived.Test.YthbjfpgcinmjiaaDoorPlN
import Derived.Test.YthbjfpgcinmjiaaDoorGAu
namespace Go.Proofs.YthbjfpgcinmjiaaDoor.plc
open Go.RowKit Go.Lib
open Go.Proofs.YthbjfpgcinmjiaaDoor.gmt (Ok five_new slot_at rslot_at w6)
open Go.Proofs.YthbjfpgcinmjiaaDoor.anc
open Go.Proofs.YthbjfpgcinmjiaaDoor.lbl (ValidOk CloneOk Tabs lab_len labE)

set_option maxRecDepth 100000 in
set_option maxHeartbeats 8000000 in
theorem ps_heavy (z d s l a : Int) (x : AV) (zn wh ot zz : Int) (w : World) (hx : x.In w w.heap.size) (hh : HeavyA x.d) :
    Calls Tryd.prog 5 #[.agg #[.int .i64 z, .int .i64 d, .int .i64 s, .int .i64 l, .int .i64 a], x.v, .int .i64 zn, .int .i64 wh, .int .i64 ot, .int .i64 zz] w fun e w' => e = .returned (.bool true) ∧ Below w.heap.size w w' := by
  have cH := fun W (hW : Below w.heap.size w W) => heavy_any true x W (hx.next hW) (iff_of_true rfl hh)
  unfold AV.v
  have GG := (g5_new w z d s l a).keep (bl (w.alloc (.cells #[.int .i64 z, .int .i64 d, .int .i64 s, .int .i64 l, .int .i64 a] 23)) (.cells #[.int .i64 x.gen, .int .i64 x.ep, .int .i64 x.pos, .int .i64 x.seq, .int .i64 x.last, .string x.lab, .slice x.HA x.hs.length x.hc] 26)) (by simp)
  have FF := ac_new (w.alloc (.cells #[.int .i64 z, .int .i64 d, .int .i64 s, .int .i64 l, .int .i64 a] 23)) x
  have hb0 := kal (bl w (.cells #[.int .i64 z, .int .i64 d, .int .i64 s, .int .i64 l, .int .i64 a] 23)) (.cells #[.int .i64 x.gen, .int .i64 x.ep, .int .i64 x.pos, .int .i64 x.seq, .int .i64 x.last, .string x.lab, .slice x.HA x.hs.length x.hc] 26)
  rw [show (w.alloc (.cells #[.int .i64 z, .int .i64 d, .int .i64 s, .int .i64 l, .int .i64 a] 23)).heap.size = w.heap.size + 1 by simp] at FF
  have l1 : w.heap.size + 1 < ((w.alloc (.cells #[.int .i64 z, .int .i64 d, .int .i64 s, .int .i64 l, .int .i64 a] 23)).alloc (.cells #[.int .i64 x.gen, .int .i64 x.ep, .int .i64 x.pos, .int .i64 x.seq, .int .i64 x.last, .string x.lab, .slice x.HA x.hs.length x.hc] 26)).heap.size := by simp
  unfold AV.v at cH
  clear hx hh
  go_enter Tryd.func5, Tryd.ntmps5
  go_upto_region 1 with fail
  generalize (w.alloc (.cells #[.int .i64 z, .int .i64 d, .int .i64 s, .int .i64 l, .int .i64 a] 23)).alloc (.cells #[.int .i64 x.gen, .int .i64 x.ep, .int .i64 x.pos, .int .i64 x.seq, .int .i64 x.last, .string x.lab, .slice x.HA x.hs.length x.hc] 26) = w0 at *
  obtain ⟨c0, c1, c2, c3, c4, c5, c6⟩ := id FF
  obtain ⟨g0, g1, g2, g3, g4⟩ := id GG
  go_wp2_with (first
    | (go_at_call 6; (with_reducible refine (cH _ hb0).mono ?_); rintro e wq ⟨rfl, hbq⟩; replace FF := FF.keep hbq (by omega); replace GG := GG.keep hbq (by omega); replace l1 := Nat.lt_of_lt_of_le l1 hbq.size; clear c0 c1 c2 c3 c4 c5 c6 g0 g1 g2 g3 g4; obtain ⟨c0, c1, c2, c3, c4, c5, c6⟩ := id FF; obtain ⟨g0, g1, g2, g3, g4⟩ := id GG; replace hb0 := bt hb0 hbq; clear hbq))
  go_ret
  exact ⟨rfl, hb0⟩
set_option maxRecDepth 100000 in
set_option maxHeartbeats 8000000 in
theorem ps_geo (z d s l a : Int) (x : AV) (zn wh ot zz : Int) (w : World) (hx : x.In w w.heap.size) (hh : ¬ HeavyA x.d) (ho : ¬ Ok z d s l a) :
    Calls Tryd.prog 5 #[.agg #[.int .i64 z, .int .i64 d, .int .i64 s, .int .i64 l, .int .i64 a], x.v, .int .i64 zn, .int .i64 wh, .int .i64 ot, .int .i64 zz] w fun e w' => e = .returned (.bool true) ∧ Below w.heap.size w w' := by
  have cH := fun W (hW : Below w.heap.size w W) => heavy_any false x W (hx.next hW) (iff_of_false Bool.false_ne_true hh)
  have cG := fun W => gmt.rgeo_at false z d s l a W (iff_of_false Bool.false_ne_true ho)
  unfold AV.v
  have GG := (g5_new w z d s l a).keep (bl (w.alloc (.cells #[.int .i64 z, .int .i64 d, .int .i64 s, .int .i64 l, .int .i64 a] 23)) (.cells #[.int .i64 x.gen, .int .i64 x.ep, .int .i64 x.pos, .int .i64 x.seq, .int .i64 x.last, .string x.lab, .slice x.HA x.hs.length x.hc] 26)) (by simp)
  have FF := ac_new (w.alloc (.cells #[.int .i64 z, .int .i64 d, .int .i64 s, .int .i64 l, .int .i64 a] 23)) x
  have hb0 := kal (bl w (.cells #[.int .i64 z, .int .i64 d, .int .i64 s, .int .i64 l, .int .i64 a] 23)) (.cells #[.int .i64 x.gen, .int .i64 x.ep, .int .i64 x.pos, .int .i64 x.seq, .int .i64 x.last, .string x.lab, .slice x.HA x.hs.length x.hc] 26)
  rw [show (w.alloc (.cells #[.int .i64 z, .int .i64 d, .int .i64 s, .int .i64 l, .int .i64 a] 23)).heap.size = w.heap.size + 1 by simp] at FF
  have l1 : w.heap.size + 1 < ((w.alloc (.cells #[.int .i64 z, .int .i64 d, .int .i64 s, .int .i64 l, .int .i64 a] 23)).alloc (.cells #[.int .i64 x.gen, .int .i64 x.ep, .int .i64 x.pos, .int .i64 x.seq, .int .i64 x.last, .string x.lab, .slice x.HA x.hs.length x.hc] 26)).heap.size := by simp
  unfold AV.v at cH
  clear hx hh ho
  go_enter Tryd.func5, Tryd.ntmps5
  go_upto_region 1 with fail
  generalize (w.alloc (.cells #[.int .i64 z, .int .i64 d, .int .i64 s, .int .i64 l, .int .i64 a] 23)).alloc (.cells #[.int .i64 x.gen, .int .i64 x.ep, .int .i64 x.pos, .int .i64 x.seq, .int .i64 x.last, .string x.lab, .slice x.HA x.hs.length x.hc] 26) = w0 at *
  obtain ⟨c0, c1, c2, c3, c4, c5, c6⟩ := id FF
  obtain ⟨g0, g1, g2, g3, g4⟩ := id GG
  go_wp2_with (first
    | (go_at_call 6; (with_reducible refine (cH _ hb0).mono ?_); rintro e wq ⟨rfl, hbq⟩; replace FF := FF.keep hbq (by omega); replace GG := GG.keep hbq (by omega); replace l1 := Nat.lt_of_lt_of_le l1 hbq.size; clear c0 c1 c2 c3 c4 c5 c6 g0 g1 g2 g3 g4; obtain ⟨c0, c1, c2, c3, c4, c5, c6⟩ := id FF; obtain ⟨g0, g1, g2, g3, g4⟩ := id GG; replace hb0 := bt hb0 hbq; clear hbq)
    | (go_at_call 13; (with_reducible refine (cG _).mono ?_); rintro e wq ⟨rfl, hbq⟩; replace FF := FF.keep hbq (by omega); replace GG := GG.keep hbq (by omega); replace l1 := Nat.lt_of_lt_of_le l1 hbq.size; clear c0 c1 c2 c3 c4 c5 c6 g0 g1 g2 g3 g4; obtain ⟨c0, c1, c2, c3, c4, c5, c6⟩ := id FF; obtain ⟨g0, g1, g2, g3, g4⟩ := id GG; replace hb0 := bt hb0 hbq; clear hbq))
  go_ret
  exact ⟨rfl, hb0⟩
set_option maxRecDepth 100000 in
set_option maxHeartbeats 8000000 in
theorem ps_bad (z d s l a : Int) (x : AV) (zn wh ot zz : Int) (w : World) (hx : x.In w w.heap.size) (hh : ¬ HeavyA x.d) (ho : Ok z d s l a) (hg : ¬ anc.Good z d s l x.d) :
    Calls Tryd.prog 5 #[.agg #[.int .i64 z, .int .i64 d, .int .i64 s, .int .i64 l, .int .i64 a], x.v, .int .i64 zn, .int .i64 wh, .int .i64 ot, .int .i64 zz] w fun e w' => e = .returned (.bool true) ∧ Below w.heap.size w w' := by
  obtain ⟨t1, t2, t3⟩ := light hh
  have cH := fun W (hW : Below w.heap.size w W) => heavy_any false x W (hx.next hW) (iff_of_false Bool.false_ne_true hh)
  have cG := fun W => gmt.rgeo_at true z d s l a W (iff_of_true rfl ho)
  have cR := fun W (hW : Below w.heap.size w W) => right_p z d s l a false x W ho (hx.next hW) (by omega) (fun r hr => by have := t3 r hr; omega) (by omega) (iff_of_false Bool.false_ne_true hg)
  unfold AV.v
  have GG := (g5_new w z d s l a).keep (bl (w.alloc (.cells #[.int .i64 z, .int .i64 d, .int .i64 s, .int .i64 l, .int .i64 a] 23)) (.cells #[.int .i64 x.gen, .int .i64 x.ep, .int .i64 x.pos, .int .i64 x.seq, .int .i64 x.last, .string x.lab, .slice x.HA x.hs.length x.hc] 26)) (by simp)
  have FF := ac_new (w.alloc (.cells #[.int .i64 z, .int .i64 d, .int .i64 s, .int .i64 l, .int .i64 a] 23)) x
  have hb0 := kal (bl w (.cells #[.int .i64 z, .int .i64 d, .int .i64 s, .int .i64 l, .int .i64 a] 23)) (.cells #[.int .i64 x.gen, .int .i64 x.ep, .int .i64 x.pos, .int .i64 x.seq, .int .i64 x.last, .string x.lab, .slice x.HA x.hs.length x.hc] 26)
  rw [show (w.alloc (.cells #[.int .i64 z, .int .i64 d, .int .i64 s, .int .i64 l, .int .i64 a] 23)).heap.size = w.heap.size + 1 by simp] at FF
  have l1 : w.heap.size + 1 < ((w.alloc (.cells #[.int .i64 z, .int .i64 d, .int .i64 s, .int .i64 l, .int .i64 a] 23)).alloc (.cells #[.int .i64 x.gen, .int .i64 x.ep, .int .i64 x.pos, .int .i64 x.seq, .int .i64 x.last, .string x.lab, .slice x.HA x.hs.length x.hc] 26)).heap.size := by simp
  unfold AV.v at cH cR
  clear hx hh ho hg t1 t2 t3
  go_enter Tryd.func5, Tryd.ntmps5
  go_upto_region 1 with fail
  generalize (w.alloc (.cells #[.int .i64 z, .int .i64 d, .int .i64 s, .int .i64 l, .int .i64 a] 23)).alloc (.cells #[.int .i64 x.gen, .int .i64 x.ep, .int .i64 x.pos, .int .i64 x.seq, .int .i64 x.last, .string x.lab, .slice x.HA x.hs.length x.hc] 26) = w0 at *
  obtain ⟨c0, c1, c2, c3, c4, c5, c6⟩ := id FF
  obtain ⟨g0, g1, g2, g3, g4⟩ := id GG
  go_wp2_with (first
    | (go_at_call 6; (with_reducible refine (cH _ hb0).mono ?_); rintro e wq ⟨rfl, hbq⟩; replace FF := FF.keep hbq (by omega); replace GG := GG.keep hbq (by omega); replace l1 := Nat.lt_of_lt_of_le l1 hbq.size; clear c0 c1 c2 c3 c4 c5 c6 g0 g1 g2 g3 g4; obtain ⟨c0, c1, c2, c3, c4, c5, c6⟩ := id FF; obtain ⟨g0, g1, g2, g3, g4⟩ := id GG; replace hb0 := bt hb0 hbq; clear hbq)
    | (go_at_call 13; (with_reducible refine (cG _).mono ?_); rintro e wq ⟨rfl, hbq⟩; replace FF := FF.keep hbq (by omega); replace GG := GG.keep hbq (by omega); replace l1 := Nat.lt_of_lt_of_le l1 hbq.size; clear c0 c1 c2 c3 c4 c5 c6 g0 g1 g2 g3 g4; obtain ⟨c0, c1, c2, c3, c4, c5, c6⟩ := id FF; obtain ⟨g0, g1, g2, g3, g4⟩ := id GG; replace hb0 := bt hb0 hbq; clear hbq)
    | (go_at_call 14; (with_reducible refine (cR _ hb0).mono ?_); rintro e wq ⟨rfl, hbq⟩; replace FF := FF.keep hbq (by omega); replace GG := GG.keep hbq (by omega); replace l1 := Nat.lt_of_lt_of_le l1 hbq.size; clear c0 c1 c2 c3 c4 c5 c6 g0 g1 g2 g3 g4; obtain ⟨c0, c1, c2, c3, c4, c5, c6⟩ := id FF; obtain ⟨g0, g1, g2, g3, g4⟩ := id GG; replace hb0 := bt hb0 hbq; clear hbq))
  go_ret
  exact ⟨rfl, hb0⟩
set_option maxRecDepth 100000 in
set_option maxHeartbeats 8000000 in
theorem ps_none (hV : ValidOk) (hC : CloneOk) (J K P1 O1 : Nat) (z d s l a : Int) (x : AV) (zn wh ot zz : Int) (w : World) (hT : Tabs w) (hx : x.In w w.heap.size) (hh : ¬ HeavyA x.d) (ho : Ok z d s l a) (hg : anc.Good z d s l x.d) (hJ : (IntKind.u64.wrap zn).tmod z = (J : Int)) (hK : (IntKind.u64.wrap zz).tmod z = (K : Int)) (hP : (IntKind.u64.wrap wh).tmod (d + 1) = (P1 : Int)) (hO : (IntKind.u64.wrap ot).tmod (d + 1) = (O1 : Int)) (hJz : (J : Int) < z) (hKz : (K : Int) < z) (hPd : (P1 : Int) < d + 1) (hOd : (O1 : Int) < d + 1) (hMV : ∀ W, Below w.heap.size w W → Calls Tryd.prog 10 #[.agg #[.int .i64 z, .int .i64 d, .int .i64 s, .int .i64 l, .int .i64 a], x.v, .int .i64 J, .int .i64 ((P1 : Int) - 1)] W fun e w' => AnsM W.heap.size noAnc 0 10 e w' ∧ Below W.heap.size W w') (hSK : ∀ W, Below w.heap.size w W → Calls Tryd.prog 11 #[.agg #[.int .i64 z, .int .i64 d, .int .i64 s, .int .i64 l, .int .i64 a], x.v, .int .i64 J] W fun e w' => AnsP W.heap.size noAnc 10 e w' ∧ Below W.heap.size W w') :
    Calls Tryd.prog 5 #[.agg #[.int .i64 z, .int .i64 d, .int .i64 s, .int .i64 l, .int .i64 a], x.v, .int .i64 zn, .int .i64 wh, .int .i64 ot, .int .i64 zz] w fun e w' => e = .returned (.bool true) ∧ Below w.heap.size w w' := by
  obtain ⟨t1, t2, t3⟩ := light hh
  have cH := fun W (hW : Below w.heap.size w W) => heavy_any false x W (hx.next hW) (iff_of_false Bool.false_ne_true hh)
  have cG := fun W => gmt.rgeo_at true z d s l a W (iff_of_true rfl ho)
  have cR := fun W (hW : Below w.heap.size w W) => right_p z d s l a true x W ho (hx.next hW) (by omega) (fun r hr => by have := t3 r hr; omega) (by omega) (iff_of_true rfl hg)
  have HW := Lib.hid (show ∀ W, Below w.heap.size w W → Calls Tryd.prog 15 #[] W fun e w' => e = .returned (.bool true) ∧ Below W.heap.size W w' from fun W hW => wk_place hV hC W (tn hT hW))
  have o1 := ho.1
  have o2 := ho.2.1
  have hb4 := And.intro hJz (And.intro hKz (And.intro hPd hOd))
  clear hb4
  have HN := Lib.hid (And.intro hJ (And.intro hK (And.intro hP (And.intro hO (And.intro (show IntKind.u64.wrap z = z from IntWalk.u64_in _ (by omega)) (And.intro (show IntKind.u64.wrap (d + 1) = d + 1 from IntWalk.u64_in _ (by omega)) (And.intro (show IntKind.i64.wrap (d + 1) = d + 1 from w6 _ (by omega) (by omega)) (And.intro (show IntKind.i64.wrap (J : Int) = J from w6 _ (by omega) (by omega)) (And.intro (show IntKind.i64.wrap (K : Int) = K from w6 _ (by omega) (by omega)) (And.intro (show IntKind.i64.wrap (P1 : Int) = P1 from w6 _ (by omega) (by omega)) (And.intro (show IntKind.i64.wrap (O1 : Int) = O1 from w6 _ (by omega) (by omega)) (And.intro (show IntKind.i64.wrap ((P1 : Int) - 1) = (P1 : Int) - 1 from w6 _ (by omega) (by omega)) (show IntKind.i64.wrap ((O1 : Int) - 1) = (O1 : Int) - 1 from w6 _ (by omega) (by omega))))))))))))))
  have HMV := Lib.hid hMV
  have HSK := Lib.hid hSK
  clear hMV hSK
  clear hJ hK hP hO hJz hKz hPd hOd
  unfold AV.v
  have GG := (g5_new w z d s l a).keep (bl (w.alloc (.cells #[.int .i64 z, .int .i64 d, .int .i64 s, .int .i64 l, .int .i64 a] 23)) (.cells #[.int .i64 x.gen, .int .i64 x.ep, .int .i64 x.pos, .int .i64 x.seq, .int .i64 x.last, .string x.lab, .slice x.HA x.hs.length x.hc] 26)) (by simp)
  have FF := ac_new (w.alloc (.cells #[.int .i64 z, .int .i64 d, .int .i64 s, .int .i64 l, .int .i64 a] 23)) x
  have hb0 := kal (bl w (.cells #[.int .i64 z, .int .i64 d, .int .i64 s, .int .i64 l, .int .i64 a] 23)) (.cells #[.int .i64 x.gen, .int .i64 x.ep, .int .i64 x.pos, .int .i64 x.seq, .int .i64 x.last, .string x.lab, .slice x.HA x.hs.length x.hc] 26)
  rw [show (w.alloc (.cells #[.int .i64 z, .int .i64 d, .int .i64 s, .int .i64 l, .int .i64 a] 23)).heap.size = w.heap.size + 1 by simp] at FF
  have l1 : w.heap.size + 1 < ((w.alloc (.cells #[.int .i64 z, .int .i64 d, .int .i64 s, .int .i64 l, .int .i64 a] 23)).alloc (.cells #[.int .i64 x.gen, .int .i64 x.ep, .int .i64 x.pos, .int .i64 x.seq, .int .i64 x.last, .string x.lab, .slice x.HA x.hs.length x.hc] 26)).heap.size := by simp
  unfold AV.v at cH cR
  clear hx hh ho hg t1 t2 t3 hT
  go_enter Tryd.func5, Tryd.ntmps5
  go_upto_region 1 with fail
  generalize (w.alloc (.cells #[.int .i64 z, .int .i64 d, .int .i64 s, .int .i64 l, .int .i64 a] 23)).alloc (.cells #[.int .i64 x.gen, .int .i64 x.ep, .int .i64 x.pos, .int .i64 x.seq, .int .i64 x.last, .string x.lab, .slice x.HA x.hs.length x.hc] 26) = w0 at *
  obtain ⟨c0, c1, c2, c3, c4, c5, c6⟩ := id FF
  obtain ⟨g0, g1, g2, g3, g4⟩ := id GG
  go_upto_region 3 with (first
    | (go_at_call 6; (with_reducible refine (cH _ hb0).mono ?_); rintro e wq ⟨rfl, hbq⟩; replace FF := FF.keep hbq (by omega); replace GG := GG.keep hbq (by omega); replace l1 := Nat.lt_of_lt_of_le l1 hbq.size; clear c0 c1 c2 c3 c4 c5 c6 g0 g1 g2 g3 g4; obtain ⟨c0, c1, c2, c3, c4, c5, c6⟩ := id FF; obtain ⟨g0, g1, g2, g3, g4⟩ := id GG; replace hb0 := bt hb0 hbq; clear hbq)
    | (go_at_call 13; (with_reducible refine (cG _).mono ?_); rintro e wq ⟨rfl, hbq⟩; replace FF := FF.keep hbq (by omega); replace GG := GG.keep hbq (by omega); replace l1 := Nat.lt_of_lt_of_le l1 hbq.size; clear c0 c1 c2 c3 c4 c5 c6 g0 g1 g2 g3 g4; obtain ⟨c0, c1, c2, c3, c4, c5, c6⟩ := id FF; obtain ⟨g0, g1, g2, g3, g4⟩ := id GG; replace hb0 := bt hb0 hbq; clear hbq)
    | (go_at_call 14; (with_reducible refine (cR _ hb0).mono ?_); rintro e wq ⟨rfl, hbq⟩; replace FF := FF.keep hbq (by omega); replace GG := GG.keep hbq (by omega); replace l1 := Nat.lt_of_lt_of_le l1 hbq.size; clear c0 c1 c2 c3 c4 c5 c6 g0 g1 g2 g3 g4; obtain ⟨c0, c1, c2, c3, c4, c5, c6⟩ := id FF; obtain ⟨g0, g1, g2, g3, g4⟩ := id GG; replace hb0 := bt hb0 hbq; clear hbq))
  obtain ⟨n1, n2, n3, n4, n5, n6, n7, n8, n9, n10, n11, n12, n13⟩ := HN.out
  have m1 : ¬ z = 0 := by omega
  have m2 : ¬ d + 1 = 0 := by omega
  have m3 : (z == 0) = false := beq_eq_false_iff_ne.2 m1
  have m4 : (d + 1 == 0) = false := beq_eq_false_iff_ne.2 m2
  clear cH cG cR o1 o2
  go_quiet (fail)
  have hbN := below_dn (Below.refl wq.heap.size wq) nq
  replace GG := GG.keep hbN (by omega)
  replace FF := FF.keep hbN (by omega)
  replace hb0 := bt hb0 hbN
  replace l1 := Nat.lt_of_lt_of_le l1 hbN.size
  clear hbN g0 g1 g2 g3 g4 c0 c1 c2 c3 c4 c5 c6
  generalize wq.drewN nq = w2 at *
  obtain ⟨g0, g1, g2, g3, g4⟩ := id GG
  go_upto_region 4 with fail
  go_quiet (fail)
  have hbN := below_dn (Below.refl w2.heap.size w2) nq
  replace GG := GG.keep hbN (by omega)
  replace FF := FF.keep hbN (by omega)
  replace hb0 := bt hb0 hbN
  replace l1 := Nat.lt_of_lt_of_le l1 hbN.size
  clear hbN g0 g1 g2 g3 g4
  generalize w2.drewN nq = w3 at *
  clear n1 n2 n3 n4 n5 n6 n7 n8 n9 n10 n11 n12 n13 m1 m2 m3 m4 HN
  obtain ⟨g0, g1, g2, g3, g4⟩ := id GG
  obtain ⟨c0, c1, c2, c3, c4, c5, c6⟩ := id FF
  go_upto_region 5 with fail
  have HMV1 := HMV.out w3 hb0
  unfold AV.v at HMV1
  go_upto_region 6 with (go_at_call 10; (with_reducible refine HMV1.mono ?_); rintro e w4 ⟨⟨y, hey, hyd, hyo, -⟩, hb4⟩; rw [AV.v] at hey; subst hey)
  have hx4 := bl w4 (.cells #[.int .i64 y.gen, .int .i64 y.ep, .int .i64 y.pos, .int .i64 y.seq, .int .i64 y.last, .string y.lab, .slice y.HA y.hs.length y.hc] 26)
  have FY := ac_new w4 y
  have hz4 := hb4.size
  have YI := Lib.hid (AV.Own.inn (OwnH.below hyo hx4))
  replace GG := (GG.keep hb4 (by omega)).keep hx4 (by omega)
  replace FF := (FF.keep hb4 (by omega)).keep hx4 (by omega)
  replace hb0 := bt (bt hb0 hb4) hx4
  have lY : w4.heap.size < (w4.alloc (.cells #[.int .i64 y.gen, .int .i64 y.ep, .int .i64 y.pos, .int .i64 y.seq, .int .i64 y.last, .string y.lab, .slice y.HA y.hs.length y.hc] 26)).heap.size := by simp
  obtain ⟨gY, hgY⟩ : ∃ g, g = w4.heap.size := ⟨_, rfl⟩
  rw [← hgY] at FY lY ⊢
  have hlY : w.heap.size + 1 < gY := by omega
  clear HMV1 hb4 hx4 hz4 hyo hgY l1 g0 g1 g2 g3 g4 c0 c1 c2 c3 c4 c5 c6
  generalize w4.alloc (.cells #[.int .i64 y.gen, .int .i64 y.ep, .int .i64 y.pos, .int .i64 y.seq, .int .i64 y.last, .string y.lab, .slice y.HA y.hs.length y.hc] 26) = w5 at *
  obtain ⟨g0, g1, g2, g3, g4⟩ := id GG
  obtain ⟨c0, c1, c2, c3, c4, c5, c6⟩ := id FF
  have HSK1 := HSK.out w5 hb0
  unfold AV.v at HSK1
  go_upto_region 7 with (go_at_call 11; (with_reducible refine HSK1.mono ?_); rintro e w6 ⟨⟨t, het, htd, hto, -⟩, hb6⟩; rw [AV.v] at het; subst het)
  have hx6 := bl w6 (.cells #[.int .i64 t.gen, .int .i64 t.ep, .int .i64 t.pos, .int .i64 t.seq, .int .i64 t.last, .string t.lab, .slice t.HA t.hs.length t.hc] 26)
  have FT := ac_new w6 t
  have hz6 := hb6.size
  have TI := Lib.hid (AV.Own.inn (OwnH.below hto hx6))
  replace YI := Lib.hid ((YI.out.next hb6).next hx6)
  replace GG := (GG.keep hb6 (by omega)).keep hx6 (by omega)
  replace FF := (FF.keep hb6 (by omega)).keep hx6 (by omega)
  replace FY := (FY.keep hb6 (by omega)).keep hx6 (by omega)
  replace hb0 := bt (bt hb0 hb6) hx6
  have lT : w6.heap.size < (w6.alloc (.cells #[.int .i64 t.gen, .int .i64 t.ep, .int .i64 t.pos, .int .i64 t.seq, .int .i64 t.last, .string t.lab, .slice t.HA t.hs.length t.hc] 26)).heap.size := by simp
  obtain ⟨gT, hgT⟩ : ∃ g, g = w6.heap.size := ⟨_, rfl⟩
  rw [← hgT] at FT lT ⊢
  have hlT : gY < gT := by omega
  clear HSK1 hb6 hx6 hz6 hto hgT lY g0 g1 g2 g3 g4 c0 c1 c2 c3 c4 c5 c6
  generalize w6.alloc (.cells #[.int .i64 t.gen, .int .i64 t.ep, .int .i64 t.pos, .int .i64 t.seq, .int .i64 t.last, .string t.lab, .slice t.HA t.hs.length t.hc] 26) = w7 at *
  have HW1 := HW.out w7 hb0
  clear GG FF FY FT YI TI hyd htd
  go_wp2_with (go_at_call 15; (with_reducible refine HW1.mono ?_); rintro e wz ⟨rfl, hbz⟩)
  go_ret
  exact ⟨rfl, bt hb0 hbz⟩
set_option maxRecDepth 100000 in
set_option maxHeartbeats 8000000 in
theorem ps_same (hV : ValidOk) (hC : CloneOk) (J K P1 O1 : Nat) (z d s l a : Int) (x : AV) (zn wh ot zz : Int) (w : World) (hT : Tabs w) (hx : x.In w w.heap.size) (hh : ¬ HeavyA x.d) (ho : Ok z d s l a) (hg : anc.Good z d s l x.d) (hJ : (IntKind.u64.wrap zn).tmod z = (J : Int)) (hK : (IntKind.u64.wrap zz).tmod z = (K : Int)) (hP : (IntKind.u64.wrap wh).tmod (d + 1) = (P1 : Int)) (hO : (IntKind.u64.wrap ot).tmod (d + 1) = (O1 : Int)) (hJz : (J : Int) < z) (hKz : (K : Int) < z) (hPd : (P1 : Int) < d + 1) (hOd : (O1 : Int) < d + 1) (A B : Anc) (X0 Y0 W0 : Int) (hMV : ∀ W, Below w.heap.size w W → Calls Tryd.prog 10 #[.agg #[.int .i64 z, .int .i64 d, .int .i64 s, .int .i64 l, .int .i64 a], x.v, .int .i64 J, .int .i64 ((P1 : Int) - 1)] W fun e w' => AnsM W.heap.size A Y0 0 e w' ∧ Below W.heap.size W w') (hSK : ∀ W, Below w.heap.size w W → Calls Tryd.prog 11 #[.agg #[.int .i64 z, .int .i64 d, .int .i64 s, .int .i64 l, .int .i64 a], x.v, .int .i64 J] W fun e w' => AnsP W.heap.size B 0 e w' ∧ Below W.heap.size W w') (hA1 : ∀ W, Below w.heap.size w W → Calls Tryd.prog 8 #[.agg #[.int .i64 z, .int .i64 d, .int .i64 s, .int .i64 l, .int .i64 a], x.v, .int .i64 K, .int .i64 ((O1 : Int) - 1)] W fun e w' => e = .returned (.tuple #[.int .i64 X0, .int .i64 0]) ∧ Below W.heap.size W w') (hA2 : ∀ (u : AV) W, Below w.heap.size w W → u.d = A → u.In W W.heap.size → Calls Tryd.prog 8 #[.agg #[.int .i64 z, .int .i64 d, .int .i64 s, .int .i64 l, .int .i64 a], u.v, .int .i64 K, .int .i64 ((O1 : Int) - 1)] W fun e w' => e = .returned (.tuple #[.int .i64 W0, .int .i64 0]) ∧ Below W.heap.size W w') (hA3 : ∀ (u : AV) W, Below w.heap.size w W → u.d = B → u.In W W.heap.size → Calls Tryd.prog 8 #[.agg #[.int .i64 z, .int .i64 d, .int .i64 s, .int .i64 l, .int .i64 a], u.v, .int .i64 K, .int .i64 ((O1 : Int) - 1)] W fun e w' => e = .returned (.tuple #[.int .i64 X0, .int .i64 0]) ∧ Below W.heap.size W w') (hgA : A.gen = x.gen) (hgB : B.gen = x.gen) (hco : K = J ∧ O1 = P1 ∧ W0 = Y0 ∧ W0 ≠ X0) :
    Calls Tryd.prog 5 #[.agg #[.int .i64 z, .int .i64 d, .int .i64 s, .int .i64 l, .int .i64 a], x.v, .int .i64 zn, .int .i64 wh, .int .i64 ot, .int .i64 zz] w fun e w' => e = .returned (.bool true) ∧ Below w.heap.size w w' := by
  obtain ⟨t1, t2, t3⟩ := light hh
  have cH := fun W (hW : Below w.heap.size w W) => heavy_any false x W (hx.next hW) (iff_of_false Bool.false_ne_true hh)
  have cG := fun W => gmt.rgeo_at true z d s l a W (iff_of_true rfl ho)
  have cR := fun W (hW : Below w.heap.size w W) => right_p z d s l a true x W ho (hx.next hW) (by omega) (fun r hr => by have := t3 r hr; omega) (by omega) (iff_of_true rfl hg)
  have HW := Lib.hid (show ∀ W, Below w.heap.size w W → Calls Tryd.prog 15 #[] W fun e w' => e = .returned (.bool true) ∧ Below W.heap.size W w' from fun W hW => wk_place hV hC W (tn hT hW))
  have o1 := ho.1
  have o2 := ho.2.1
  have hb4 := And.intro hJz (And.intro hKz (And.intro hPd hOd))
  clear hb4
  have HN := Lib.hid (And.intro hJ (And.intro hK (And.intro hP (And.intro hO (And.intro (show IntKind.u64.wrap z = z from IntWalk.u64_in _ (by omega)) (And.intro (show IntKind.u64.wrap (d + 1) = d + 1 from IntWalk.u64_in _ (by omega)) (And.intro (show IntKind.i64.wrap (d + 1) = d + 1 from w6 _ (by omega) (by omega)) (And.intro (show IntKind.i64.wrap (J : Int) = J from w6 _ (by omega) (by omega)) (And.intro (show IntKind.i64.wrap (K : Int) = K from w6 _ (by omega) (by omega)) (And.intro (show IntKind.i64.wrap (P1 : Int) = P1 from w6 _ (by omega) (by omega)) (And.intro (show IntKind.i64.wrap (O1 : Int) = O1 from w6 _ (by omega) (by omega)) (And.intro (show IntKind.i64.wrap ((P1 : Int) - 1) = (P1 : Int) - 1 from w6 _ (by omega) (by omega)) (show IntKind.i64.wrap ((O1 : Int) - 1) = (O1 : Int) - 1 from w6 _ (by omega) (by omega))))))))))))))
  have HMV := Lib.hid hMV
  have HSK := Lib.hid hSK
  clear hMV hSK
  have HA1 := Lib.hid hA1
  have HA2 := Lib.hid hA2
  have HA3 := Lib.hid hA3
  have HGA := Lib.hid hgA
  have HGB := Lib.hid hgB
  have HCO := Lib.hid hco
  clear hA1 hA2 hA3 hgA hgB hco
  clear hJ hK hP hO hJz hKz hPd hOd
  unfold AV.v
  have GG := (g5_new w z d s l a).keep (bl (w.alloc (.cells #[.int .i64 z, .int .i64 d, .int .i64 s, .int .i64 l, .int .i64 a] 23)) (.cells #[.int .i64 x.gen, .int .i64 x.ep, .int .i64 x.pos, .int .i64 x.seq, .int .i64 x.last, .string x.lab, .slice x.HA x.hs.length x.hc] 26)) (by simp)
  have FF := ac_new (w.alloc (.cells #[.int .i64 z, .int .i64 d, .int .i64 s, .int .i64 l, .int .i64 a] 23)) x
  have hb0 := kal (bl w (.cells #[.int .i64 z, .int .i64 d, .int .i64 s, .int .i64 l, .int .i64 a] 23)) (.cells #[.int .i64 x.gen, .int .i64 x.ep, .int .i64 x.pos, .int .i64 x.seq, .int .i64 x.last, .string x.lab, .slice x.HA x.hs.length x.hc] 26)
  rw [show (w.alloc (.cells #[.int .i64 z, .int .i64 d, .int .i64 s, .int .i64 l, .int .i64 a] 23)).heap.size = w.heap.size + 1 by simp] at FF
  have l1 : w.heap.size + 1 < ((w.alloc (.cells #[.int .i64 z, .int .i64 d, .int .i64 s, .int .i64 l, .int .i64 a] 23)).alloc (.cells #[.int .i64 x.gen, .int .i64 x.ep, .int .i64 x.pos, .int .i64 x.seq, .int .i64 x.last, .string x.lab, .slice x.HA x.hs.length x.hc] 26)).heap.size := by simp
  unfold AV.v at cH cR
  clear hx hh ho hg t1 t2 t3 hT
  go_enter Tryd.func5, Tryd.ntmps5
  go_upto_region 1 with fail
  generalize (w.alloc (.cells #[.int .i64 z, .int .i64 d, .int .i64 s, .int .i64 l, .int .i64 a] 23)).alloc (.cells #[.int .i64 x.gen, .int .i64 x.ep, .int .i64 x.pos, .int .i64 x.seq, .int .i64 x.last, .string x.lab, .slice x.HA x.hs.length x.hc] 26) = w0 at *
  obtain ⟨c0, c1, c2, c3, c4, c5, c6⟩ := id FF
  obtain ⟨g0, g1, g2, g3, g4⟩ := id GG
  go_upto_region 3 with (first
    | (go_at_call 6; (with_reducible refine (cH _ hb0).mono ?_); rintro e wq ⟨rfl, hbq⟩; replace FF := FF.keep hbq (by omega); replace GG := GG.keep hbq (by omega); replace l1 := Nat.lt_of_lt_of_le l1 hbq.size; clear c0 c1 c2 c3 c4 c5 c6 g0 g1 g2 g3 g4; obtain ⟨c0, c1, c2, c3, c4, c5, c6⟩ := id FF; obtain ⟨g0, g1, g2, g3, g4⟩ := id GG; replace hb0 := bt hb0 hbq; clear hbq)
    | (go_at_call 13; (with_reducible refine (cG _).mono ?_); rintro e wq ⟨rfl, hbq⟩; replace FF := FF.keep hbq (by omega); replace GG := GG.keep hbq (by omega); replace l1 := Nat.lt_of_lt_of_le l1 hbq.size; clear c0 c1 c2 c3 c4 c5 c6 g0 g1 g2 g3 g4; obtain ⟨c0, c1, c2, c3, c4, c5, c6⟩ := id FF; obtain ⟨g0, g1, g2, g3, g4⟩ := id GG; replace hb0 := bt hb0 hbq; clear hbq)
    | (go_at_call 14; (with_reducible refine (cR _ hb0).mono ?_); rintro e wq ⟨rfl, hbq⟩; replace FF := FF.keep hbq (by omega); replace GG := GG.keep hbq (by omega); replace l1 := Nat.lt_of_lt_of_le l1 hbq.size; clear c0 c1 c2 c3 c4 c5 c6 g0 g1 g2 g3 g4; obtain ⟨c0, c1, c2, c3, c4, c5, c6⟩ := id FF; obtain ⟨g0, g1, g2, g3, g4⟩ := id GG; replace hb0 := bt hb0 hbq; clear hbq))
  obtain ⟨n1, n2, n3, n4, n5, n6, n7, n8, n9, n10, n11, n12, n13⟩ := HN.out
  have m1 : ¬ z = 0 := by omega
  have m2 : ¬ d + 1 = 0 := by omega
  have m3 : (z == 0) = false := beq_eq_false_iff_ne.2 m1
  have m4 : (d + 1 == 0) = false := beq_eq_false_iff_ne.2 m2
  clear cH cG cR o1 o2
  go_quiet (fail)
  have hbN := below_dn (Below.refl wq.heap.size wq) nq
  replace GG := GG.keep hbN (by omega)
  replace FF := FF.keep hbN (by omega)
  replace hb0 := bt hb0 hbN
  replace l1 := Nat.lt_of_lt_of_le l1 hbN.size
  clear hbN g0 g1 g2 g3 g4 c0 c1 c2 c3 c4 c5 c6
  generalize wq.drewN nq = w2 at *
  obtain ⟨g0, g1, g2, g3, g4⟩ := id GG
  go_upto_region 4 with fail
  go_quiet (fail)
  have hbN := below_dn (Below.refl w2.heap.size w2) nq
  replace GG := GG.keep hbN (by omega)
  replace FF := FF.keep hbN (by omega)
  replace hb0 := bt hb0 hbN
  replace l1 := Nat.lt_of_lt_of_le l1 hbN.size
  clear hbN g0 g1 g2 g3 g4
  generalize w2.drewN nq = w3 at *
  clear n1 n2 n3 n4 n5 n6 n7 n8 n9 n10 n11 n12 n13 m1 m2 m3 m4 HN
  obtain ⟨g0, g1, g2, g3, g4⟩ := id GG
  obtain ⟨c0, c1, c2, c3, c4, c5, c6⟩ := id FF
  go_upto_region 5 with fail
  have HMV1 := HMV.out w3 hb0
  unfold AV.v at HMV1
  go_upto_region 6 with (go_at_call 10; (with_reducible refine HMV1.mono ?_); rintro e w4 ⟨⟨y, hey, hyd, hyo, -⟩, hb4⟩; rw [AV.v] at hey; subst hey)
  have hx4 := bl w4 (.cells #[.int .i64 y.gen, .int .i64 y.ep, .int .i64 y.pos, .int .i64 y.seq, .int .i64 y.last, .string y.lab, .slice y.HA y.hs.length y.hc] 26)
  have FY := ac_new w4 y
  have hz4 := hb4.size
  have YI := Lib.hid (AV.Own.inn (OwnH.below hyo hx4))
  replace GG := (GG.keep hb4 (by omega)).keep hx4 (by omega)
  replace FF := (FF.keep hb4 (by omega)).keep hx4 (by omega)
  replace hb0 := bt (bt hb0 hb4) hx4
  have lY : w4.heap.size < (w4.alloc (.cells #[.int .i64 y.gen, .int .i64 y.ep, .int .i64 y.pos, .int .i64 y.seq, .int .i64 y.last, .string y.lab, .slice y.HA y.hs.length y.hc] 26)).heap.size := by simp
  obtain ⟨gY, hgY⟩ : ∃ g, g = w4.heap.size := ⟨_, rfl⟩
  rw [← hgY] at FY lY ⊢
  have hlY : w.heap.size + 1 < gY := by omega
  clear HMV1 hb4 hx4 hz4 hyo hgY l1 g0 g1 g2 g3 g4 c0 c1 c2 c3 c4 c5 c6
  generalize w4.alloc (.cells #[.int .i64 y.gen, .int .i64 y.ep, .int .i64 y.pos, .int .i64 y.seq, .int .i64 y.last, .string y.lab, .slice y.HA y.hs.length y.hc] 26) = w5 at *
  obtain ⟨g0, g1, g2, g3, g4⟩ := id GG
  obtain ⟨c0, c1, c2, c3, c4, c5, c6⟩ := id FF
  have HSK1 := HSK.out w5 hb0
  unfold AV.v at HSK1
  go_upto_region 7 with (go_at_call 11; (with_reducible refine HSK1.mono ?_); rintro e w6 ⟨⟨t, het, htd, hto, -⟩, hb6⟩; rw [AV.v] at het; subst het)
  have hx6 := bl w6 (.cells #[.int .i64 t.gen, .int .i64 t.ep, .int .i64 t.pos, .int .i64 t.seq, .int .i64 t.last, .string t.lab, .slice t.HA t.hs.length t.hc] 26)
  have FT := ac_new w6 t
  have hz6 := hb6.size
  have TI := Lib.hid (AV.Own.inn (OwnH.below hto hx6))
  replace YI := Lib.hid ((YI.out.next hb6).next hx6)
  replace GG := (GG.keep hb6 (by omega)).keep hx6 (by omega)
  replace FF := (FF.keep hb6 (by omega)).keep hx6 (by omega)
  replace FY := (FY.keep hb6 (by omega)).keep hx6 (by omega)
  replace hb0 := bt (bt hb0 hb6) hx6
  have lT : w6.heap.size < (w6.alloc (.cells #[.int .i64 t.gen, .int .i64 t.ep, .int .i64 t.pos, .int .i64 t.seq, .int .i64 t.last, .string t.lab, .slice t.HA t.hs.length t.hc] 26)).heap.size := by simp
  obtain ⟨gT, hgT⟩ : ∃ g, g = w6.heap.size := ⟨_, rfl⟩
  rw [← hgT] at FT lT ⊢
  have hlT : gY < gT := by omega
  clear HSK1 hb6 hx6 hz6 hto hgT lY g0 g1 g2 g3 g4 c0 c1 c2 c3 c4 c5 c6
  generalize w6.alloc (.cells #[.int .i64 t.gen, .int .i64 t.ep, .int .i64 t.pos, .int .i64 t.seq, .int .i64 t.last, .string t.lab, .slice t.HA t.hs.length t.hc] 26) = w7 at *
  obtain ⟨g0, g1, g2, g3, g4⟩ := id GG
  obtain ⟨c0, c1, c2, c3, c4, c5, c6⟩ := id FF
  have hA1 := HA1.out w7 hb0
  unfold AV.v at hA1
  have q0 : (X0 != X0) = false := by simp
  go_upto_region 10 with (go_at_call 8; (with_reducible refine hA1.mono ?_); rintro e w8 ⟨rfl, hb8⟩)
  have hz8 := hb8.size
  replace GG := GG.keep hb8 (by omega)
  replace FF := FF.keep hb8 (by omega)
  replace FY := FY.keep hb8 (by omega)
  replace FT := FT.keep hb8 (by omega)
  replace YI := Lib.hid (YI.out.next hb8)
  replace TI := Lib.hid (TI.out.next hb8)
  replace hb0 := bt hb0 hb8
  clear hb8 hA1 g0 g1 g2 g3 g4 c0 c1 c2 c3 c4 c5 c6
  obtain ⟨g0, g1, g2, g3, g4⟩ := id GG
  obtain ⟨c0, c1, c2, c3, c4, c5, c6⟩ := id FY
  have hA2 := HA2.out y w8 hb0 hyd YI.out
  unfold AV.v at hA2
  go_upto_region 11 with (go_at_call 8; (with_reducible refine hA2.mono ?_); rintro e w9 ⟨rfl, hb9⟩)
  have hz9 := hb9.size
  replace GG := GG.keep hb9 (by omega)
  replace FF := FF.keep hb9 (by omega)
  replace FY := FY.keep hb9 (by omega)
  replace FT := FT.keep hb9 (by omega)
  replace TI := Lib.hid (TI.out.next hb9)
  replace hb0 := bt hb0 hb9
  clear hb9 hA2 g0 g1 g2 g3 g4 c0 c1 c2 c3 c4 c5 c6 YI
  obtain ⟨g0, g1, g2, g3, g4⟩ := id GG
  obtain ⟨c0, c1, c2, c3, c4, c5, c6⟩ := id FT
  have hA3 := HA3.out t w9 hb0 htd TI.out
  unfold AV.v at hA3
  go_upto_region 12 with (go_at_call 8; (with_reducible refine hA3.mono ?_); rintro e w10 ⟨rfl, hb10⟩)
  have hz10 := hb10.size
  have x0 := (FF.keep hb10 (by omega)).c0
  have y0 := (FY.keep hb10 (by omega)).c0
  have t0 := (FT.keep hb10 (by omega)).c0
  replace hb0 := bt hb0 hb10
  have hyg : y.gen = x.gen := (congrArg Anc.gen hyd).trans HGA.out
  have htg : t.gen = x.gen := (congrArg Anc.gen htd).trans HGB.out
  rw [hyg] at y0
  rw [htg] at t0
  have HW1 := Lib.hid (HW.out w10 hb0)
  clear hb10 hA3 g0 g1 g2 g3 g4 c0 c1 c2 c3 c4 c5 c6 TI GG FF FY FT hyg htg hyd htd
  have q5 : (x.gen == x.gen) = true := beq_self_eq_true _
  obtain ⟨rfl, rfl, rfl, h4⟩ := HCO.out
  have q1 : ((K : Int) == (K : Int)) = true := beq_self_eq_true _
  have q2 : (((O1 : Int) - 1) == ((O1 : Int) - 1)) = true := beq_self_eq_true _
  have q3 : (W0 == W0) = true := beq_self_eq_true _
  have q4 : (W0 != X0) = true := bne_iff_ne.2 h4
  clear h4 HCO
  go_wp2_with (go_at_call 15; (with_reducible refine HW1.out.mono ?_); rintro e wz ⟨rfl, hbz⟩)
  go_ret
  exact ⟨rfl, bt hb0 hbz⟩
set_option maxRecDepth 100000 in
set_option maxHeartbeats 8000000 in
theorem ps_zone (hV : ValidOk) (hC : CloneOk) (J K P1 O1 : Nat) (z d s l a : Int) (x : AV) (zn wh ot zz : Int) (w : World) (hT : Tabs w) (hx : x.In w w.heap.size) (hh : ¬ HeavyA x.d) (ho : Ok z d s l a) (hg : anc.Good z d s l x.d) (hJ : (IntKind.u64.wrap zn).tmod z = (J : Int)) (hK : (IntKind.u64.wrap zz).tmod z = (K : Int)) (hP : (IntKind.u64.wrap wh).tmod (d + 1) = (P1 : Int)) (hO : (IntKind.u64.wrap ot).tmod (d + 1) = (O1 : Int)) (hJz : (J : Int) < z) (hKz : (K : Int) < z) (hPd : (P1 : Int) < d + 1) (hOd : (O1 : Int) < d + 1) (A B : Anc) (X0 Y0 W0 : Int) (hMV : ∀ W, Below w.heap.size w W → Calls Tryd.prog 10 #[.agg #[.int .i64 z, .int .i64 d, .int .i64 s, .int .i64 l, .int .i64 a], x.v, .int .i64 J, .int .i64 ((P1 : Int) - 1)] W fun e w' => AnsM W.heap.size A Y0 0 e w' ∧ Below W.heap.size W w') (hSK : ∀ W, Below w.heap.size w W → Calls Tryd.prog 11 #[.agg #[.int .i64 z, .int .i64 d, .int .i64 s, .int .i64 l, .int .i64 a], x.v, .int .i64 J] W fun e w' => AnsP W.heap.size B 0 e w' ∧ Below W.heap.size W w') (hA1 : ∀ W, Below w.heap.size w W → Calls Tryd.prog 8 #[.agg #[.int .i64 z, .int .i64 d, .int .i64 s, .int .i64 l, .int .i64 a], x.v, .int .i64 K, .int .i64 ((O1 : Int) - 1)] W fun e w' => e = .returned (.tuple #[.int .i64 X0, .int .i64 0]) ∧ Below W.heap.size W w') (hA2 : ∀ (u : AV) W, Below w.heap.size w W → u.d = A → u.In W W.heap.size → Calls Tryd.prog 8 #[.agg #[.int .i64 z, .int .i64 d, .int .i64 s, .int .i64 l, .int .i64 a], u.v, .int .i64 K, .int .i64 ((O1 : Int) - 1)] W fun e w' => e = .returned (.tuple #[.int .i64 W0, .int .i64 0]) ∧ Below W.heap.size W w') (hA3 : ∀ (u : AV) W, Below w.heap.size w W → u.d = B → u.In W W.heap.size → Calls Tryd.prog 8 #[.agg #[.int .i64 z, .int .i64 d, .int .i64 s, .int .i64 l, .int .i64 a], u.v, .int .i64 K, .int .i64 ((O1 : Int) - 1)] W fun e w' => e = .returned (.tuple #[.int .i64 X0, .int .i64 0]) ∧ Below W.heap.size W w') (hgA : A.gen = x.gen) (hgB : B.gen = x.gen) (hco : K ≠ J ∧ W0 = X0) :
    Calls Tryd.prog 5 #[.agg #[.int .i64 z, .int .i64 d, .int .i64 s, .int .i64 l, .int .i64 a], x.v, .int .i64 zn, .int .i64 wh, .int .i64 ot, .int .i64 zz] w fun e w' => e = .returned (.bool true) ∧ Below w.heap.size w w' := by
  obtain ⟨t1, t2, t3⟩ := light hh
  have cH := fun W (hW : Below w.heap.size w W) => heavy_any false x W (hx.next hW) (iff_of_false Bool.false_ne_true hh)
  have cG := fun W => gmt.rgeo_at true z d s l a W (iff_of_true rfl ho)
  have cR := fun W (hW : Below w.heap.size w W) => right_p z d s l a true x W ho (hx.next hW) (by omega) (fun r hr => by have := t3 r hr; omega) (by omega) (iff_of_true rfl hg)
  have HW := Lib.hid (show ∀ W, Below w.heap.size w W → Calls Tryd.prog 15 #[] W fun e w' => e = .returned (.bool true) ∧ Below W.heap.size W w' from fun W hW => wk_place hV hC W (tn hT hW))
  have o1 := ho.1
  have o2 := ho.2.1
  have hb4 := And.intro hJz (And.intro hKz (And.intro hPd hOd))
  clear hb4
  have HN := Lib.hid (And.intro hJ (And.intro hK (And.intro hP (And.intro hO (And.intro (show IntKind.u64.wrap z = z from IntWalk.u64_in _ (by omega)) (And.intro (show IntKind.u64.wrap (d + 1) = d + 1 from IntWalk.u64_in _ (by omega)) (And.intro (show IntKind.i64.wrap (d + 1) = d + 1 from w6 _ (by omega) (by omega)) (And.intro (show IntKind.i64.wrap (J : Int) = J from w6 _ (by omega) (by omega)) (And.intro (show IntKind.i64.wrap (K : Int) = K from w6 _ (by omega) (by omega)) (And.intro (show IntKind.i64.wrap (P1 : Int) = P1 from w6 _ (by omega) (by omega)) (And.intro (show IntKind.i64.wrap (O1 : Int) = O1 from w6 _ (by omega) (by omega)) (And.intro (show IntKind.i64.wrap ((P1 : Int) - 1) = (P1 : Int) - 1 from w6 _ (by omega) (by omega)) (show IntKind.i64.wrap ((O1 : Int) - 1) = (O1 : Int) - 1 from w6 _ (by omega) (by omega))))))))))))))
  have HMV := Lib.hid hMV
  have HSK := Lib.hid hSK
  clear hMV hSK
  have HA1 := Lib.hid hA1
  have HA2 := Lib.hid hA2
  have HA3 := Lib.hid hA3
  have HGA := Lib.hid hgA
  have HGB := Lib.hid hgB
  have HCO := Lib.hid hco
  clear hA1 hA2 hA3 hgA hgB hco
  clear hJ hK hP hO hJz hKz hPd hOd
  unfold AV.v
  have GG := (g5_new w z d s l a).keep (bl (w.alloc (.cells #[.int .i64 z, .int .i64 d, .int .i64 s, .int .i64 l, .int .i64 a] 23)) (.cells #[.int .i64 x.gen, .int .i64 x.ep, .int .i64 x.pos, .int .i64 x.seq, .int .i64 x.last, .string x.lab, .slice x.HA x.hs.length x.hc] 26)) (by simp)
  have FF := ac_new (w.alloc (.cells #[.int .i64 z, .int .i64 d, .int .i64 s, .int .i64 l, .int .i64 a] 23)) x
  have hb0 := kal (bl w (.cells #[.int .i64 z, .int .i64 d, .int .i64 s, .int .i64 l, .int .i64 a] 23)) (.cells #[.int .i64 x.gen, .int .i64 x.ep, .int .i64 x.pos, .int .i64 x.seq, .int .i64 x.last, .string x.lab, .slice x.HA x.hs.length x.hc] 26)
  rw [show (w.alloc (.cells #[.int .i64 z, .int .i64 d, .int .i64 s, .int .i64 l, .int .i64 a] 23)).heap.size = w.heap.size + 1 by simp] at FF
  have l1 : w.heap.size + 1 < ((w.alloc (.cells #[.int .i64 z, .int .i64 d, .int .i64 s, .int .i64 l, .int .i64 a] 23)).alloc (.cells #[.int .i64 x.gen, .int .i64 x.ep, .int .i64 x.pos, .int .i64 x.seq, .int .i64 x.last, .string x.lab, .slice x.HA x.hs.length x.hc] 26)).heap.size := by simp
  unfold AV.v at cH cR
  clear hx hh ho hg t1 t2 t3 hT
  go_enter Tryd.func5, Tryd.ntmps5
  go_upto_region 1 with fail
  generalize (w.alloc (.cells #[.int .i64 z, .int .i64 d, .int .i64 s, .int .i64 l, .int .i64 a] 23)).alloc (.cells #[.int .i64 x.gen, .int .i64 x.ep, .int .i64 x.pos, .int .i64 x.seq, .int .i64 x.last, .string x.lab, .slice x.HA x.hs.length x.hc] 26) = w0 at *
  obtain ⟨c0, c1, c2, c3, c4, c5, c6⟩ := id FF
  obtain ⟨g0, g1, g2, g3, g4⟩ := id GG
  go_upto_region 3 with (first
    | (go_at_call 6; (with_reducible refine (cH _ hb0).mono ?_); rintro e wq ⟨rfl, hbq⟩; replace FF := FF.keep hbq (by omega); replace GG := GG.keep hbq (by omega); replace l1 := Nat.lt_of_lt_of_le l1 hbq.size; clear c0 c1 c2 c3 c4 c5 c6 g0 g1 g2 g3 g4; obtain ⟨c0, c1, c2, c3, c4, c5, c6⟩ := id FF; obtain ⟨g0, g1, g2, g3, g4⟩ := id GG; replace hb0 := bt hb0 hbq; clear hbq)
    | (go_at_call 13; (with_reducible refine (cG _).mono ?_); rintro e wq ⟨rfl, hbq⟩; replace FF := FF.keep hbq (by omega); replace GG := GG.keep hbq (by omega); replace l1 := Nat.lt_of_lt_of_le l1 hbq.size; clear c0 c1 c2 c3 c4 c5 c6 g0 g1 g2 g3 g4; obtain ⟨c0, c1, c2, c3, c4, c5, c6⟩ := id FF; obtain ⟨g0, g1, g2, g3, g4⟩ := id GG; replace hb0 := bt hb0 hbq; clear hbq)
    | (go_at_call 14; (with_reducible refine (cR _ hb0).mono ?_); rintro e wq ⟨rfl, hbq⟩; replace FF := FF.keep hbq (by omega); replace GG := GG.keep hbq (by omega); replace l1 := Nat.lt_of_lt_of_le l1 hbq.size; clear c0 c1 c2 c3 c4 c5 c6 g0 g1 g2 g3 g4; obtain ⟨c0, c1, c2, c3, c4, c5, c6⟩ := id FF; obtain ⟨g0, g1, g2, g3, g4⟩ := id GG; replace hb0 := bt hb0 hbq; clear hbq))
  obtain ⟨n1, n2, n3, n4, n5, n6, n7, n8, n9, n10, n11, n12, n13⟩ := HN.out
  have m1 : ¬ z = 0 := by omega
  have m2 : ¬ d + 1 = 0 := by omega
  have m3 : (z == 0) = false := beq_eq_false_iff_ne.2 m1
  have m4 : (d + 1 == 0) = false := beq_eq_false_iff_ne.2 m2
  clear cH cG cR o1 o2
  go_quiet (fail)
  have hbN := below_dn (Below.refl wq.heap.size wq) nq
  replace GG := GG.keep hbN (by omega)
  replace FF := FF.keep hbN (by omega)
  replace hb0 := bt hb0 hbN
  replace l1 := Nat.lt_of_lt_of_le l1 hbN.size
  clear hbN g0 g1 g2 g3 g4 c0 c1 c2 c3 c4 c5 c6
  generalize wq.drewN nq = w2 at *
  obtain ⟨g0, g1, g2, g3, g4⟩ := id GG
  go_upto_region 4 with fail
  go_quiet (fail)
  have hbN := below_dn (Below.refl w2.heap.size w2) nq
  replace GG := GG.keep hbN (by omega)
  replace FF := FF.keep hbN (by omega)
  replace hb0 := bt hb0 hbN
  replace l1 := Nat.lt_of_lt_of_le l1 hbN.size
  clear hbN g0 g1 g2 g3 g4
  generalize w2.drewN nq = w3 at *
  clear n1 n2 n3 n4 n5 n6 n7 n8 n9 n10 n11 n12 n13 m1 m2 m3 m4 HN
  obtain ⟨g0, g1, g2, g3, g4⟩ := id GG
  obtain ⟨c0, c1, c2, c3, c4, c5, c6⟩ := id FF
  go_upto_region 5 with fail
  have HMV1 := HMV.out w3 hb0
  unfold AV.v at HMV1
  go_upto_region 6 with (go_at_call 10; (with_reducible refine HMV1.mono ?_); rintro e w4 ⟨⟨y, hey, hyd, hyo, -⟩, hb4⟩; rw [AV.v] at hey; subst hey)
  have hx4 := bl w4 (.cells #[.int .i64 y.gen, .int .i64 y.ep, .int .i64 y.pos, .int .i64 y.seq, .int .i64 y.last, .string y.lab, .slice y.HA y.hs.length y.hc] 26)
  have FY := ac_new w4 y
  have hz4 := hb4.size
  have YI := Lib.hid (AV.Own.inn (OwnH.below hyo hx4))
  replace GG := (GG.keep hb4 (by omega)).keep hx4 (by omega)
  replace FF := (FF.keep hb4 (by omega)).keep hx4 (by omega)
  replace hb0 := bt (bt hb0 hb4) hx4
  have lY : w4.heap.size < (w4.alloc (.cells #[.int .i64 y.gen, .int .i64 y.ep, .int .i64 y.pos, .int .i64 y.seq, .int .i64 y.last, .string y.lab, .slice y.HA y.hs.length y.hc] 26)).heap.size := by simp
  obtain ⟨gY, hgY⟩ : ∃ g, g = w4.heap.size := ⟨_, rfl⟩
  rw [← hgY] at FY lY ⊢
  have hlY : w.heap.size + 1 < gY := by omega
  clear HMV1 hb4 hx4 hz4 hyo hgY l1 g0 g1 g2 g3 g4 c0 c1 c2 c3 c4 c5 c6
  generalize w4.alloc (.cells #[.int .i64 y.gen, .int .i64 y.ep, .int .i64 y.pos, .int .i64 y.seq, .int .i64 y.last, .string y.lab, .slice y.HA y.hs.length y.hc] 26) = w5 at *
  obtain ⟨g0, g1, g2, g3, g4⟩ := id GG
  obtain ⟨c0, c1, c2, c3, c4, c5, c6⟩ := id FF
  have HSK1 := HSK.out w5 hb0
  unfold AV.v at HSK1
  go_upto_region 7 with (go_at_call 11; (with_reducible refine HSK1.mono ?_); rintro e w6 ⟨⟨t, het, htd, hto, -⟩, hb6⟩; rw [AV.v] at het; subst het)
  have hx6 := bl w6 (.cells #[.int .i64 t.gen, .int .i64 t.ep, .int .i64 t.pos, .int .i64 t.seq, .int .i64 t.last, .string t.lab, .slice t.HA t.hs.length t.hc] 26)
  have FT := ac_new w6 t
  have hz6 := hb6.size
  have TI := Lib.hid (AV.Own.inn (OwnH.below hto hx6))
  replace YI := Lib.hid ((YI.out.next hb6).next hx6)
  replace GG := (GG.keep hb6 (by omega)).keep hx6 (by omega)
  replace FF := (FF.keep hb6 (by omega)).keep hx6 (by omega)
  replace FY := (FY.keep hb6 (by omega)).keep hx6 (by omega)
  replace hb0 := bt (bt hb0 hb6) hx6
  have lT : w6.heap.size < (w6.alloc (.cells #[.int .i64 t.gen, .int .i64 t.ep, .int .i64 t.pos, .int .i64 t.seq, .int .i64 t.last, .string t.lab, .slice t.HA t.hs.length t.hc] 26)).heap.size := by simp
  obtain ⟨gT, hgT⟩ : ∃ g, g = w6.heap.size := ⟨_, rfl⟩
  rw [← hgT] at FT lT ⊢
  have hlT : gY < gT := by omega
  clear HSK1 hb6 hx6 hz6 hto hgT lY g0 g1 g2 g3 g4 c0 c1 c2 c3 c4 c5 c6
  generalize w6.alloc (.cells #[.int .i64 t.gen, .int .i64 t.ep, .int .i64 t.pos, .int .i64 t.seq, .int .i64 t.last, .string t.lab, .slice t.HA t.hs.length t.hc] 26) = w7 at *
  obtain ⟨g0, g1, g2, g3, g4⟩ := id GG
  obtain ⟨c0, c1, c2, c3, c4, c5, c6⟩ := id FF
  have hA1 := HA1.out w7 hb0
  unfold AV.v at hA1
  have q0 : (X0 != X0) = false := by simp
  go_upto_region 10 with (go_at_call 8; (with_reducible refine hA1.mono ?_); rintro e w8 ⟨rfl, hb8⟩)
  have hz8 := hb8.size
  replace GG := GG.keep hb8 (by omega)
  replace FF := FF.keep hb8 (by omega)
  replace FY := FY.keep hb8 (by omega)
  replace FT := FT.keep hb8 (by omega)
  replace YI := Lib.hid (YI.out.next hb8)
  replace TI := Lib.hid (TI.out.next hb8)
  replace hb0 := bt hb0 hb8
  clear hb8 hA1 g0 g1 g2 g3 g4 c0 c1 c2 c3 c4 c5 c6
  obtain ⟨g0, g1, g2, g3, g4⟩ := id GG
  obtain ⟨c0, c1, c2, c3, c4, c5, c6⟩ := id FY
  have hA2 := HA2.out y w8 hb0 hyd YI.out
  unfold AV.v at hA2
  go_upto_region 11 with (go_at_call 8; (with_reducible refine hA2.mono ?_); rintro e w9 ⟨rfl, hb9⟩)
  have hz9 := hb9.size
  replace GG := GG.keep hb9 (by omega)
  replace FF := FF.keep hb9 (by omega)
  replace FY := FY.keep hb9 (by omega)
  replace FT := FT.keep hb9 (by omega)
  replace TI := Lib.hid (TI.out.next hb9)
  replace hb0 := bt hb0 hb9
  clear hb9 hA2 g0 g1 g2 g3 g4 c0 c1 c2 c3 c4 c5 c6 YI
  obtain ⟨g0, g1, g2, g3, g4⟩ := id GG
  obtain ⟨c0, c1, c2, c3, c4, c5, c6⟩ := id FT
  have hA3 := HA3.out t w9 hb0 htd TI.out
  unfold AV.v at hA3
  go_upto_region 12 with (go_at_call 8; (with_reducible refine hA3.mono ?_); rintro e w10 ⟨rfl, hb10⟩)
  have hz10 := hb10.size
  have x0 := (FF.keep hb10 (by omega)).c0
  have y0 := (FY.keep hb10 (by omega)).c0
  have t0 := (FT.keep hb10 (by omega)).c0
  replace hb0 := bt hb0 hb10
  have hyg : y.gen = x.gen := (congrArg Anc.gen hyd).trans HGA.out
  have htg : t.gen = x.gen := (congrArg Anc.gen htd).trans HGB.out
  rw [hyg] at y0
  rw [htg] at t0
  have HW1 := Lib.hid (HW.out w10 hb0)
  clear hb10 hA3 g0 g1 g2 g3 g4 c0 c1 c2 c3 c4 c5 c6 TI GG FF FY FT hyg htg hyd htd
  have q5 : (x.gen == x.gen) = true := beq_self_eq_true _
  obtain ⟨h1, rfl⟩ := HCO.out
  have q1 : ((K : Int) == (J : Int)) = false := beq_eq_false_iff_ne.2 (by omega)
  have q3 : (W0 == W0) = true := beq_self_eq_true _
  clear h1 HCO
  go_wp2_with (go_at_call 15; (with_reducible refine HW1.out.mono ?_); rintro e wz ⟨rfl, hbz⟩)
  go_ret
  exact ⟨rfl, bt hb0 hbz⟩
set_option maxRecDepth 100000 in
set_option maxHeartbeats 8000000 in
theorem ps_what (hV : ValidOk) (hC : CloneOk) (J K P1 O1 : Nat) (z d s l a : Int) (x : AV) (zn wh ot zz : Int) (w : World) (hT : Tabs w) (hx : x.In w w.heap.size) (hh : ¬ HeavyA x.d) (ho : Ok z d s l a) (hg : anc.Good z d s l x.d) (hJ : (IntKind.u64.wrap zn).tmod z = (J : Int)) (hK : (IntKind.u64.wrap zz).tmod z = (K : Int)) (hP : (IntKind.u64.wrap wh).tmod (d + 1) = (P1 : Int)) (hO : (IntKind.u64.wrap ot).tmod (d + 1) = (O1 : Int)) (hJz : (J : Int) < z) (hKz : (K : Int) < z) (hPd : (P1 : Int) < d + 1) (hOd : (O1 : Int) < d + 1) (A B : Anc) (X0 Y0 W0 : Int) (hMV : ∀ W, Below w.heap.size w W → Calls Tryd.prog 10 #[.agg #[.int .i64 z, .int .i64 d, .int .i64 s, .int .i64 l, .int .i64 a], x.v, .int .i64 J, .int .i64 ((P1 : Int) - 1)] W fun e w' => AnsM W.heap.size A Y0 0 e w' ∧ Below W.heap.size W w') (hSK : ∀ W, Below w.heap.size w W → Calls Tryd.prog 11 #[.agg #[.int .i64 z, .int .i64 d, .int .i64 s, .int .i64 l, .int .i64 a], x.v, .int .i64 J] W fun e w' => AnsP W.heap.size B 0 e w' ∧ Below W.heap.size W w') (hA1 : ∀ W, Below w.heap.size w W → Calls Tryd.prog 8 #[.agg #[.int .i64 z, .int .i64 d, .int .i64 s, .int .i64 l, .int .i64 a], x.v, .int .i64 K, .int .i64 ((O1 : Int) - 1)] W fun e w' => e = .returned (.tuple #[.int .i64 X0, .int .i64 0]) ∧ Below W.heap.size W w') (hA2 : ∀ (u : AV) W, Below w.heap.size w W → u.d = A → u.In W W.heap.size → Calls Tryd.prog 8 #[.agg #[.int .i64 z, .int .i64 d, .int .i64 s, .int .i64 l, .int .i64 a], u.v, .int .i64 K, .int .i64 ((O1 : Int) - 1)] W fun e w' => e = .returned (.tuple #[.int .i64 W0, .int .i64 0]) ∧ Below W.heap.size W w') (hA3 : ∀ (u : AV) W, Below w.heap.size w W → u.d = B → u.In W W.heap.size → Calls Tryd.prog 8 #[.agg #[.int .i64 z, .int .i64 d, .int .i64 s, .int .i64 l, .int .i64 a], u.v, .int .i64 K, .int .i64 ((O1 : Int) - 1)] W fun e w' => e = .returned (.tuple #[.int .i64 X0, .int .i64 0]) ∧ Below W.heap.size W w') (hgA : A.gen = x.gen) (hgB : B.gen = x.gen) (hco : K = J ∧ O1 ≠ P1 ∧ W0 = X0) :
    Calls Tryd.prog 5 #[.agg #[.int .i64 z, .int .i64 d, .int .i64 s, .int .i64 l, .int .i64 a], x.v, .int .i64 zn, .int .i64 wh, .int .i64 ot, .int .i64 zz] w fun e w' => e = .returned (.bool true) ∧ Below w.heap.size w w' := by
  obtain ⟨t1, t2, t3⟩ := light hh
  have cH := fun W (hW : Below w.heap.size w W) => heavy_any false x W (hx.next hW) (iff_of_false Bool.false_ne_true hh)
  have cG := fun W => gmt.rgeo_at true z d s l a W (iff_of_true rfl ho)
  have cR := fun W (hW : Below w.heap.size w W) => right_p z d s l a true x W ho (hx.next hW) (by omega) (fun r hr => by have := t3 r hr; omega) (by omega) (iff_of_true rfl hg)
  have HW := Lib.hid (show ∀ W, Below w.heap.size w W → Calls Tryd.prog 15 #[] W fun e w' => e = .returned (.bool true) ∧ Below W.heap.size W w' from fun W hW => wk_place hV hC W (tn hT hW))
  have o1 := ho.1
  have o2 := ho.2.1
  have hb4 := And.intro hJz (And.intro hKz (And.intro hPd hOd))
  clear hb4
  have HN := Lib.hid (And.intro hJ (And.intro hK (And.intro hP (And.intro hO (And.intro (show IntKind.u64.wrap z = z from IntWalk.u64_in _ (by omega)) (And.intro (show IntKind.u64.wrap (d + 1) = d + 1 from IntWalk.u64_in _ (by omega)) (And.intro (show IntKind.i64.wrap (d + 1) = d + 1 from w6 _ (by omega) (by omega)) (And.intro (show IntKind.i64.wrap (J : Int) = J from w6 _ (by omega) (by omega)) (And.intro (show IntKind.i64.wrap (K : Int) = K from w6 _ (by omega) (by omega)) (And.intro (show IntKind.i64.wrap (P1 : Int) = P1 from w6 _ (by omega) (by omega)) (And.intro (show IntKind.i64.wrap (O1 : Int) = O1 from w6 _ (by omega) (by omega)) (And.intro (show IntKind.i64.wrap ((P1 : Int) - 1) = (P1 : Int) - 1 from w6 _ (by omega) (by omega)) (show IntKind.i64.wrap ((O1 : Int) - 1) = (O1 : Int) - 1 from w6 _ (by omega) (by omega))))))))))))))
  have HMV := Lib.hid hMV
  have HSK := Lib.hid hSK
  clear hMV hSK
  have HA1 := Lib.hid hA1
  have HA2 := Lib.hid hA2
  have HA3 := Lib.hid hA3
  have HGA := Lib.hid hgA
  have HGB := Lib.hid hgB
  have HCO := Lib.hid hco
  clear hA1 hA2 hA3 hgA hgB hco
  clear hJ hK hP hO hJz hKz hPd hOd
  unfold AV.v
  have GG := (g5_new w z d s l a).keep (bl (w.alloc (.cells #[.int .i64 z, .int .i64 d, .int .i64 s, .int .i64 l, .int .i64 a] 23)) (.cells #[.int .i64 x.gen, .int .i64 x.ep, .int .i64 x.pos, .int .i64 x.seq, .int .i64 x.last, .string x.lab, .slice x.HA x.hs.length x.hc] 26)) (by simp)
  have FF := ac_new (w.alloc (.cells #[.int .i64 z, .int .i64 d, .int .i64 s, .int .i64 l, .int .i64 a] 23)) x
  have hb0 := kal (bl w (.cells #[.int .i64 z, .int .i64 d, .int .i64 s, .int .i64 l, .int .i64 a] 23)) (.cells #[.int .i64 x.gen, .int .i64 x.ep, .int .i64 x.pos, .int .i64 x.seq, .int .i64 x.last, .string x.lab, .slice x.HA x.hs.length x.hc] 26)
  rw [show (w.alloc (.cells #[.int .i64 z, .int .i64 d, .int .i64 s, .int .i64 l, .int .i64 a] 23)).heap.size = w.heap.size + 1 by simp] at FF
  have l1 : w.heap.size + 1 < ((w.alloc (.cells #[.int .i64 z, .int .i64 d, .int .i64 s, .int .i64 l, .int .i64 a] 23)).alloc (.cells #[.int .i64 x.gen, .int .i64 x.ep, .int .i64 x.pos, .int .i64 x.seq, .int .i64 x.last, .string x.lab, .slice x.HA x.hs.length x.hc] 26)).heap.size := by simp
  unfold AV.v at cH cR
  clear hx hh ho hg t1 t2 t3 hT
  go_enter Tryd.func5, Tryd.ntmps5
  go_upto_region 1 with fail
  generalize (w.alloc (.cells #[.int .i64 z, .int .i64 d, .int .i64 s, .int .i64 l, .int .i64 a] 23)).alloc (.cells #[.int .i64 x.gen, .int .i64 x.ep, .int .i64 x.pos, .int .i64 x.seq, .int .i64 x.last, .string x.lab, .slice x.HA x.hs.length x.hc] 26) = w0 at *
  obtain ⟨c0, c1, c2, c3, c4, c5, c6⟩ := id FF
  obtain ⟨g0, g1, g2, g3, g4⟩ := id GG
  go_upto_region 3 with (first
    | (go_at_call 6; (with_reducible refine (cH _ hb0).mono ?_); rintro e wq ⟨rfl, hbq⟩; replace FF := FF.keep hbq (by omega); replace GG := GG.keep hbq (by omega); replace l1 := Nat.lt_of_lt_of_le l1 hbq.size; clear c0 c1 c2 c3 c4 c5 c6 g0 g1 g2 g3 g4; obtain ⟨c0, c1, c2, c3, c4, c5, c6⟩ := id FF; obtain ⟨g0, g1, g2, g3, g4⟩ := id GG; replace hb0 := bt hb0 hbq; clear hbq)
    | (go_at_call 13; (with_reducible refine (cG _).mono ?_); rintro e wq ⟨rfl, hbq⟩; replace FF := FF.keep hbq (by omega); replace GG := GG.keep hbq (by omega); replace l1 := Nat.lt_of_lt_of_le l1 hbq.size; clear c0 c1 c2 c3 c4 c5 c6 g0 g1 g2 g3 g4; obtain ⟨c0, c1, c2, c3, c4, c5, c6⟩ := id FF; obtain ⟨g0, g1, g2, g3, g4⟩ := id GG; replace hb0 := bt hb0 hbq; clear hbq)
    | (go_at_call 14; (with_reducible refine (cR _ hb0).mono ?_); rintro e wq ⟨rfl, hbq⟩; replace FF := FF.keep hbq (by omega); replace GG := GG.keep hbq (by omega); replace l1 := Nat.lt_of_lt_of_le l1 hbq.size; clear c0 c1 c2 c3 c4 c5 c6 g0 g1 g2 g3 g4; obtain ⟨c0, c1, c2, c3, c4, c5, c6⟩ := id FF; obtain ⟨g0, g1, g2, g3, g4⟩ := id GG; replace hb0 := bt hb0 hbq; clear hbq))
  obtain ⟨n1, n2, n3, n4, n5, n6, n7, n8, n9, n10, n11, n12, n13⟩ := HN.out
  have m1 : ¬ z = 0 := by omega
  have m2 : ¬ d + 1 = 0 := by omega
  have m3 : (z == 0) = false := beq_eq_false_iff_ne.2 m1
  have m4 : (d + 1 == 0) = false := beq_eq_false_iff_ne.2 m2
  clear cH cG cR o1 o2
  go_quiet (fail)
  have hbN := below_dn (Below.refl wq.heap.size wq) nq
  replace GG := GG.keep hbN (by omega)
  replace FF := FF.keep hbN (by omega)
  replace hb0 := bt hb0 hbN
  replace l1 := Nat.lt_of_lt_of_le l1 hbN.size
  clear hbN g0 g1 g2 g3 g4 c0 c1 c2 c3 c4 c5 c6
  generalize wq.drewN nq = w2 at *
  obtain ⟨g0, g1, g2, g3, g4⟩ := id GG
  go_upto_region 4 with fail
  go_quiet (fail)
  have hbN := below_dn (Below.refl w2.heap.size w2) nq
  replace GG := GG.keep hbN (by omega)
  replace FF := FF.keep hbN (by omega)
  replace hb0 := bt hb0 hbN
  replace l1 := Nat.lt_of_lt_of_le l1 hbN.size
  clear hbN g0 g1 g2 g3 g4
  generalize w2.drewN nq = w3 at *
  clear n1 n2 n3 n4 n5 n6 n7 n8 n9 n10 n11 n12 n13 m1 m2 m3 m4 HN
  obtain ⟨g0, g1, g2, g3, g4⟩ := id GG
  obtain ⟨c0, c1, c2, c3, c4, c5, c6⟩ := id FF
  go_upto_region 5 with fail
  have HMV1 := HMV.out w3 hb0
  unfold AV.v at HMV1
  go_upto_region 6 with (go_at_call 10; (with_reducible refine HMV1.mono ?_); rintro e w4 ⟨⟨y, hey, hyd, hyo, -⟩, hb4⟩; rw [AV.v] at hey; subst hey)
  have hx4 := bl w4 (.cells #[.int .i64 y.gen, .int .i64 y.ep, .int .i64 y.pos, .int .i64 y.seq, .int .i64 y.last, .string y.lab, .slice y.HA y.hs.length y.hc] 26)
  have FY := ac_new w4 y
  have hz4 := hb4.size
  have YI := Lib.hid (AV.Own.inn (OwnH.below hyo hx4))
  replace GG := (GG.keep hb4 (by omega)).keep hx4 (by omega)
  replace FF := (FF.keep hb4 (by omega)).keep hx4 (by omega)
  replace hb0 := bt (bt hb0 hb4) hx4
  have lY : w4.heap.size < (w4.alloc (.cells #[.int .i64 y.gen, .int .i64 y.ep, .int .i64 y.pos, .int .i64 y.seq, .int .i64 y.last, .string y.lab, .slice y.HA y.hs.length y.hc] 26)).heap.size := by simp
  obtain ⟨gY, hgY⟩ : ∃ g, g = w4.heap.size := ⟨_, rfl⟩
  rw [← hgY] at FY lY ⊢
  have hlY : w.heap.size + 1 < gY := by omega
  clear HMV1 hb4 hx4 hz4 hyo hgY l1 g0 g1 g2 g3 g4 c0 c1 c2 c3 c4 c5 c6
  generalize w4.alloc (.cells #[.int .i64 y.gen, .int .i64 y.ep, .int .i64 y.pos, .int .i64 y.seq, .int .i64 y.last, .string y.lab, .slice y.HA y.hs.length y.hc] 26) = w5 at *
  obtain ⟨g0, g1, g2, g3, g4⟩ := id GG
  obtain ⟨c0, c1, c2, c3, c4, c5, c6⟩ := id FF
  have HSK1 := HSK.out w5 hb0
  unfold AV.v at HSK1
  go_upto_region 7 with (go_at_call 11; (with_reducible refine HSK1.mono ?_); rintro e w6 ⟨⟨t, het, htd, hto, -⟩, hb6⟩; rw [AV.v] at het; subst het)
  have hx6 := bl w6 (.cells #[.int .i64 t.gen, .int .i64 t.ep, .int .i64 t.pos, .int .i64 t.seq, .int .i64 t.last, .string t.lab, .slice t.HA t.hs.length t.hc] 26)
  have FT := ac_new w6 t
  have hz6 := hb6.size
  have TI := Lib.hid (AV.Own.inn (OwnH.below hto hx6))
  replace YI := Lib.hid ((YI.out.next hb6).next hx6)
  replace GG := (GG.keep hb6 (by omega)).keep hx6 (by omega)
  replace FF := (FF.keep hb6 (by omega)).keep hx6 (by omega)
  replace FY := (FY.keep hb6 (by omega)).keep hx6 (by omega)
  replace hb0 := bt (bt hb0 hb6) hx6
  have lT : w6.heap.size < (w6.alloc (.cells #[.int .i64 t.gen, .int .i64 t.ep, .int .i64 t.pos, .int .i64 t.seq, .int .i64 t.last, .string t.lab, .slice t.HA t.hs.length t.hc] 26)).heap.size := by simp
  obtain ⟨gT, hgT⟩ : ∃ g, g = w6.heap.size := ⟨_, rfl⟩
  rw [← hgT] at FT lT ⊢
  have hlT : gY < gT := by omega
  clear HSK1 hb6 hx6 hz6 hto hgT lY g0 g1 g2 g3 g4 c0 c1 c2 c3 c4 c5 c6
  generalize w6.alloc (.cells #[.int .i64 t.gen, .int .i64 t.ep, .int .i64 t.pos, .int .i64 t.seq, .int .i64 t.last, .string t.lab, .slice t.HA t.hs.length t.hc] 26) = w7 at *
  obtain ⟨g0, g1, g2, g3, g4⟩ := id GG
  obtain ⟨c0, c1, c2, c3, c4, c5, c6⟩ := id FF
  have hA1 := HA1.out w7 hb0
  unfold AV.v at hA1
  have q0 : (X0 != X0) = false := by simp
  go_upto_region 10 with (go_at_call 8; (with_reducible refine hA1.mono ?_); rintro e w8 ⟨rfl, hb8⟩)
  have hz8 := hb8.size
  replace GG := GG.keep hb8 (by omega)
  replace FF := FF.keep hb8 (by omega)
  replace FY := FY.keep hb8 (by omega)
  replace FT := FT.keep hb8 (by omega)
  replace YI := Lib.hid (YI.out.next hb8)
  replace TI := Lib.hid (TI.out.next hb8)
  replace hb0 := bt hb0 hb8
  clear hb8 hA1 g0 g1 g2 g3 g4 c0 c1 c2 c3 c4 c5 c6
  obtain ⟨g0, g1, g2, g3, g4⟩ := id GG
  obtain ⟨c0, c1, c2, c3, c4, c5, c6⟩ := id FY
  have hA2 := HA2.out y w8 hb0 hyd YI.out
  unfold AV.v at hA2
  go_upto_region 11 with (go_at_call 8; (with_reducible refine hA2.mono ?_); rintro e w9 ⟨rfl, hb9⟩)
  have hz9 := hb9.size
  replace GG := GG.keep hb9 (by omega)
  replace FF := FF.keep hb9 (by omega)
  replace FY := FY.keep hb9 (by omega)
  replace FT := FT.keep hb9 (by omega)
  replace TI := Lib.hid (TI.out.next hb9)
  replace hb0 := bt hb0 hb9
  clear hb9 hA2 g0 g1 g2 g3 g4 c0 c1 c2 c3 c4 c5 c6 YI
  obtain ⟨g0, g1, g2, g3, g4⟩ := id GG
  obtain ⟨c0, c1, c2, c3, c4, c5, c6⟩ := id FT
  have hA3 := HA3.out t w9 hb0 htd TI.out
  unfold AV.v at hA3
  go_upto_region 12 with (go_at_call 8; (with_reducible refine hA3.mono ?_); rintro e w10 ⟨rfl, hb10⟩)
  have hz10 := hb10.size
  have x0 := (FF.keep hb10 (by omega)).c0
  have y0 := (FY.keep hb10 (by omega)).c0
  have t0 := (FT.keep hb10 (by omega)).c0
  replace hb0 := bt hb0 hb10
  have hyg : y.gen = x.gen := (congrArg Anc.gen hyd).trans HGA.out
  have htg : t.gen = x.gen := (congrArg Anc.gen htd).trans HGB.out
  rw [hyg] at y0
  rw [htg] at t0
  have HW1 := Lib.hid (HW.out w10 hb0)
  clear hb10 hA3 g0 g1 g2 g3 g4 c0 c1 c2 c3 c4 c5 c6 TI GG FF FY FT hyg htg hyd htd
  have q5 : (x.gen == x.gen) = true := beq_self_eq_true _
  obtain ⟨rfl, h2, rfl⟩ := HCO.out
  have q1 : ((K : Int) == (K : Int)) = true := beq_self_eq_true _
  have q2 : (((O1 : Int) - 1) == ((P1 : Int) - 1)) = false := beq_eq_false_iff_ne.2 (by omega)
  have q3 : (W0 == W0) = true := beq_self_eq_true _
  clear h2 HCO
  go_wp2_with (go_at_call 15; (with_reducible refine HW1.out.mono ?_); rintro e wz ⟨rfl, hbz⟩)
  go_ret
  exact ⟨rfl, bt hb0 hbz⟩
theorem at_same {d : Int} {P1 O1 : Nat} {i o : Nat} (hP : (P1 : Int) < d + 1) (hO : (O1 : Int) < d + 1) (hi : atP d ((P1 : Int) - 1) = (i : Int)) (ho : atP d ((O1 : Int) - 1) = (o : Int)) : i = o ↔ P1 = O1 := by
  unfold atP at hi ho
  split at hi <;> split at ho <;> omega
theorem is_what {d : Int} {P1 : Nat} (hP : (P1 : Int) < d + 1) : IsWhat d ((P1 : Int) - 1) := by unfold IsWhat; omega
theorem placeStays_law (hV : ValidOk) (hC : CloneOk) (z d s l a : Int) (x : AV) (zn wh ot zz : Int) (w : World) (hT : Tabs w) (hx : x.In w w.heap.size) :
    Calls Tryd.prog 5 #[.agg #[.int .i64 z, .int .i64 d, .int .i64 s, .int .i64 l, .int .i64 a], x.v, .int .i64 zn, .int .i64 wh, .int .i64 ot, .int .i64 zz] w fun e w' => e = .returned (.bool true) ∧ Below w.heap.size w w' := by
  by_cases hh : HeavyA x.d
  · exact ps_heavy z d s l a x zn wh ot zz w hx hh
  by_cases ho : Ok z d s l a
  case neg => exact ps_geo z d s l a x zn wh ot zz w hx hh ho
  by_cases hg : anc.Good z d s l x.d
  case neg => exact ps_bad z d s l a x zn wh ot zz w hx hh ho hg
  obtain ⟨o1, o2, o3, -⟩ := id ho
  have m1 := gmt.wrap_mod zn z (by omega)
  have m2 := gmt.wrap_mod zz z (by omega)
  have m3 := gmt.wrap_mod wh (d + 1) (by omega)
  have m4 := gmt.wrap_mod ot (d + 1) (by omega)
  obtain ⟨J, hJ⟩ : ∃ J : Nat, (IntKind.u64.wrap zn).tmod z = (J : Int) := ⟨_, (Int.toNat_of_nonneg m1.1).symm⟩
  obtain ⟨K, hK⟩ : ∃ J : Nat, (IntKind.u64.wrap zz).tmod z = (J : Int) := ⟨_, (Int.toNat_of_nonneg m2.1).symm⟩
  obtain ⟨P1, hP⟩ : ∃ J : Nat, (IntKind.u64.wrap wh).tmod (d + 1) = (J : Int) := ⟨_, (Int.toNat_of_nonneg m3.1).symm⟩
  obtain ⟨O1, hO⟩ : ∃ J : Nat, (IntKind.u64.wrap ot).tmod (d + 1) = (J : Int) := ⟨_, (Int.toNat_of_nonneg m4.1).symm⟩
  have hJz : (J : Int) < z := by omega
  have hKz : (K : Int) < z := by omega
  have hPd : (P1 : Int) < d + 1 := by omega
  have hOd : (O1 : Int) < d + 1 := by omega
  obtain ⟨h, hh1⟩ := good_zone hg hJz
  obtain ⟨k, hk1⟩ := good_zone hg hKz
  obtain ⟨i, hi, hil⟩ := at_in ho hg hh1 (is_what hPd)
  obtain ⟨q, hq, hql⟩ := at_in ho hg hk1 (is_what hOd)
  obtain ⟨p, hp⟩ : ∃ p, k.ps[q]? = some p := ⟨_, List.getElem?_eq_getElem hql⟩
  obtain ⟨b1, b2⟩ := home_in hg hh1
  have hsame := at_same hPd hOd hi hq
  by_cases hn : h.nx = d + 1 + s
  · exact ps_none hV hC J K P1 O1 z d s l a x zn wh ot zz w hT hx hh ho hg hJ hK hP hO hJz hKz hPd hOd
      (fun W hW => move_g0 hV hC z d s l a x W J _ h (tn hT hW) ho (hx.next hW) hg hh1 (is_what hPd) hn)
      (fun W hW => skip_g0 hV hC z d s l a x W J h (tn hT hW) ho (hx.next hW) hg hh1 hn)
  · have hn' : h.nx < d + 1 + s := by omega
    have cM := fun W (hW : Below w.heap.size w W) => move_g hV hC z d s l a x W J i _ h (tn hT hW) ho (hx.next hW) hg hh1 (is_what hPd) hi hil hn'
    have cS := fun W (hW : Below w.heap.size w W) => skip_g hV hC z d s l a x W J h (tn hT hW) ho (hx.next hW) hg hh1 hn'
    have c1 := fun W (hW : Below w.heap.size w W) => addr_g hV z d s l a x W K q _ p k (tn hT hW) ho (hx.next hW) hg hk1 (is_what hOd) hq hp
    have c3 : ∀ (u : AV) W, Below w.heap.size w W → u.d = skipA x.d J h → u.In W W.heap.size → Calls Tryd.prog 8 #[.agg #[.int .i64 z, .int .i64 d, .int .i64 s, .int .i64 l, .int .i64 a], u.v, .int .i64 K, .int .i64 ((O1 : Int) - 1)] W fun e w' => e = .returned (.tuple #[.int .i64 (slotA z d s l a K p), .int .i64 0]) ∧ Below W.heap.size W w' := fun u W hW hu hin => by
      by_cases hJK : K = J
      · subst hJK
        rw [hh1] at hk1
        obtain rfl := Option.some.inj hk1
        exact addr_g hV z d s l a u W K q _ p { h with nx := h.nx + 1 } (tn hT hW) ho hin (by rw [hu]; exact good_skip hg hh1 hn') (by rw [hu]; exact skip_at hh1) (is_what hOd) hq hp
      · exact addr_g hV z d s l a u W K q _ p k (tn hT hW) ho hin (by rw [hu]; exact good_skip hg hh1 hn') (by rw [hu, skip_other hJK]; exact hk1) (is_what hOd) hq hp
    by_cases hJK : K = J
    · subst hJK
      rw [hh1] at hk1
      obtain rfl := Option.some.inj hk1
      have c2 : ∀ (v : Int), (h.ps.set i h.nx)[q]? = some v → ∀ (u : AV) W, Below w.heap.size w W → u.d = moveA x.d K i h → u.In W W.heap.size → Calls Tryd.prog 8 #[.agg #[.int .i64 z, .int .i64 d, .int .i64 s, .int .i64 l, .int .i64 a], u.v, .int .i64 K, .int .i64 ((O1 : Int) - 1)] W fun e w' => e = .returned (.tuple #[.int .i64 (slotA z d s l a K v), .int .i64 0]) ∧ Below W.heap.size W w' := fun v hv u W hW hu hin =>
        addr_g hV z d s l a u W K q _ v { h with ps := h.ps.set i h.nx, nx := h.nx + 1 } (tn hT hW) ho hin (by rw [hu]; exact good_move hg hh1 hn') (by rw [hu]; exact move_at hh1) (is_what hOd) hq hv
      by_cases hPO : O1 = P1
      · have hiq : i = q := hsame.2 hPO.symm
        refine ps_same hV hC K K P1 O1 z d s l a x zn wh ot zz w hT hx hh ho hg hJ hK hP hO hJz hKz hPd hOd _ _ _ _ (slotA z d s l a K h.nx) cM cS c1 (c2 h.nx (by rw [hiq]; exact List.getElem?_set_self hql)) c3 rfl rfl ⟨rfl, hPO, rfl, ?_⟩
        obtain ⟨-, -, -, k4⟩ := good_home hg hh1
        obtain ⟨hl, rfl⟩ := List.getElem?_eq_some_iff.1 hp
        have := (k4 q hl).1
        unfold slotA
        omega
      · have hiq : i ≠ q := fun e => hPO (hsame.1 e).symm
        exact ps_what hV hC K K P1 O1 z d s l a x zn wh ot zz w hT hx hh ho hg hJ hK hP hO hJz hKz hPd hOd _ _ _ _ (slotA z d s l a K p) cM cS c1 (c2 p (by rw [List.getElem?_set_ne hiq]; exact hp)) c3 rfl rfl ⟨rfl, hPO, rfl⟩
    · exact ps_zone hV hC J K P1 O1 z d s l a x zn wh ot zz w hT hx hh ho hg hJ hK hP hO hJz hKz hPd hOd _ _ _ _ (slotA z d s l a K p) cM cS c1
        (fun u W hW hu hin => addr_g hV z d s l a u W K q _ p k (tn hT hW) ho hin (by rw [hu]; exact good_move hg hh1 hn') (by rw [hu, move_other hJK]; exact hk1) (is_what hOd) hq hp) c3 rfl rfl ⟨hJK, rfl⟩
end Go.Proofs.YthbjfpgcinmjiaaDoor.plc
