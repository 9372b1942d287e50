/-
  The law AnchorSizes: an anchor's bytes, and where its numbers stand in them. Conditions: 'ValidOk', 'CloneOk', 'Tabs'.
-/
import Derived.Test.YtkpbfhjpmhgmoaaDoorAnW
import Derived.Test.YtkpbfhjpmhgmoaaDoorAnMB
import Derived.Test.YtkpbfhjpmhgmoaaDoorPkD
import Derived.Deep.RegionHeld3
import Derived.IntWalk
namespace Go.Proofs.YtkpbfhjpmhgmoaaDoor.anc
open Go.RowKit Go.Lib
open Go.Proofs.YtkpbfhjpmhgmoaaDoor.gmt (Ok five_new rgeo_at)
open Go.Proofs.YtkpbfhjpmhgmoaaDoor.pck (num ref_get)
open Go.Proofs.YtkpbfhjpmhgmoaaDoor.lbl (encL readL labE lab_len ValidOk CloneOk Tabs)

set_option maxRecDepth 100000 in
set_option maxHeartbeats 2000000 in
theorem as_heavy (z d s l a : Int) (x : AV) (w : World) (hx : x.In w w.heap.size) (hh : HeavyA x.d) :
    Calls Tryd.prog 7 #[.agg #[.int .i64 z, .int .i64 d, .int .i64 s, .int .i64 l, .int .i64 a], x.v] w fun e w' => e = .returned (.bool true) ∧ Below w.heap.size w w' := by
  have cH := fun W (hW : Below w.heap.size w W) => heavy_any true x W (hx.next hW) (iff_of_true rfl hh)
  unfold AV.v
  have GG := (g5_new w z d s l a).keep (bl (w.alloc (.cells #[.int .i64 z, .int .i64 d, .int .i64 s, .int .i64 l, .int .i64 a] 23)) (.cells #[.int .i64 x.gen, .int .i64 x.ep, .int .i64 x.pos, .int .i64 x.seq, .int .i64 x.last, .string x.lab, .slice x.HA x.hs.length x.hc] 26)) (by simp)
  have FF := ac_new (w.alloc (.cells #[.int .i64 z, .int .i64 d, .int .i64 s, .int .i64 l, .int .i64 a] 23)) x
  have hb0 := kal (bl w (.cells #[.int .i64 z, .int .i64 d, .int .i64 s, .int .i64 l, .int .i64 a] 23)) (.cells #[.int .i64 x.gen, .int .i64 x.ep, .int .i64 x.pos, .int .i64 x.seq, .int .i64 x.last, .string x.lab, .slice x.HA x.hs.length x.hc] 26)
  rw [show (w.alloc (.cells #[.int .i64 z, .int .i64 d, .int .i64 s, .int .i64 l, .int .i64 a] 23)).heap.size = w.heap.size + 1 by simp] at FF
  have l1 : w.heap.size + 1 < ((w.alloc (.cells #[.int .i64 z, .int .i64 d, .int .i64 s, .int .i64 l, .int .i64 a] 23)).alloc (.cells #[.int .i64 x.gen, .int .i64 x.ep, .int .i64 x.pos, .int .i64 x.seq, .int .i64 x.last, .string x.lab, .slice x.HA x.hs.length x.hc] 26)).heap.size := by simp
  unfold AV.v at cH
  clear hx hh
  go_enter Tryd.func7, Tryd.ntmps7
  go_upto_region 1 with fail
  generalize (w.alloc (.cells #[.int .i64 z, .int .i64 d, .int .i64 s, .int .i64 l, .int .i64 a] 23)).alloc (.cells #[.int .i64 x.gen, .int .i64 x.ep, .int .i64 x.pos, .int .i64 x.seq, .int .i64 x.last, .string x.lab, .slice x.HA x.hs.length x.hc] 26) = w0 at *
  obtain ⟨c0, c1, c2, c3, c4, c5, c6⟩ := id FF
  obtain ⟨g0, g1, g2, g3, g4⟩ := id GG
  go_wp2_with (first
    | (go_at_call 9; (with_reducible refine (cH _ hb0).mono ?_); rintro e wq ⟨rfl, hbq⟩; replace FF := FF.keep hbq (by omega); replace GG := GG.keep hbq (by omega); replace l1 := Nat.lt_of_lt_of_le l1 hbq.size; clear c0 c1 c2 c3 c4 c5 c6 g0 g1 g2 g3 g4; obtain ⟨c0, c1, c2, c3, c4, c5, c6⟩ := id FF; obtain ⟨g0, g1, g2, g3, g4⟩ := id GG; replace hb0 := bt hb0 hbq; clear hbq))
  go_ret
  exact ⟨rfl, hb0⟩
set_option maxRecDepth 100000 in
set_option maxHeartbeats 2000000 in
theorem as_geo (z d s l a : Int) (x : AV) (w : World) (hx : x.In w w.heap.size) (hh : ¬ HeavyA x.d) (ho : ¬ Ok z d s l a) :
    Calls Tryd.prog 7 #[.agg #[.int .i64 z, .int .i64 d, .int .i64 s, .int .i64 l, .int .i64 a], x.v] w fun e w' => e = .returned (.bool true) ∧ Below w.heap.size w w' := by
  have cH := fun W (hW : Below w.heap.size w W) => heavy_any false x W (hx.next hW) (iff_of_false Bool.false_ne_true hh)
  have cG := fun W => rgeo_at false z d s l a W (iff_of_false Bool.false_ne_true ho)
  unfold AV.v
  have GG := (g5_new w z d s l a).keep (bl (w.alloc (.cells #[.int .i64 z, .int .i64 d, .int .i64 s, .int .i64 l, .int .i64 a] 23)) (.cells #[.int .i64 x.gen, .int .i64 x.ep, .int .i64 x.pos, .int .i64 x.seq, .int .i64 x.last, .string x.lab, .slice x.HA x.hs.length x.hc] 26)) (by simp)
  have FF := ac_new (w.alloc (.cells #[.int .i64 z, .int .i64 d, .int .i64 s, .int .i64 l, .int .i64 a] 23)) x
  have hb0 := kal (bl w (.cells #[.int .i64 z, .int .i64 d, .int .i64 s, .int .i64 l, .int .i64 a] 23)) (.cells #[.int .i64 x.gen, .int .i64 x.ep, .int .i64 x.pos, .int .i64 x.seq, .int .i64 x.last, .string x.lab, .slice x.HA x.hs.length x.hc] 26)
  rw [show (w.alloc (.cells #[.int .i64 z, .int .i64 d, .int .i64 s, .int .i64 l, .int .i64 a] 23)).heap.size = w.heap.size + 1 by simp] at FF
  have l1 : w.heap.size + 1 < ((w.alloc (.cells #[.int .i64 z, .int .i64 d, .int .i64 s, .int .i64 l, .int .i64 a] 23)).alloc (.cells #[.int .i64 x.gen, .int .i64 x.ep, .int .i64 x.pos, .int .i64 x.seq, .int .i64 x.last, .string x.lab, .slice x.HA x.hs.length x.hc] 26)).heap.size := by simp
  unfold AV.v at cH
  clear hx hh ho
  go_enter Tryd.func7, Tryd.ntmps7
  go_upto_region 1 with fail
  generalize (w.alloc (.cells #[.int .i64 z, .int .i64 d, .int .i64 s, .int .i64 l, .int .i64 a] 23)).alloc (.cells #[.int .i64 x.gen, .int .i64 x.ep, .int .i64 x.pos, .int .i64 x.seq, .int .i64 x.last, .string x.lab, .slice x.HA x.hs.length x.hc] 26) = w0 at *
  obtain ⟨c0, c1, c2, c3, c4, c5, c6⟩ := id FF
  obtain ⟨g0, g1, g2, g3, g4⟩ := id GG
  go_wp2_with (first
    | (go_at_call 9; (with_reducible refine (cH _ hb0).mono ?_); rintro e wq ⟨rfl, hbq⟩; replace FF := FF.keep hbq (by omega); replace GG := GG.keep hbq (by omega); replace l1 := Nat.lt_of_lt_of_le l1 hbq.size; clear c0 c1 c2 c3 c4 c5 c6 g0 g1 g2 g3 g4; obtain ⟨c0, c1, c2, c3, c4, c5, c6⟩ := id FF; obtain ⟨g0, g1, g2, g3, g4⟩ := id GG; replace hb0 := bt hb0 hbq; clear hbq)
    | (go_at_call 14; (with_reducible refine (cG _).mono ?_); rintro e wq ⟨rfl, hbq⟩; replace FF := FF.keep hbq (by omega); replace GG := GG.keep hbq (by omega); replace l1 := Nat.lt_of_lt_of_le l1 hbq.size; clear c0 c1 c2 c3 c4 c5 c6 g0 g1 g2 g3 g4; obtain ⟨c0, c1, c2, c3, c4, c5, c6⟩ := id FF; obtain ⟨g0, g1, g2, g3, g4⟩ := id GG; replace hb0 := bt hb0 hbq; clear hbq))
  go_ret
  exact ⟨rfl, hb0⟩
set_option maxRecDepth 100000 in
set_option maxHeartbeats 2000000 in
theorem as_bad (z d s l a : Int) (x : AV) (w : World) (hx : x.In w w.heap.size) (hh : ¬ HeavyA x.d) (ho : Ok z d s l a) (hg : ¬ Good z d s l x.d) :
    Calls Tryd.prog 7 #[.agg #[.int .i64 z, .int .i64 d, .int .i64 s, .int .i64 l, .int .i64 a], x.v] w fun e w' => e = .returned (.bool true) ∧ Below w.heap.size w w' := by
  obtain ⟨t1, t2, t3⟩ := light hh
  have cH := fun W (hW : Below w.heap.size w W) => heavy_any false x W (hx.next hW) (iff_of_false Bool.false_ne_true hh)
  have cG := fun W => rgeo_at true z d s l a W (iff_of_true rfl ho)
  have cR := fun W (hW : Below w.heap.size w W) => right_p z d s l a false x W ho (hx.next hW) (by omega) (fun r hr => by have := t3 r hr; omega) (by omega) (iff_of_false Bool.false_ne_true hg)
  unfold AV.v
  have GG := (g5_new w z d s l a).keep (bl (w.alloc (.cells #[.int .i64 z, .int .i64 d, .int .i64 s, .int .i64 l, .int .i64 a] 23)) (.cells #[.int .i64 x.gen, .int .i64 x.ep, .int .i64 x.pos, .int .i64 x.seq, .int .i64 x.last, .string x.lab, .slice x.HA x.hs.length x.hc] 26)) (by simp)
  have FF := ac_new (w.alloc (.cells #[.int .i64 z, .int .i64 d, .int .i64 s, .int .i64 l, .int .i64 a] 23)) x
  have hb0 := kal (bl w (.cells #[.int .i64 z, .int .i64 d, .int .i64 s, .int .i64 l, .int .i64 a] 23)) (.cells #[.int .i64 x.gen, .int .i64 x.ep, .int .i64 x.pos, .int .i64 x.seq, .int .i64 x.last, .string x.lab, .slice x.HA x.hs.length x.hc] 26)
  rw [show (w.alloc (.cells #[.int .i64 z, .int .i64 d, .int .i64 s, .int .i64 l, .int .i64 a] 23)).heap.size = w.heap.size + 1 by simp] at FF
  have l1 : w.heap.size + 1 < ((w.alloc (.cells #[.int .i64 z, .int .i64 d, .int .i64 s, .int .i64 l, .int .i64 a] 23)).alloc (.cells #[.int .i64 x.gen, .int .i64 x.ep, .int .i64 x.pos, .int .i64 x.seq, .int .i64 x.last, .string x.lab, .slice x.HA x.hs.length x.hc] 26)).heap.size := by simp
  unfold AV.v at cH cR
  clear hx hh ho hg t1 t2 t3
  go_enter Tryd.func7, Tryd.ntmps7
  go_upto_region 1 with fail
  generalize (w.alloc (.cells #[.int .i64 z, .int .i64 d, .int .i64 s, .int .i64 l, .int .i64 a] 23)).alloc (.cells #[.int .i64 x.gen, .int .i64 x.ep, .int .i64 x.pos, .int .i64 x.seq, .int .i64 x.last, .string x.lab, .slice x.HA x.hs.length x.hc] 26) = w0 at *
  obtain ⟨c0, c1, c2, c3, c4, c5, c6⟩ := id FF
  obtain ⟨g0, g1, g2, g3, g4⟩ := id GG
  go_wp2_with (first
    | (go_at_call 9; (with_reducible refine (cH _ hb0).mono ?_); rintro e wq ⟨rfl, hbq⟩; replace FF := FF.keep hbq (by omega); replace GG := GG.keep hbq (by omega); replace l1 := Nat.lt_of_lt_of_le l1 hbq.size; clear c0 c1 c2 c3 c4 c5 c6 g0 g1 g2 g3 g4; obtain ⟨c0, c1, c2, c3, c4, c5, c6⟩ := id FF; obtain ⟨g0, g1, g2, g3, g4⟩ := id GG; replace hb0 := bt hb0 hbq; clear hbq)
    | (go_at_call 14; (with_reducible refine (cG _).mono ?_); rintro e wq ⟨rfl, hbq⟩; replace FF := FF.keep hbq (by omega); replace GG := GG.keep hbq (by omega); replace l1 := Nat.lt_of_lt_of_le l1 hbq.size; clear c0 c1 c2 c3 c4 c5 c6 g0 g1 g2 g3 g4; obtain ⟨c0, c1, c2, c3, c4, c5, c6⟩ := id FF; obtain ⟨g0, g1, g2, g3, g4⟩ := id GG; replace hb0 := bt hb0 hbq; clear hbq)
    | (go_at_call 21; (with_reducible refine (cR _ hb0).mono ?_); rintro e wq ⟨rfl, hbq⟩; replace FF := FF.keep hbq (by omega); replace GG := GG.keep hbq (by omega); replace l1 := Nat.lt_of_lt_of_le l1 hbq.size; clear c0 c1 c2 c3 c4 c5 c6 g0 g1 g2 g3 g4; obtain ⟨c0, c1, c2, c3, c4, c5, c6⟩ := id FF; obtain ⟨g0, g1, g2, g3, g4⟩ := id GG; replace hb0 := bt hb0 hbq; clear hbq))
  go_ret
  exact ⟨rfl, hb0⟩
set_option maxRecDepth 100000 in
set_option maxHeartbeats 8000000 in
theorem as_good (hV : ValidOk) (hC : CloneOk) (z d s l a : Int) (x : AV) (w : World) (hT : Tabs w) (hx : x.In w w.heap.size) (hh : ¬ HeavyA x.d) (ho : Ok z d s l a) (hg : Good z d s l x.d) :
    Calls Tryd.prog 7 #[.agg #[.int .i64 z, .int .i64 d, .int .i64 s, .int .i64 l, .int .i64 a], x.v] w fun e w' => e = .returned (.bool true) ∧ Below w.heap.size w w' := by
  obtain ⟨t1, t2, t3⟩ := light hh
  have HT := Lib.hid hT
  have cH := fun W (hW : Below w.heap.size w W) => heavy_any false x W (hx.next hW) (iff_of_false Bool.false_ne_true hh)
  have cG := fun W => rgeo_at true z d s l a W (iff_of_true rfl ho)
  have cR := fun W (hW : Below w.heap.size w W) => right_p z d s l a true x W ho (hx.next hW) (by omega) (fun r hr => by have := t3 r hr; omega) (by omega) (iff_of_true rfl hg)
  have hab := good_b ho hg
  have hl24 : x.lab.size ≤ 24 := by have := lab_len hg.2.2.2.2.2.2.1; rwa [size_list] at this
  obtain ⟨q, hq⟩ : ∃ q, (encA x.d).length = q := ⟨_, rfl⟩
  have hq2 := encA_len hab
  rw [hq] at hq2
  have hq2' : q = 18 + x.lab.size + z.toNat * (d.toNat + 6) := hq2
  obtain ⟨o1, o2, -⟩ := id ho
  have hprod : ((z.toNat * (d.toNat + 6) : Nat) : Int) = z * (d + 6) := by rw [Int.natCast_mul, Int.natCast_add]; congr 1 <;> omega
  have hp1 : 0 ≤ z * (d + 6) := by rw [← hprod]; omega
  have hp2 : z * (d + 6) ≤ 40 := by
    have := Int.mul_le_mul (show z ≤ 4 by omega) (show d + 6 ≤ 10 by omega) (by omega) (by omega)
    omega
  have qI : (q : Int) = 18 + (x.lab.size : Int) + z * (d + 6) := by omega
  have cB := fun W (hW : Below w.heap.size w W) => bytes_yes hV z d s l a x W (tn HT.out hW) ho (hx.next hW) hg
  rw [hq] at cB
  have hlen : (x.hs.length : Int) = z := by have := hg.2.2.2.2.2.2.2.1; have e : x.d.hs.length = x.hs.length := hds_length x.hs; rw [e] at this; exact this
  have hq18 : 18 + 7 ≤ q := by
    have := Nat.mul_le_mul (show 1 ≤ z.toNat by omega) (show 7 ≤ d.toNat + 6 by omega)
    omega
  have hq100 : q ≤ 100 := by omega
  obtain ⟨N1, N2, N3, N4, -⟩ := enc_nums hab
  have N5 := enc_byte hab (by omega)
  have N6 := enc_lab hl24 (show 17 < (encA x.d).length by omega)
  have hk : x.hs.length - 1 < x.hs.length := by omega
  obtain ⟨b0, o0, u, hHA, hb00, -, -, u2, -, -, -, u3⟩ := home_at hx.hh hx.hi hk
  have N7 := enc_root hab u.d (by show (hds x.hs)[(hds x.hs).length - 1]? = _; rw [hds_length]; exact u3) q hq
  obtain ⟨E, hE⟩ : ∃ E, E = encA x.d := ⟨_, rfl⟩
  rw [← hE] at N1 N2 N3 N4 N7 hq cB
  have N5' : ∃ b, E[16]? = some b ∧ (b.toNat : Int) = x.pos := ⟨_, by rw [hE]; exact List.getElem?_eq_getElem (by omega), N5⟩
  have N6' : ∃ b, E[17]? = some b ∧ (b.toNat : Int) = (x.lab.size : Int) := ⟨_, by rw [hE]; exact List.getElem?_eq_getElem (by omega), N6⟩
  have q1 : ((q : Int) != 18 + (x.lab.size : Int) + z * (d + 6)) = false := by rw [← qI]; exact bne_self_eq_false _
  have HQI := Lib.hid qI
  have HN1 := Lib.hid N1
  have HN2 := Lib.hid N2
  have HN3 := Lib.hid N3
  have HN4 := Lib.hid N4
  have HN5 := Lib.hid N5'
  have HN6 := Lib.hid N6'
  have HN7 := Lib.hid N7
  have HQ := Lib.hid hq
  have HL := Lib.hid hlen
  unfold AV.v at cB
  have HB := Lib.hid cB
  have HU := Lib.hid (show ∀ W, Below w.heap.size w W → W.cell? ⟨b0, o0 + (x.hs.length - 1) * 3 + 2, none⟩ = some (.int .i64 u.rt) from fun W hW => kst hW hb00 u2)
  have hxc : x.hs.length ≤ 9223372036854775807 := by omega
  unfold AV.v
  have GG := (g5_new w z d s l a).keep (bl (w.alloc (.cells #[.int .i64 z, .int .i64 d, .int .i64 s, .int .i64 l, .int .i64 a] 23)) (.cells #[.int .i64 x.gen, .int .i64 x.ep, .int .i64 x.pos, .int .i64 x.seq, .int .i64 x.last, .string x.lab, .slice x.HA x.hs.length x.hc] 26)) (by simp)
  have FF := ac_new (w.alloc (.cells #[.int .i64 z, .int .i64 d, .int .i64 s, .int .i64 l, .int .i64 a] 23)) x
  have hb0 := kal (bl w (.cells #[.int .i64 z, .int .i64 d, .int .i64 s, .int .i64 l, .int .i64 a] 23)) (.cells #[.int .i64 x.gen, .int .i64 x.ep, .int .i64 x.pos, .int .i64 x.seq, .int .i64 x.last, .string x.lab, .slice x.HA x.hs.length x.hc] 26)
  rw [show (w.alloc (.cells #[.int .i64 z, .int .i64 d, .int .i64 s, .int .i64 l, .int .i64 a] 23)).heap.size = w.heap.size + 1 by simp] at FF
  have l1 : w.heap.size + 1 < ((w.alloc (.cells #[.int .i64 z, .int .i64 d, .int .i64 s, .int .i64 l, .int .i64 a] 23)).alloc (.cells #[.int .i64 x.gen, .int .i64 x.ep, .int .i64 x.pos, .int .i64 x.seq, .int .i64 x.last, .string x.lab, .slice x.HA x.hs.length x.hc] 26)).heap.size := by simp
  unfold AV.v at cH cR
  clear hx hh ho hg t1 t3 hab hq2 hq2' hprod hT cB hq hE N1 N2 N3 N4 N5 N5' N6 N6' N7 u3 qI hlen u2 hb00
  have HHA := Lib.hid hHA
  clear hHA
  go_enter Tryd.func7, Tryd.ntmps7
  go_upto_region 1 with fail
  generalize (w.alloc (.cells #[.int .i64 z, .int .i64 d, .int .i64 s, .int .i64 l, .int .i64 a] 23)).alloc (.cells #[.int .i64 x.gen, .int .i64 x.ep, .int .i64 x.pos, .int .i64 x.seq, .int .i64 x.last, .string x.lab, .slice x.HA x.hs.length x.hc] 26) = w0 at *
  obtain ⟨c0, c1, c2, c3, c4, c5, c6⟩ := id FF
  obtain ⟨g0, g1, g2, g3, g4⟩ := id GG
  go_upto_region 6 with (first
    | (go_at_call 9; (with_reducible refine (cH _ hb0).mono ?_); rintro e wq ⟨rfl, hbq⟩; replace FF := FF.keep hbq (by omega); replace GG := GG.keep hbq (by omega); replace l1 := Nat.lt_of_lt_of_le l1 hbq.size; clear c0 c1 c2 c3 c4 c5 c6 g0 g1 g2 g3 g4; obtain ⟨c0, c1, c2, c3, c4, c5, c6⟩ := id FF; obtain ⟨g0, g1, g2, g3, g4⟩ := id GG; replace hb0 := bt hb0 hbq; clear hbq)
    | (go_at_call 14; (with_reducible refine (cG _).mono ?_); rintro e wq ⟨rfl, hbq⟩; replace FF := FF.keep hbq (by omega); replace GG := GG.keep hbq (by omega); replace l1 := Nat.lt_of_lt_of_le l1 hbq.size; clear c0 c1 c2 c3 c4 c5 c6 g0 g1 g2 g3 g4; obtain ⟨c0, c1, c2, c3, c4, c5, c6⟩ := id FF; obtain ⟨g0, g1, g2, g3, g4⟩ := id GG; replace hb0 := bt hb0 hbq; clear hbq)
    | (go_at_call 21; (with_reducible refine (cR _ hb0).mono ?_); rintro e wq ⟨rfl, hbq⟩; replace FF := FF.keep hbq (by omega); replace GG := GG.keep hbq (by omega); replace l1 := Nat.lt_of_lt_of_le l1 hbq.size; clear c0 c1 c2 c3 c4 c5 c6 g0 g1 g2 g3 g4; obtain ⟨c0, c1, c2, c3, c4, c5, c6⟩ := id FF; obtain ⟨g0, g1, g2, g3, g4⟩ := id GG; replace hb0 := bt hb0 hbq; clear hbq)
    | (go_at_call 12; (with_reducible refine (HB.out _ hb0).mono ?_); rintro e wB ⟨⟨X5, y5, rfl, -, p5⟩, hbq⟩; replace FF := FF.keep hbq (by omega); replace GG := GG.keep hbq (by omega); replace l1 := Nat.lt_of_lt_of_le l1 hbq.size; clear c0 c1 c2 c3 c4 c5 c6 g0 g1 g2 g3 g4; obtain ⟨c0, c1, c2, c3, c4, c5, c6⟩ := id FF; obtain ⟨g0, g1, g2, g3, g4⟩ := id GG; replace hb0 := bt hb0 hbq; clear hbq))
  obtain ⟨g, c9, hv9, k5, k6, -, -⟩ := p5.at (by have := HQ.out; omega)
  simp only [Value.slice.injEq] at hv9
  obtain ⟨rfl, -, rfl⟩ := hv9
  rw [HQ.out] at k5
  unfold maxLen at k6
  have hE := own_slh p5
  obtain ⟨b16, B16, M16⟩ := HN5.out
  obtain ⟨b17, B17, M17⟩ := HN6.out
  have e16 : wB.cell? ⟨g, 16, none⟩ = some (.int .u8 x.pos) := by
    have h := Own.cell p5 16 (by have := HQ.out; omega)
    rw [List.getElem?_eq_getElem (by have := HQ.out; omega)] at B16
    rw [h, Option.some.inj B16, ← M16]
  have e17 : wB.cell? ⟨g, 17, none⟩ = some (.int .u8 (x.lab.size : Int)) := by
    have h := Own.cell p5 17 (by have := HQ.out; omega)
    rw [List.getElem?_eq_getElem (by have := HQ.out; omega)] at B17
    rw [h, Option.some.inj B17, ← M17]
  have cg : ∀ (k : Nat) (n : Int), k + 4 ≤ q → (num ((E.drop k).take 4) : Int) = n → ∀ W, Below wB.heap.size wB W → Calls Tryd.prog 26 #[.slice (some ⟨g, k, none⟩) (q - k) (y5 - k), .int .i64 4] W fun e w' => e = .returned (.int .i64 n) ∧ W = w' := fun k n hk hn W hW => by
    have h := ((hE.drop k).below hW).sl
    rw [Nat.zero_add] at h
    have := ref_get 4 (q - k) _ (y5 - k) _ (E.drop k) W (by omega) (by rw [List.length_drop, HQ.out]) (by omega) h
    rw [hn] at this
    exact this
  have d0 := cg 0 x.gen (by omega) (by rw [List.drop_zero]; exact HN1.out)
  have d4 := cg 4 x.ep (by omega) HN2.out
  have d8 := cg 8 x.seq (by omega) HN3.out
  have d12 := cg 12 x.last (by omega) HN4.out
  have dq := cg (q - 4) u.rt (by omega) HN7.out
  simp only [Nat.sub_zero] at d0
  have D0 := Lib.hid d0
  have D4 := Lib.hid d4
  have D8 := Lib.hid d8
  have D12 := Lib.hid d12
  have DQ := Lib.hid dq
  have hroot := HU.out _ hb0
  have lg : g < wB.heap.size := by
    obtain ⟨bb, oo, h1, -, h2, -⟩ := hE (by have := HQ.out; omega)
    simp only [Option.some.injEq, Addr.mk.injEq] at h1
    rw [h1.1]
    exact h2
  have lr : b0 < wB.heap.size := World.block_lt_of_cell? wB _ hroot
  have hA := HHA.out
  rw [hA] at c6
  have hpos : 0 ≤ x.pos ∧ x.pos ≤ 255 := by have h2 := b16.toNat_lt; omega
  clear B16 M16 B17 M17
  have hzl : (z - 1).toNat = x.hs.length - 1 := by have := HL.out; omega
  have hzl2 : z - 1 < (x.hs.length : Int) := by have := HL.out; omega
  have hzl3 : 0 ≤ z - 1 := by omega
  have hq4 : ((q : Int) - 4).toNat = q - 4 := by omega
  have hn4 : ¬ y5 = 4 := by omega
  have hn8 : ¬ y5 = 8 := by omega
  have hn12 : ¬ y5 = 12 := by omega
  have hnq : ¬ y5 = q - 4 := by omega
  have b1' : (4 : Int) ≤ (q : Int) := by omega
  have b2' : (4 : Int) ≤ (y5 : Int) := by omega
  have b3' : (8 : Int) ≤ (q : Int) := by omega
  have b4' : (8 : Int) ≤ (y5 : Int) := by omega
  have b5' : (12 : Int) ≤ (q : Int) := by omega
  have b6' : (12 : Int) ≤ (y5 : Int) := by omega
  have b7' : (16 : Int) < (q : Int) := by omega
  have b8' : (17 : Int) < (q : Int) := by omega
  have b9' : 0 ≤ (q : Int) - 4 := by omega
  have ba' : (q : Int) - 4 ≤ (q : Int) := by omega
  have bb' : (q : Int) - 4 ≤ (y5 : Int) := by omega
  have w3' : IntKind.i64.wrap x.pos = x.pos := IntWalk.i64_in _ (by omega)
  have w4' : IntKind.i64.wrap (x.lab.size : Int) = (x.lab.size : Int) := IntWalk.i64_in _ (by omega)
  have w1' : IntKind.i64.wrap ((q : Int) - 4) = (q : Int) - 4 := IntWalk.i64_in _ (by omega)
  have w2' : IntKind.i64.wrap (z - 1) = z - 1 := IntWalk.i64_in _ (by omega)
  have cW := Lib.hid (show ∀ W, Below wB.heap.size wB W → Calls Tryd.prog 17 #[] W fun e w' => e = .returned (.bool true) ∧ Below W.heap.size W w' from fun W hW => wk_anc hV hC W (tn HT.out (bt hb0 hW)))
  have HF := Lib.hid (show ∀ W, Below wB.heap.size wB W → W.cell? ⟨g, 16, none⟩ = some (.int .u8 x.pos) ∧ W.cell? ⟨g, 17, none⟩ = some (.int .u8 (x.lab.size : Int)) ∧ W.cell? ⟨w.heap.size + 1, 0, none⟩ = some (.int .i64 x.gen) ∧ W.cell? ⟨w.heap.size + 1, 1, none⟩ = some (.int .i64 x.ep) ∧ W.cell? ⟨w.heap.size + 1, 2, none⟩ = some (.int .i64 x.pos) ∧ W.cell? ⟨w.heap.size + 1, 3, none⟩ = some (.int .i64 x.seq) ∧ W.cell? ⟨w.heap.size + 1, 4, none⟩ = some (.int .i64 x.last) ∧ W.cell? ⟨w.heap.size + 1, 5, none⟩ = some (.string x.lab) ∧ W.cell? ⟨w.heap.size + 1, 6, none⟩ = some (.slice (some ⟨b0, o0, none⟩) x.hs.length x.hc) ∧ W.cell? ⟨w.heap.size, 0, none⟩ = some (.int .i64 z) ∧ W.cell? ⟨b0, o0 + (x.hs.length - 1) * 3 + 2, none⟩ = some (.int .i64 u.rt) ∧ Below wB.heap.size wB W from fun W h => ⟨kst h lg e16, kst h lg e17, kst h l1 c0, kst h l1 c1, kst h l1 c2, kst h l1 c3, kst h l1 c4, kst h l1 c5, kst h l1 c6, kst h (by omega) g0, kst h lr hroot, h⟩)
  clear cg p5 hE cH cG cR HB HN1 HN2 HN3 HN4 HN5 HN6 HN7 HU HHA hA d0 d4 d8 d12 dq e16 e17 c0 c1 c2 c3 c4 c5 c6 g0 g1 g2 g3 g4 hroot FF GG
  simp only [List.append_eq, List.cons_append, List.nil_append]
  go_region_held3 (fun W => W.cell? ⟨g, 16, none⟩ = some (.int .u8 x.pos) ∧ W.cell? ⟨g, 17, none⟩ = some (.int .u8 (x.lab.size : Int)) ∧ W.cell? ⟨w.heap.size + 1, 0, none⟩ = some (.int .i64 x.gen) ∧ W.cell? ⟨w.heap.size + 1, 1, none⟩ = some (.int .i64 x.ep) ∧ W.cell? ⟨w.heap.size + 1, 2, none⟩ = some (.int .i64 x.pos) ∧ W.cell? ⟨w.heap.size + 1, 3, none⟩ = some (.int .i64 x.seq) ∧ W.cell? ⟨w.heap.size + 1, 4, none⟩ = some (.int .i64 x.last) ∧ W.cell? ⟨w.heap.size + 1, 5, none⟩ = some (.string x.lab) ∧ W.cell? ⟨w.heap.size + 1, 6, none⟩ = some (.slice (some ⟨b0, o0, none⟩) x.hs.length x.hc) ∧ W.cell? ⟨w.heap.size, 0, none⟩ = some (.int .i64 z) ∧ W.cell? ⟨b0, o0 + (x.hs.length - 1) * 3 + 2, none⟩ = some (.int .i64 u.rt) ∧ Below wB.heap.size wB W)
    ((first
      | exact HF.out _ (below_dr (Below.refl _ _))
      | exact HF.out _ hbS
      | fail))
    (first
      | (go_at_call 26; (with_reducible refine (D0.out _ (below_dr (Below.refl _ _))).mono ?_); rintro e wq ⟨rfl, rfl⟩)
      | (go_at_call 26; (with_reducible refine (D4.out _ (below_dr (Below.refl _ _))).mono ?_); rintro e wq ⟨rfl, rfl⟩)
      | (go_at_call 26; (with_reducible refine (D8.out _ (below_dr (Below.refl _ _))).mono ?_); rintro e wq ⟨rfl, rfl⟩)
      | (go_at_call 26; (with_reducible refine (D12.out _ (below_dr (Below.refl _ _))).mono ?_); rintro e wq ⟨rfl, rfl⟩)
      | (go_at_call 26; (with_reducible refine (DQ.out _ (below_dr (Below.refl _ _))).mono ?_); rintro e wq ⟨rfl, rfl⟩)
      | (go_at_call 17; (with_reducible refine (cW.out _ (below_dr (Below.refl _ _))).mono ?_); rintro e wZ ⟨rfl, hbZ⟩; have hbS := bt (below_dr (Below.refl wB.heap.size wB)) hbZ)
      | fail)
  go_wp2_with fail
  go_ret
  exact ⟨rfl, bt hb0 hbS⟩
theorem anchorSizes_law (hV : ValidOk) (hC : CloneOk) (z d s l a : Int) (x : AV) (w : World) (hT : Tabs w) (hx : x.In w w.heap.size) :
    Calls Tryd.prog 7 #[.agg #[.int .i64 z, .int .i64 d, .int .i64 s, .int .i64 l, .int .i64 a], x.v] w fun e w' => e = .returned (.bool true) ∧ Below w.heap.size w w' := by
  by_cases hh : HeavyA x.d
  · exact as_heavy z d s l a x w hx hh
  · by_cases ho : Ok z d s l a
    · by_cases hg : Good z d s l x.d
      · exact as_good hV hC z d s l a x w hT hx hh ho hg
      · exact as_bad z d s l a x w hx hh ho hg
    · exact as_geo z d s l a x w hx hh ho
end Go.Proofs.YtkpbfhjpmhgmoaaDoor.anc
