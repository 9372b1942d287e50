/-
  The law AnchorOthers: an anchor of one geometry, held against another one. Conditions: 'ValidOk', 'CloneOk', 'Tabs'.
-/
import Derived.Test.YtkpbfhjpmhgmoaaDoorAnW
import Derived.Deep.QuietTactic
import Derived.BigQuiet
import Derived.IntWalk
namespace Go.Proofs.YtkpbfhjpmhgmoaaDoor.anc
open Go.RowKit Go.Lib
open Go.Proofs.YtkpbfhjpmhgmoaaDoor.gmt (Ok five_new rgeo_at)
open Go.Proofs.YtkpbfhjpmhgmoaaDoor.lbl (encL readL labE lab_len ValidOk CloneOk Tabs)

/-- What fits another geometry. -/
def FitsA (z d z2 d2 s2 l2 : Int) (x : Anc) : Prop := (z = z2 ∧ d = d2 ∧ x.pos < l2) ∧ ∀ h ∈ x.hs, h.nx ≤ d2 + 1 + s2
theorem fits_good {z d s l z2 d2 s2 l2 : Int} {x : Anc} (hz1 : 1 ≤ z) (hg : Good z d s l x) : FitsA z d z2 d2 s2 l2 x ↔ Good z2 d2 s2 l2 x := by
  obtain ⟨h1, h2, h3, h4, h5, h6, h7, h8, h9⟩ := hg
  constructor
  · rintro ⟨⟨rfl, rfl, hp⟩, hn⟩
    refine ⟨h1, h2, h3, h4, h5, ⟨h6.1, by omega⟩, h7, h8, fun h hh => ?_⟩
    obtain ⟨k1, k2, k3, k4⟩ := h9 h hh
    exact ⟨k1, ⟨k2.1, hn h hh⟩, k3, k4⟩
  · rintro ⟨-, -, -, -, -, g6, -, g8, g9⟩
    have hz : z = z2 := h8.symm.trans g8
    refine ⟨⟨hz, ?_, by omega⟩, fun h hh => (g9 h hh).2.1.2⟩
    cases hs : x.hs with
    | nil =>
      rw [hs] at h8
      exact absurd h8 (by simp; omega)
    | cons h t =>
      have hm : h ∈ x.hs := by rw [hs]; exact List.mem_cons_self
      have e1 := (h9 h hm).1
      have e2 := (g9 h hm).1
      omega
set_option maxRecDepth 100000 in
set_option maxHeartbeats 2000000 in
theorem ao_heavy (z d s l a z2 d2 s2 l2 a2 : Int) (x : AV) (w : World) (hx : x.In w w.heap.size) (hh : HeavyA x.d) :
    Calls Tryd.prog 8 #[.agg #[.int .i64 z, .int .i64 d, .int .i64 s, .int .i64 l, .int .i64 a], .agg #[.int .i64 z2, .int .i64 d2, .int .i64 s2, .int .i64 l2, .int .i64 a2], x.v] w fun e w' => e = .returned (.bool true) ∧ Below w.heap.size w w' := by
  have cH := fun W (hW : Below w.heap.size w W) => heavy_any true x W (hx.next hW) (iff_of_true rfl hh)
  unfold AV.v
  have GG := ((g5_new w z d s l a).keep (bl (w.alloc (.cells #[.int .i64 z, .int .i64 d, .int .i64 s, .int .i64 l, .int .i64 a] 23)) (.cells #[.int .i64 z2, .int .i64 d2, .int .i64 s2, .int .i64 l2, .int .i64 a2] 23)) (by simp)).keep (bl ((w.alloc (.cells #[.int .i64 z, .int .i64 d, .int .i64 s, .int .i64 l, .int .i64 a] 23)).alloc (.cells #[.int .i64 z2, .int .i64 d2, .int .i64 s2, .int .i64 l2, .int .i64 a2] 23)) (.cells #[.int .i64 x.gen, .int .i64 x.ep, .int .i64 x.pos, .int .i64 x.seq, .int .i64 x.last, .string x.lab, .slice x.HA x.hs.length x.hc] 26)) (by simp; omega)
  have GH := (g5_new (w.alloc (.cells #[.int .i64 z, .int .i64 d, .int .i64 s, .int .i64 l, .int .i64 a] 23)) z2 d2 s2 l2 a2).keep (bl ((w.alloc (.cells #[.int .i64 z, .int .i64 d, .int .i64 s, .int .i64 l, .int .i64 a] 23)).alloc (.cells #[.int .i64 z2, .int .i64 d2, .int .i64 s2, .int .i64 l2, .int .i64 a2] 23)) (.cells #[.int .i64 x.gen, .int .i64 x.ep, .int .i64 x.pos, .int .i64 x.seq, .int .i64 x.last, .string x.lab, .slice x.HA x.hs.length x.hc] 26)) (by simp)
  have FF := ac_new ((w.alloc (.cells #[.int .i64 z, .int .i64 d, .int .i64 s, .int .i64 l, .int .i64 a] 23)).alloc (.cells #[.int .i64 z2, .int .i64 d2, .int .i64 s2, .int .i64 l2, .int .i64 a2] 23)) x
  have hb0 := kal (kal (bl w (.cells #[.int .i64 z, .int .i64 d, .int .i64 s, .int .i64 l, .int .i64 a] 23)) (.cells #[.int .i64 z2, .int .i64 d2, .int .i64 s2, .int .i64 l2, .int .i64 a2] 23)) (.cells #[.int .i64 x.gen, .int .i64 x.ep, .int .i64 x.pos, .int .i64 x.seq, .int .i64 x.last, .string x.lab, .slice x.HA x.hs.length x.hc] 26)
  rw [show (w.alloc (.cells #[.int .i64 z, .int .i64 d, .int .i64 s, .int .i64 l, .int .i64 a] 23)).heap.size = w.heap.size + 1 by simp] at GH
  rw [show ((w.alloc (.cells #[.int .i64 z, .int .i64 d, .int .i64 s, .int .i64 l, .int .i64 a] 23)).alloc (.cells #[.int .i64 z2, .int .i64 d2, .int .i64 s2, .int .i64 l2, .int .i64 a2] 23)).heap.size = w.heap.size + 2 by simp] at FF
  have l1 : w.heap.size + 2 < (((w.alloc (.cells #[.int .i64 z, .int .i64 d, .int .i64 s, .int .i64 l, .int .i64 a] 23)).alloc (.cells #[.int .i64 z2, .int .i64 d2, .int .i64 s2, .int .i64 l2, .int .i64 a2] 23)).alloc (.cells #[.int .i64 x.gen, .int .i64 x.ep, .int .i64 x.pos, .int .i64 x.seq, .int .i64 x.last, .string x.lab, .slice x.HA x.hs.length x.hc] 26)).heap.size := by simp
  unfold AV.v at cH
  clear hx hh
  go_enter Tryd.func8, Tryd.ntmps8
  go_upto_region 1 with fail
  generalize ((w.alloc (.cells #[.int .i64 z, .int .i64 d, .int .i64 s, .int .i64 l, .int .i64 a] 23)).alloc (.cells #[.int .i64 z2, .int .i64 d2, .int .i64 s2, .int .i64 l2, .int .i64 a2] 23)).alloc (.cells #[.int .i64 x.gen, .int .i64 x.ep, .int .i64 x.pos, .int .i64 x.seq, .int .i64 x.last, .string x.lab, .slice x.HA x.hs.length x.hc] 26) = w0 at *
  obtain ⟨c0, c1, c2, c3, c4, c5, c6⟩ := id FF
  obtain ⟨g0, g1, g2, g3, g4⟩ := id GG; obtain ⟨h0, h1, h2, h3, h4⟩ := id GH
  go_wp2_with (first
    | (go_at_call 9; (with_reducible refine (cH _ hb0).mono ?_); rintro e wq ⟨rfl, hbq⟩; replace FF := FF.keep hbq (by omega); replace GG := GG.keep hbq (by omega); replace GH := GH.keep hbq (by omega); replace l1 := Nat.lt_of_lt_of_le l1 hbq.size; clear c0 c1 c2 c3 c4 c5 c6 g0 g1 g2 g3 g4 h0 h1 h2 h3 h4; obtain ⟨c0, c1, c2, c3, c4, c5, c6⟩ := id FF; obtain ⟨g0, g1, g2, g3, g4⟩ := id GG; obtain ⟨h0, h1, h2, h3, h4⟩ := id GH; replace hb0 := bt hb0 hbq; clear hbq))
  go_ret
  exact ⟨rfl, hb0⟩
set_option maxRecDepth 100000 in
set_option maxHeartbeats 2000000 in
theorem ao_geo (z d s l a z2 d2 s2 l2 a2 : Int) (x : AV) (w : World) (hx : x.In w w.heap.size) (hh : ¬ HeavyA x.d) (ho : ¬ Ok z d s l a) :
    Calls Tryd.prog 8 #[.agg #[.int .i64 z, .int .i64 d, .int .i64 s, .int .i64 l, .int .i64 a], .agg #[.int .i64 z2, .int .i64 d2, .int .i64 s2, .int .i64 l2, .int .i64 a2], x.v] w fun e w' => e = .returned (.bool true) ∧ Below w.heap.size w w' := by
  have cH := fun W (hW : Below w.heap.size w W) => heavy_any false x W (hx.next hW) (iff_of_false Bool.false_ne_true hh)
  have cG := fun W => rgeo_at false z d s l a W (iff_of_false Bool.false_ne_true ho)
  unfold AV.v
  have GG := ((g5_new w z d s l a).keep (bl (w.alloc (.cells #[.int .i64 z, .int .i64 d, .int .i64 s, .int .i64 l, .int .i64 a] 23)) (.cells #[.int .i64 z2, .int .i64 d2, .int .i64 s2, .int .i64 l2, .int .i64 a2] 23)) (by simp)).keep (bl ((w.alloc (.cells #[.int .i64 z, .int .i64 d, .int .i64 s, .int .i64 l, .int .i64 a] 23)).alloc (.cells #[.int .i64 z2, .int .i64 d2, .int .i64 s2, .int .i64 l2, .int .i64 a2] 23)) (.cells #[.int .i64 x.gen, .int .i64 x.ep, .int .i64 x.pos, .int .i64 x.seq, .int .i64 x.last, .string x.lab, .slice x.HA x.hs.length x.hc] 26)) (by simp; omega)
  have GH := (g5_new (w.alloc (.cells #[.int .i64 z, .int .i64 d, .int .i64 s, .int .i64 l, .int .i64 a] 23)) z2 d2 s2 l2 a2).keep (bl ((w.alloc (.cells #[.int .i64 z, .int .i64 d, .int .i64 s, .int .i64 l, .int .i64 a] 23)).alloc (.cells #[.int .i64 z2, .int .i64 d2, .int .i64 s2, .int .i64 l2, .int .i64 a2] 23)) (.cells #[.int .i64 x.gen, .int .i64 x.ep, .int .i64 x.pos, .int .i64 x.seq, .int .i64 x.last, .string x.lab, .slice x.HA x.hs.length x.hc] 26)) (by simp)
  have FF := ac_new ((w.alloc (.cells #[.int .i64 z, .int .i64 d, .int .i64 s, .int .i64 l, .int .i64 a] 23)).alloc (.cells #[.int .i64 z2, .int .i64 d2, .int .i64 s2, .int .i64 l2, .int .i64 a2] 23)) x
  have hb0 := kal (kal (bl w (.cells #[.int .i64 z, .int .i64 d, .int .i64 s, .int .i64 l, .int .i64 a] 23)) (.cells #[.int .i64 z2, .int .i64 d2, .int .i64 s2, .int .i64 l2, .int .i64 a2] 23)) (.cells #[.int .i64 x.gen, .int .i64 x.ep, .int .i64 x.pos, .int .i64 x.seq, .int .i64 x.last, .string x.lab, .slice x.HA x.hs.length x.hc] 26)
  rw [show (w.alloc (.cells #[.int .i64 z, .int .i64 d, .int .i64 s, .int .i64 l, .int .i64 a] 23)).heap.size = w.heap.size + 1 by simp] at GH
  rw [show ((w.alloc (.cells #[.int .i64 z, .int .i64 d, .int .i64 s, .int .i64 l, .int .i64 a] 23)).alloc (.cells #[.int .i64 z2, .int .i64 d2, .int .i64 s2, .int .i64 l2, .int .i64 a2] 23)).heap.size = w.heap.size + 2 by simp] at FF
  have l1 : w.heap.size + 2 < (((w.alloc (.cells #[.int .i64 z, .int .i64 d, .int .i64 s, .int .i64 l, .int .i64 a] 23)).alloc (.cells #[.int .i64 z2, .int .i64 d2, .int .i64 s2, .int .i64 l2, .int .i64 a2] 23)).alloc (.cells #[.int .i64 x.gen, .int .i64 x.ep, .int .i64 x.pos, .int .i64 x.seq, .int .i64 x.last, .string x.lab, .slice x.HA x.hs.length x.hc] 26)).heap.size := by simp
  unfold AV.v at cH
  clear hx hh ho
  go_enter Tryd.func8, Tryd.ntmps8
  go_upto_region 1 with fail
  generalize ((w.alloc (.cells #[.int .i64 z, .int .i64 d, .int .i64 s, .int .i64 l, .int .i64 a] 23)).alloc (.cells #[.int .i64 z2, .int .i64 d2, .int .i64 s2, .int .i64 l2, .int .i64 a2] 23)).alloc (.cells #[.int .i64 x.gen, .int .i64 x.ep, .int .i64 x.pos, .int .i64 x.seq, .int .i64 x.last, .string x.lab, .slice x.HA x.hs.length x.hc] 26) = w0 at *
  obtain ⟨c0, c1, c2, c3, c4, c5, c6⟩ := id FF
  obtain ⟨g0, g1, g2, g3, g4⟩ := id GG; obtain ⟨h0, h1, h2, h3, h4⟩ := id GH
  go_wp2_with (first
    | (go_at_call 9; (with_reducible refine (cH _ hb0).mono ?_); rintro e wq ⟨rfl, hbq⟩; replace FF := FF.keep hbq (by omega); replace GG := GG.keep hbq (by omega); replace GH := GH.keep hbq (by omega); replace l1 := Nat.lt_of_lt_of_le l1 hbq.size; clear c0 c1 c2 c3 c4 c5 c6 g0 g1 g2 g3 g4 h0 h1 h2 h3 h4; obtain ⟨c0, c1, c2, c3, c4, c5, c6⟩ := id FF; obtain ⟨g0, g1, g2, g3, g4⟩ := id GG; obtain ⟨h0, h1, h2, h3, h4⟩ := id GH; replace hb0 := bt hb0 hbq; clear hbq)
    | (go_at_call 14; (with_reducible refine (cG _).mono ?_); rintro e wq ⟨rfl, hbq⟩; replace FF := FF.keep hbq (by omega); replace GG := GG.keep hbq (by omega); replace GH := GH.keep hbq (by omega); replace l1 := Nat.lt_of_lt_of_le l1 hbq.size; clear c0 c1 c2 c3 c4 c5 c6 g0 g1 g2 g3 g4 h0 h1 h2 h3 h4; obtain ⟨c0, c1, c2, c3, c4, c5, c6⟩ := id FF; obtain ⟨g0, g1, g2, g3, g4⟩ := id GG; obtain ⟨h0, h1, h2, h3, h4⟩ := id GH; replace hb0 := bt hb0 hbq; clear hbq))
  go_ret
  exact ⟨rfl, hb0⟩
set_option maxRecDepth 100000 in
set_option maxHeartbeats 2000000 in
theorem ao_geo2 (z d s l a z2 d2 s2 l2 a2 : Int) (x : AV) (w : World) (hx : x.In w w.heap.size) (hh : ¬ HeavyA x.d) (ho : Ok z d s l a) (hk : ¬ Ok z2 d2 s2 l2 a2) :
    Calls Tryd.prog 8 #[.agg #[.int .i64 z, .int .i64 d, .int .i64 s, .int .i64 l, .int .i64 a], .agg #[.int .i64 z2, .int .i64 d2, .int .i64 s2, .int .i64 l2, .int .i64 a2], x.v] w fun e w' => e = .returned (.bool true) ∧ Below w.heap.size w w' := by
  have cH := fun W (hW : Below w.heap.size w W) => heavy_any false x W (hx.next hW) (iff_of_false Bool.false_ne_true hh)
  have cG := fun W => rgeo_at true z d s l a W (iff_of_true rfl ho)
  have cK := fun W => rgeo_at false z2 d2 s2 l2 a2 W (iff_of_false Bool.false_ne_true hk)
  unfold AV.v
  have GG := ((g5_new w z d s l a).keep (bl (w.alloc (.cells #[.int .i64 z, .int .i64 d, .int .i64 s, .int .i64 l, .int .i64 a] 23)) (.cells #[.int .i64 z2, .int .i64 d2, .int .i64 s2, .int .i64 l2, .int .i64 a2] 23)) (by simp)).keep (bl ((w.alloc (.cells #[.int .i64 z, .int .i64 d, .int .i64 s, .int .i64 l, .int .i64 a] 23)).alloc (.cells #[.int .i64 z2, .int .i64 d2, .int .i64 s2, .int .i64 l2, .int .i64 a2] 23)) (.cells #[.int .i64 x.gen, .int .i64 x.ep, .int .i64 x.pos, .int .i64 x.seq, .int .i64 x.last, .string x.lab, .slice x.HA x.hs.length x.hc] 26)) (by simp; omega)
  have GH := (g5_new (w.alloc (.cells #[.int .i64 z, .int .i64 d, .int .i64 s, .int .i64 l, .int .i64 a] 23)) z2 d2 s2 l2 a2).keep (bl ((w.alloc (.cells #[.int .i64 z, .int .i64 d, .int .i64 s, .int .i64 l, .int .i64 a] 23)).alloc (.cells #[.int .i64 z2, .int .i64 d2, .int .i64 s2, .int .i64 l2, .int .i64 a2] 23)) (.cells #[.int .i64 x.gen, .int .i64 x.ep, .int .i64 x.pos, .int .i64 x.seq, .int .i64 x.last, .string x.lab, .slice x.HA x.hs.length x.hc] 26)) (by simp)
  have FF := ac_new ((w.alloc (.cells #[.int .i64 z, .int .i64 d, .int .i64 s, .int .i64 l, .int .i64 a] 23)).alloc (.cells #[.int .i64 z2, .int .i64 d2, .int .i64 s2, .int .i64 l2, .int .i64 a2] 23)) x
  have hb0 := kal (kal (bl w (.cells #[.int .i64 z, .int .i64 d, .int .i64 s, .int .i64 l, .int .i64 a] 23)) (.cells #[.int .i64 z2, .int .i64 d2, .int .i64 s2, .int .i64 l2, .int .i64 a2] 23)) (.cells #[.int .i64 x.gen, .int .i64 x.ep, .int .i64 x.pos, .int .i64 x.seq, .int .i64 x.last, .string x.lab, .slice x.HA x.hs.length x.hc] 26)
  rw [show (w.alloc (.cells #[.int .i64 z, .int .i64 d, .int .i64 s, .int .i64 l, .int .i64 a] 23)).heap.size = w.heap.size + 1 by simp] at GH
  rw [show ((w.alloc (.cells #[.int .i64 z, .int .i64 d, .int .i64 s, .int .i64 l, .int .i64 a] 23)).alloc (.cells #[.int .i64 z2, .int .i64 d2, .int .i64 s2, .int .i64 l2, .int .i64 a2] 23)).heap.size = w.heap.size + 2 by simp] at FF
  have l1 : w.heap.size + 2 < (((w.alloc (.cells #[.int .i64 z, .int .i64 d, .int .i64 s, .int .i64 l, .int .i64 a] 23)).alloc (.cells #[.int .i64 z2, .int .i64 d2, .int .i64 s2, .int .i64 l2, .int .i64 a2] 23)).alloc (.cells #[.int .i64 x.gen, .int .i64 x.ep, .int .i64 x.pos, .int .i64 x.seq, .int .i64 x.last, .string x.lab, .slice x.HA x.hs.length x.hc] 26)).heap.size := by simp
  unfold AV.v at cH
  clear hx hh ho hk
  go_enter Tryd.func8, Tryd.ntmps8
  go_upto_region 1 with fail
  generalize ((w.alloc (.cells #[.int .i64 z, .int .i64 d, .int .i64 s, .int .i64 l, .int .i64 a] 23)).alloc (.cells #[.int .i64 z2, .int .i64 d2, .int .i64 s2, .int .i64 l2, .int .i64 a2] 23)).alloc (.cells #[.int .i64 x.gen, .int .i64 x.ep, .int .i64 x.pos, .int .i64 x.seq, .int .i64 x.last, .string x.lab, .slice x.HA x.hs.length x.hc] 26) = w0 at *
  obtain ⟨c0, c1, c2, c3, c4, c5, c6⟩ := id FF
  obtain ⟨g0, g1, g2, g3, g4⟩ := id GG; obtain ⟨h0, h1, h2, h3, h4⟩ := id GH
  go_wp2_with (first
    | (go_at_call 9; (with_reducible refine (cH _ hb0).mono ?_); rintro e wq ⟨rfl, hbq⟩; replace FF := FF.keep hbq (by omega); replace GG := GG.keep hbq (by omega); replace GH := GH.keep hbq (by omega); replace l1 := Nat.lt_of_lt_of_le l1 hbq.size; clear c0 c1 c2 c3 c4 c5 c6 g0 g1 g2 g3 g4 h0 h1 h2 h3 h4; obtain ⟨c0, c1, c2, c3, c4, c5, c6⟩ := id FF; obtain ⟨g0, g1, g2, g3, g4⟩ := id GG; obtain ⟨h0, h1, h2, h3, h4⟩ := id GH; replace hb0 := bt hb0 hbq; clear hbq)
    | (go_at_call 14; (with_reducible refine (cG _).mono ?_); rintro e wq ⟨rfl, hbq⟩; replace FF := FF.keep hbq (by omega); replace GG := GG.keep hbq (by omega); replace GH := GH.keep hbq (by omega); replace l1 := Nat.lt_of_lt_of_le l1 hbq.size; clear c0 c1 c2 c3 c4 c5 c6 g0 g1 g2 g3 g4 h0 h1 h2 h3 h4; obtain ⟨c0, c1, c2, c3, c4, c5, c6⟩ := id FF; obtain ⟨g0, g1, g2, g3, g4⟩ := id GG; obtain ⟨h0, h1, h2, h3, h4⟩ := id GH; replace hb0 := bt hb0 hbq; clear hbq)
    | (go_at_call 14; (with_reducible refine (cK _).mono ?_); rintro e wq ⟨rfl, hbq⟩; replace FF := FF.keep hbq (by omega); replace GG := GG.keep hbq (by omega); replace GH := GH.keep hbq (by omega); replace l1 := Nat.lt_of_lt_of_le l1 hbq.size; clear c0 c1 c2 c3 c4 c5 c6 g0 g1 g2 g3 g4 h0 h1 h2 h3 h4; obtain ⟨c0, c1, c2, c3, c4, c5, c6⟩ := id FF; obtain ⟨g0, g1, g2, g3, g4⟩ := id GG; obtain ⟨h0, h1, h2, h3, h4⟩ := id GH; replace hb0 := bt hb0 hbq; clear hbq))
  go_ret
  exact ⟨rfl, hb0⟩
set_option maxRecDepth 100000 in
set_option maxHeartbeats 2000000 in
theorem ao_bad (z d s l a z2 d2 s2 l2 a2 : Int) (x : AV) (w : World) (hx : x.In w w.heap.size) (hh : ¬ HeavyA x.d) (ho : Ok z d s l a) (hk : Ok z2 d2 s2 l2 a2) (hg : ¬ Good z d s l x.d) :
    Calls Tryd.prog 8 #[.agg #[.int .i64 z, .int .i64 d, .int .i64 s, .int .i64 l, .int .i64 a], .agg #[.int .i64 z2, .int .i64 d2, .int .i64 s2, .int .i64 l2, .int .i64 a2], x.v] w fun e w' => e = .returned (.bool true) ∧ Below w.heap.size w w' := by
  obtain ⟨t1, t2, t3⟩ := light hh
  have cH := fun W (hW : Below w.heap.size w W) => heavy_any false x W (hx.next hW) (iff_of_false Bool.false_ne_true hh)
  have cG := fun W => rgeo_at true z d s l a W (iff_of_true rfl ho)
  have cK := fun W => rgeo_at true z2 d2 s2 l2 a2 W (iff_of_true rfl hk)
  have cR := fun W (hW : Below w.heap.size w W) => right_p z d s l a false x W ho (hx.next hW) (by omega) (fun r hr => by have := t3 r hr; omega) (by omega) (iff_of_false Bool.false_ne_true hg)
  unfold AV.v
  have GG := ((g5_new w z d s l a).keep (bl (w.alloc (.cells #[.int .i64 z, .int .i64 d, .int .i64 s, .int .i64 l, .int .i64 a] 23)) (.cells #[.int .i64 z2, .int .i64 d2, .int .i64 s2, .int .i64 l2, .int .i64 a2] 23)) (by simp)).keep (bl ((w.alloc (.cells #[.int .i64 z, .int .i64 d, .int .i64 s, .int .i64 l, .int .i64 a] 23)).alloc (.cells #[.int .i64 z2, .int .i64 d2, .int .i64 s2, .int .i64 l2, .int .i64 a2] 23)) (.cells #[.int .i64 x.gen, .int .i64 x.ep, .int .i64 x.pos, .int .i64 x.seq, .int .i64 x.last, .string x.lab, .slice x.HA x.hs.length x.hc] 26)) (by simp; omega)
  have GH := (g5_new (w.alloc (.cells #[.int .i64 z, .int .i64 d, .int .i64 s, .int .i64 l, .int .i64 a] 23)) z2 d2 s2 l2 a2).keep (bl ((w.alloc (.cells #[.int .i64 z, .int .i64 d, .int .i64 s, .int .i64 l, .int .i64 a] 23)).alloc (.cells #[.int .i64 z2, .int .i64 d2, .int .i64 s2, .int .i64 l2, .int .i64 a2] 23)) (.cells #[.int .i64 x.gen, .int .i64 x.ep, .int .i64 x.pos, .int .i64 x.seq, .int .i64 x.last, .string x.lab, .slice x.HA x.hs.length x.hc] 26)) (by simp)
  have FF := ac_new ((w.alloc (.cells #[.int .i64 z, .int .i64 d, .int .i64 s, .int .i64 l, .int .i64 a] 23)).alloc (.cells #[.int .i64 z2, .int .i64 d2, .int .i64 s2, .int .i64 l2, .int .i64 a2] 23)) x
  have hb0 := kal (kal (bl w (.cells #[.int .i64 z, .int .i64 d, .int .i64 s, .int .i64 l, .int .i64 a] 23)) (.cells #[.int .i64 z2, .int .i64 d2, .int .i64 s2, .int .i64 l2, .int .i64 a2] 23)) (.cells #[.int .i64 x.gen, .int .i64 x.ep, .int .i64 x.pos, .int .i64 x.seq, .int .i64 x.last, .string x.lab, .slice x.HA x.hs.length x.hc] 26)
  rw [show (w.alloc (.cells #[.int .i64 z, .int .i64 d, .int .i64 s, .int .i64 l, .int .i64 a] 23)).heap.size = w.heap.size + 1 by simp] at GH
  rw [show ((w.alloc (.cells #[.int .i64 z, .int .i64 d, .int .i64 s, .int .i64 l, .int .i64 a] 23)).alloc (.cells #[.int .i64 z2, .int .i64 d2, .int .i64 s2, .int .i64 l2, .int .i64 a2] 23)).heap.size = w.heap.size + 2 by simp] at FF
  have l1 : w.heap.size + 2 < (((w.alloc (.cells #[.int .i64 z, .int .i64 d, .int .i64 s, .int .i64 l, .int .i64 a] 23)).alloc (.cells #[.int .i64 z2, .int .i64 d2, .int .i64 s2, .int .i64 l2, .int .i64 a2] 23)).alloc (.cells #[.int .i64 x.gen, .int .i64 x.ep, .int .i64 x.pos, .int .i64 x.seq, .int .i64 x.last, .string x.lab, .slice x.HA x.hs.length x.hc] 26)).heap.size := by simp
  unfold AV.v at cH cR
  clear hx hh ho hk hg t1 t2 t3
  go_enter Tryd.func8, Tryd.ntmps8
  go_upto_region 1 with fail
  generalize ((w.alloc (.cells #[.int .i64 z, .int .i64 d, .int .i64 s, .int .i64 l, .int .i64 a] 23)).alloc (.cells #[.int .i64 z2, .int .i64 d2, .int .i64 s2, .int .i64 l2, .int .i64 a2] 23)).alloc (.cells #[.int .i64 x.gen, .int .i64 x.ep, .int .i64 x.pos, .int .i64 x.seq, .int .i64 x.last, .string x.lab, .slice x.HA x.hs.length x.hc] 26) = w0 at *
  obtain ⟨c0, c1, c2, c3, c4, c5, c6⟩ := id FF
  obtain ⟨g0, g1, g2, g3, g4⟩ := id GG; obtain ⟨h0, h1, h2, h3, h4⟩ := id GH
  go_wp2_with (first
    | (go_at_call 9; (with_reducible refine (cH _ hb0).mono ?_); rintro e wq ⟨rfl, hbq⟩; replace FF := FF.keep hbq (by omega); replace GG := GG.keep hbq (by omega); replace GH := GH.keep hbq (by omega); replace l1 := Nat.lt_of_lt_of_le l1 hbq.size; clear c0 c1 c2 c3 c4 c5 c6 g0 g1 g2 g3 g4 h0 h1 h2 h3 h4; obtain ⟨c0, c1, c2, c3, c4, c5, c6⟩ := id FF; obtain ⟨g0, g1, g2, g3, g4⟩ := id GG; obtain ⟨h0, h1, h2, h3, h4⟩ := id GH; replace hb0 := bt hb0 hbq; clear hbq)
    | (go_at_call 14; (with_reducible refine (cG _).mono ?_); rintro e wq ⟨rfl, hbq⟩; replace FF := FF.keep hbq (by omega); replace GG := GG.keep hbq (by omega); replace GH := GH.keep hbq (by omega); replace l1 := Nat.lt_of_lt_of_le l1 hbq.size; clear c0 c1 c2 c3 c4 c5 c6 g0 g1 g2 g3 g4 h0 h1 h2 h3 h4; obtain ⟨c0, c1, c2, c3, c4, c5, c6⟩ := id FF; obtain ⟨g0, g1, g2, g3, g4⟩ := id GG; obtain ⟨h0, h1, h2, h3, h4⟩ := id GH; replace hb0 := bt hb0 hbq; clear hbq)
    | (go_at_call 14; (with_reducible refine (cK _).mono ?_); rintro e wq ⟨rfl, hbq⟩; replace FF := FF.keep hbq (by omega); replace GG := GG.keep hbq (by omega); replace GH := GH.keep hbq (by omega); replace l1 := Nat.lt_of_lt_of_le l1 hbq.size; clear c0 c1 c2 c3 c4 c5 c6 g0 g1 g2 g3 g4 h0 h1 h2 h3 h4; obtain ⟨c0, c1, c2, c3, c4, c5, c6⟩ := id FF; obtain ⟨g0, g1, g2, g3, g4⟩ := id GG; obtain ⟨h0, h1, h2, h3, h4⟩ := id GH; replace hb0 := bt hb0 hbq; clear hbq)
    | (go_at_call 21; (with_reducible refine (cR _ hb0).mono ?_); rintro e wq ⟨rfl, hbq⟩; replace FF := FF.keep hbq (by omega); replace GG := GG.keep hbq (by omega); replace GH := GH.keep hbq (by omega); replace l1 := Nat.lt_of_lt_of_le l1 hbq.size; clear c0 c1 c2 c3 c4 c5 c6 g0 g1 g2 g3 g4 h0 h1 h2 h3 h4; obtain ⟨c0, c1, c2, c3, c4, c5, c6⟩ := id FF; obtain ⟨g0, g1, g2, g3, g4⟩ := id GG; obtain ⟨h0, h1, h2, h3, h4⟩ := id GH; replace hb0 := bt hb0 hbq; clear hbq))
  go_ret
  exact ⟨rfl, hb0⟩
theorem short_of {z d s l : Int} {x : Anc} {y : AV} {n : Int} (ho : Ok z d s l n) (hg : Good z d s l x) (hd : y.d = x) : y.hs.length ≤ 1048576 ∧ HShort 1048576 y.hs ∧ y.lab.size ≤ 24 := by
  subst hd
  obtain ⟨-, -, -, -, -, -, h7, h8, h9⟩ := id hg
  have e : y.d.hs.length = y.hs.length := hds_length y.hs
  obtain ⟨o1, o2, -⟩ := ho
  refine ⟨by omega, fun r hr => ?_, ?_⟩
  · have := (h9 r.d (List.mem_map_of_mem hr)).1
    have e2 : r.d.ps.length = r.ps.length := rfl
    omega
  · have := lab_len h7
    rwa [size_list] at this

set_option maxRecDepth 100000 in
set_option maxHeartbeats 8000000 in
theorem ao_go (hV : ValidOk) (hC : CloneOk) (c : Bool) (n : Int) (yd : Anc) (z d s l a z2 d2 s2 l2 a2 : Int) (x : AV) (w : World) (hT : Tabs w) (hx : x.In w w.heap.size) (hh : ¬ HeavyA x.d) (ho : Ok z d s l a) (hk : Ok z2 d2 s2 l2 a2) (hg : Good z d s l x.d) (hc : c = true ↔ Good z2 d2 s2 l2 x.d)
    (hn : (n = 0 ∧ (Good z2 d2 s2 l2 yd) ∧ (c = true → yd = x.d) ∧ (c = false → yd ≠ x.d)) ∨ (n = 4 ∧ c = false))
    (cR : ∀ (W : World) (X : Option Addr) (y : Nat), Below w.heap.size w W → Sl W W.heap.size X (encA x.d) → (encA x.d).length ≤ y → y ≤ maxLen → Calls Tryd.prog 13 #[.agg #[.int .i64 z2, .int .i64 d2, .int .i64 s2, .int .i64 l2, .int .i64 a2], .slice X (encA x.d).length y] W fun e w' => AnsA W.heap.size yd n e w' ∧ Below W.heap.size W w') :
    Calls Tryd.prog 8 #[.agg #[.int .i64 z, .int .i64 d, .int .i64 s, .int .i64 l, .int .i64 a], .agg #[.int .i64 z2, .int .i64 d2, .int .i64 s2, .int .i64 l2, .int .i64 a2], x.v] w fun e w' => e = .returned (.bool true) ∧ Below w.heap.size w w' := by
  obtain ⟨t1, t2, t3⟩ := light hh
  have HT := Lib.hid hT
  have HR := Lib.hid cR
  have cH := fun W (hW : Below w.heap.size w W) => heavy_any false x W (hx.next hW) (iff_of_false Bool.false_ne_true hh)
  have cG := fun W => rgeo_at true z d s l a W (iff_of_true rfl ho)
  have cK := fun W => rgeo_at true z2 d2 s2 l2 a2 W (iff_of_true rfl hk)
  have cA := fun W (hW : Below w.heap.size w W) => right_p z d s l a true x W ho (hx.next hW) (by omega) (fun r hr => by have := t3 r hr; omega) (by omega) (iff_of_true rfl hg)
  have cB := fun W (hW : Below w.heap.size w W) => bytes_yes hV z d s l a x W (tn HT.out hW) ho (hx.next hW) hg
  have cC := fun W (hW : Below w.heap.size w W) => check_p hV z2 d2 s2 l2 a2 c x W (tn HT.out hW) hk (hx.next hW) (by omega) hc
  have HFG := Lib.hid (fits_good (z2 := z2) (d2 := d2) (s2 := s2) (l2 := l2) ho.1.1 hg)
  have HCC := Lib.hid hc
  have HNN := Lib.hid hn
  have HK := Lib.hid hk
  have HX := Lib.hid hx
  obtain ⟨k1, k2, k3, k4, -⟩ := id hk
  unfold AV.v
  have GG := ((g5_new w z d s l a).keep (bl (w.alloc (.cells #[.int .i64 z, .int .i64 d, .int .i64 s, .int .i64 l, .int .i64 a] 23)) (.cells #[.int .i64 z2, .int .i64 d2, .int .i64 s2, .int .i64 l2, .int .i64 a2] 23)) (by simp)).keep (bl ((w.alloc (.cells #[.int .i64 z, .int .i64 d, .int .i64 s, .int .i64 l, .int .i64 a] 23)).alloc (.cells #[.int .i64 z2, .int .i64 d2, .int .i64 s2, .int .i64 l2, .int .i64 a2] 23)) (.cells #[.int .i64 x.gen, .int .i64 x.ep, .int .i64 x.pos, .int .i64 x.seq, .int .i64 x.last, .string x.lab, .slice x.HA x.hs.length x.hc] 26)) (by simp; omega)
  have GH := (g5_new (w.alloc (.cells #[.int .i64 z, .int .i64 d, .int .i64 s, .int .i64 l, .int .i64 a] 23)) z2 d2 s2 l2 a2).keep (bl ((w.alloc (.cells #[.int .i64 z, .int .i64 d, .int .i64 s, .int .i64 l, .int .i64 a] 23)).alloc (.cells #[.int .i64 z2, .int .i64 d2, .int .i64 s2, .int .i64 l2, .int .i64 a2] 23)) (.cells #[.int .i64 x.gen, .int .i64 x.ep, .int .i64 x.pos, .int .i64 x.seq, .int .i64 x.last, .string x.lab, .slice x.HA x.hs.length x.hc] 26)) (by simp)
  have FF := ac_new ((w.alloc (.cells #[.int .i64 z, .int .i64 d, .int .i64 s, .int .i64 l, .int .i64 a] 23)).alloc (.cells #[.int .i64 z2, .int .i64 d2, .int .i64 s2, .int .i64 l2, .int .i64 a2] 23)) x
  have hb0 := kal (kal (bl w (.cells #[.int .i64 z, .int .i64 d, .int .i64 s, .int .i64 l, .int .i64 a] 23)) (.cells #[.int .i64 z2, .int .i64 d2, .int .i64 s2, .int .i64 l2, .int .i64 a2] 23)) (.cells #[.int .i64 x.gen, .int .i64 x.ep, .int .i64 x.pos, .int .i64 x.seq, .int .i64 x.last, .string x.lab, .slice x.HA x.hs.length x.hc] 26)
  rw [show (w.alloc (.cells #[.int .i64 z, .int .i64 d, .int .i64 s, .int .i64 l, .int .i64 a] 23)).heap.size = w.heap.size + 1 by simp] at GH
  rw [show ((w.alloc (.cells #[.int .i64 z, .int .i64 d, .int .i64 s, .int .i64 l, .int .i64 a] 23)).alloc (.cells #[.int .i64 z2, .int .i64 d2, .int .i64 s2, .int .i64 l2, .int .i64 a2] 23)).heap.size = w.heap.size + 2 by simp] at FF
  have l1 : w.heap.size + 2 < (((w.alloc (.cells #[.int .i64 z, .int .i64 d, .int .i64 s, .int .i64 l, .int .i64 a] 23)).alloc (.cells #[.int .i64 z2, .int .i64 d2, .int .i64 s2, .int .i64 l2, .int .i64 a2] 23)).alloc (.cells #[.int .i64 x.gen, .int .i64 x.ep, .int .i64 x.pos, .int .i64 x.seq, .int .i64 x.last, .string x.lab, .slice x.HA x.hs.length x.hc] 26)).heap.size := by simp
  unfold AV.v at cH cA cB cC
  have HB := Lib.hid cB
  have HC2 := Lib.hid cC
  have HCX := Lib.hid hx.hl
  clear hx hh ho hk hg hc hn hT cR cB cC t2 t3
  go_enter Tryd.func8, Tryd.ntmps8
  go_upto_region 1 with fail
  generalize ((w.alloc (.cells #[.int .i64 z, .int .i64 d, .int .i64 s, .int .i64 l, .int .i64 a] 23)).alloc (.cells #[.int .i64 z2, .int .i64 d2, .int .i64 s2, .int .i64 l2, .int .i64 a2] 23)).alloc (.cells #[.int .i64 x.gen, .int .i64 x.ep, .int .i64 x.pos, .int .i64 x.seq, .int .i64 x.last, .string x.lab, .slice x.HA x.hs.length x.hc] 26) = w0 at *
  obtain ⟨c0, c1, c2, c3, c4, c5, c6⟩ := id FF
  obtain ⟨g0, g1, g2, g3, g4⟩ := id GG; obtain ⟨h0, h1, h2, h3, h4⟩ := id GH
  go_upto_region 4 with (first
    | (go_at_call 9; (with_reducible refine (cH _ hb0).mono ?_); rintro e wq ⟨rfl, hbq⟩; replace FF := FF.keep hbq (by omega); replace GG := GG.keep hbq (by omega); replace GH := GH.keep hbq (by omega); replace l1 := Nat.lt_of_lt_of_le l1 hbq.size; clear c0 c1 c2 c3 c4 c5 c6 g0 g1 g2 g3 g4 h0 h1 h2 h3 h4; obtain ⟨c0, c1, c2, c3, c4, c5, c6⟩ := id FF; obtain ⟨g0, g1, g2, g3, g4⟩ := id GG; obtain ⟨h0, h1, h2, h3, h4⟩ := id GH; replace hb0 := bt hb0 hbq; clear hbq)
    | (go_at_call 14; (with_reducible refine (cG _).mono ?_); rintro e wq ⟨rfl, hbq⟩; replace FF := FF.keep hbq (by omega); replace GG := GG.keep hbq (by omega); replace GH := GH.keep hbq (by omega); replace l1 := Nat.lt_of_lt_of_le l1 hbq.size; clear c0 c1 c2 c3 c4 c5 c6 g0 g1 g2 g3 g4 h0 h1 h2 h3 h4; obtain ⟨c0, c1, c2, c3, c4, c5, c6⟩ := id FF; obtain ⟨g0, g1, g2, g3, g4⟩ := id GG; obtain ⟨h0, h1, h2, h3, h4⟩ := id GH; replace hb0 := bt hb0 hbq; clear hbq)
    | (go_at_call 14; (with_reducible refine (cK _).mono ?_); rintro e wq ⟨rfl, hbq⟩; replace FF := FF.keep hbq (by omega); replace GG := GG.keep hbq (by omega); replace GH := GH.keep hbq (by omega); replace l1 := Nat.lt_of_lt_of_le l1 hbq.size; clear c0 c1 c2 c3 c4 c5 c6 g0 g1 g2 g3 g4 h0 h1 h2 h3 h4; obtain ⟨c0, c1, c2, c3, c4, c5, c6⟩ := id FF; obtain ⟨g0, g1, g2, g3, g4⟩ := id GG; obtain ⟨h0, h1, h2, h3, h4⟩ := id GH; replace hb0 := bt hb0 hbq; clear hbq)
    | (go_at_call 21; (with_reducible refine (cA _ hb0).mono ?_); rintro e wq ⟨rfl, hbq⟩; replace FF := FF.keep hbq (by omega); replace GG := GG.keep hbq (by omega); replace GH := GH.keep hbq (by omega); replace l1 := Nat.lt_of_lt_of_le l1 hbq.size; clear c0 c1 c2 c3 c4 c5 c6 g0 g1 g2 g3 g4 h0 h1 h2 h3 h4; obtain ⟨c0, c1, c2, c3, c4, c5, c6⟩ := id FF; obtain ⟨g0, g1, g2, g3, g4⟩ := id GG; obtain ⟨h0, h1, h2, h3, h4⟩ := id GH; replace hb0 := bt hb0 hbq; clear hbq)
    | (go_at_call 12; (with_reducible refine (HB.out _ hb0).mono ?_); rintro e wB ⟨⟨X5, y5, rfl, -, p5⟩, hbq⟩; replace FF := FF.keep hbq (by omega); replace GG := GG.keep hbq (by omega); replace GH := GH.keep hbq (by omega); replace l1 := Nat.lt_of_lt_of_le l1 hbq.size; clear c0 c1 c2 c3 c4 c5 c6 g0 g1 g2 g3 g4 h0 h1 h2 h3 h4; obtain ⟨c0, c1, c2, c3, c4, c5, c6⟩ := id FF; obtain ⟨g0, g1, g2, g3, g4⟩ := id GG; obtain ⟨h0, h1, h2, h3, h4⟩ := id GH; replace hb0 := bt hb0 hbq; clear hbq))
  obtain ⟨X5', y5', hv5, k5, k6, s5, -⟩ := p5.form
  simp only [Value.slice.injEq] at hv5
  obtain ⟨rfl, -, rfl⟩ := hv5
  clear p5 cH cG cK cA HB
  go_upto_region 5 with (go_at_call 13; (with_reducible refine (HR.out _ _ _ hb0 s5 k5 k6).mono ?_); rintro e wR ⟨⟨y, hey, hyd, hyo⟩, hbq⟩; rw [AV.v] at hey; subst hey; replace FF := FF.keep hbq (by omega); replace GG := GG.keep hbq (by omega); replace GH := GH.keep hbq (by omega); replace l1 := Nat.lt_of_lt_of_le l1 hbq.size; clear c0 c1 c2 c3 c4 c5 c6 g0 g1 g2 g3 g4 h0 h1 h2 h3 h4; obtain ⟨c0, c1, c2, c3, c4, c5, c6⟩ := id FF; obtain ⟨g0, g1, g2, g3, g4⟩ := id GG; obtain ⟨h0, h1, h2, h3, h4⟩ := id GH; replace hb0 := bt hb0 hbq; clear hbq)
  have hx6 := bl wR (.cells #[.int .i64 y.gen, .int .i64 y.ep, .int .i64 y.pos, .int .i64 y.seq, .int .i64 y.last, .string y.lab, .slice y.HA y.hs.length y.hc] 26)
  have FY := ac_new wR y
  have lY : wR.heap.size < (wR.alloc (.cells #[.int .i64 y.gen, .int .i64 y.ep, .int .i64 y.pos, .int .i64 y.seq, .int .i64 y.last, .string y.lab, .slice y.HA y.hs.length y.hc] 26)).heap.size := by simp
  have HYO := Lib.hid (AV.Own.inn (OwnH.below hyo hx6))
  have HYD := Lib.hid hyd
  replace FF := FF.keep hx6 l1
  replace GG := GG.keep hx6 (by omega)
  replace GH := GH.keep hx6 (by omega)
  replace hb0 := bt hb0 hx6
  obtain ⟨gy, hgy⟩ : ∃ g, g = wR.heap.size := ⟨_, rfl⟩
  rw [← hgy] at FY lY ⊢
  replace l1 : w.heap.size + 2 < (wR.alloc (.cells #[.int .i64 y.gen, .int .i64 y.ep, .int .i64 y.pos, .int .i64 y.seq, .int .i64 y.last, .string y.lab, .slice y.HA y.hs.length y.hc] 26)).heap.size := Nat.lt_of_lt_of_le l1 hx6.size
  clear c0 c1 c2 c3 c4 c5 c6 g0 g1 g2 g3 g4 h0 h1 h2 h3 h4
  clear hyo hyd hx6 hgy s5 k5 k6 HR
  generalize wR.alloc (.cells #[.int .i64 y.gen, .int .i64 y.ep, .int .i64 y.pos, .int .i64 y.seq, .int .i64 y.last, .string y.lab, .slice y.HA y.hs.length y.hc] 26) = w4 at *
  obtain ⟨c0, c1, c2, c3, c4, c5, c6⟩ := id FF
  obtain ⟨g0, g1, g2, g3, g4⟩ := id GG; obtain ⟨h0, h1, h2, h3, h4⟩ := id GH
  go_cut [11] from 43 to 61 (fun v wx => (∃ f : Bool, v = .bool f ∧ (f = true ↔ (z = z2 ∧ d = d2 ∧ x.pos < l2))) ∧ wx = w4)
  case first =>
    by_cases q1 : z = z2
    · have e1 : (z == z2) = true := beq_iff_eq.2 q1
      by_cases q2 : d = d2
      · have e2 : (d == d2) = true := beq_iff_eq.2 q2
        by_cases q3 : x.pos < l2
        · have H : Hid (z = z2 ∧ d = d2 ∧ x.pos < l2) := ⟨q1, q2, q3⟩
          have e3 : decide (x.pos < l2) = true := decide_eq_true q3
          clear q1 q2
          go_wp2_with fail
          go_meet
          exact ⟨⟨true, rfl, iff_of_true rfl H.out⟩, rfl⟩
        · have H : Hid (¬ (z = z2 ∧ d = d2 ∧ x.pos < l2)) := fun h => q3 h.2.2
          have e3 : decide (x.pos < l2) = false := decide_eq_false q3
          clear q1 q2
          go_wp2_with fail
          go_meet
          exact ⟨⟨false, rfl, iff_of_false Bool.false_ne_true H.out⟩, rfl⟩
      · have e2 : (d == d2) = false := beq_eq_false_iff_ne.2 q2
        have H : Hid (¬ (z = z2 ∧ d = d2 ∧ x.pos < l2)) := fun h => q2 h.2.1
        clear q1 q2
        go_wp2_with fail
        go_meet
        exact ⟨⟨false, rfl, iff_of_false Bool.false_ne_true H.out⟩, rfl⟩
    · have e1 : (z == z2) = false := beq_eq_false_iff_ne.2 q1
      have H : Hid (¬ (z = z2 ∧ d = d2 ∧ x.pos < l2)) := fun h => q1 h.1
      clear q1
      go_wp2_with fail
      go_meet
      exact ⟨⟨false, rfl, iff_of_false Bool.false_ne_true H.out⟩, rfl⟩
  case rest =>
    obtain ⟨⟨f0, rfl, hf0⟩, hw4⟩ := hcut
    have hw5 := hw4.symm
    clear hw4
    subst hw5
    have HF0 := Lib.hid hf0
    clear c0 c1 c2 c3 c4 c5 c6 g0 g1 g2 g3 g4 h0 h1 h2 h3 h4
    clear hf0
    obtain ⟨c0, c1, c2, c3, c4, c5, c6⟩ := id FF
    have lhs : x.hs.length ≤ 10 := t1
    go_wp2_with fail
    clear c0 c1 c2 c3 c4 c5 c6
    go_loopw [11, 12] (fun v i w' => ∃ (k : Nat) (f : Bool), k ≤ x.hs.length ∧ i = .int .i64 k ∧ v = .bool f ∧ Hid (f = true ↔ (z = z2 ∧ d = d2 ∧ x.pos < l2) ∧ ∀ h ∈ (hds x.hs).take k, h.nx ≤ d2 + 1 + s2) ∧ Below w4.heap.size w4 w') (fun _ i _ => x.hs.length - (RowKit.intOf i).toNat)
    case atStart => exact ⟨0, f0, by omega, rfl, rfl, Lib.hid (HF0.out.trans ⟨fun h => ⟨h, fun x hx => by simp at hx⟩, fun h => h.1⟩), Below.refl _ _⟩
    case round =>
      obtain ⟨w5, rfl⟩ : ∃ x, x = wr := ⟨wr, rfl⟩
      obtain ⟨k, f, hk, rfl, rfl, HFF, hbr⟩ := hrel
      have FF5 := FF.keep hbr l1
      have GH5 := GH.keep hbr (by omega)
      have hbw := bt hb0 hbr
      have l5 := hbr.size
      by_cases hlt : k < x.hs.length
      · have i1 : (k : Int) < (x.hs.length : Int) := by omega
        have i2 : (0 : Int) ≤ (k : Int) := by omega
        have hX := HX.out.next hbw
        obtain ⟨b1, off, u, e3, hbb, r0, r1, r2, m1, hu, -, e1⟩ := home_at hX.hh hX.hi hlt
        obtain ⟨c0, c1, c2, c3, c4, c5, c6⟩ := id FF5
        obtain ⟨h0, h1, h2, h3, h4⟩ := id GH5
        rw [e3] at c6
        have HT1 := Lib.hid (take_next e1)
        have hmx : x.hs.length ≤ x.hc := HCX.out.1
        have i3 : (k : Int) ≤ (x.hc : Int) := by omega
        have wd1 : IntKind.i64.wrap (d2 + 1) = d2 + 1 := IntWalk.i64_in _ (by omega)
        have wd2 : IntKind.i64.wrap (d2 + 1 + s2) = d2 + 1 + s2 := IntWalk.i64_in _ (by omega)
        clear hX m1 hu e1 e3 r0 r2
        cases f with
        | false =>
          have H : Hid (false = true ↔ (z = z2 ∧ d = d2 ∧ x.pos < l2) ∧ ∀ h ∈ (hds x.hs).take (k + 1), h.nx ≤ d2 + 1 + s2) := Lib.hid (iff_of_false Bool.false_ne_true fun h => by
            have := HFF.out.2 ⟨h.1, fun y hy => h.2 y (by rw [HT1.out]; exact List.mem_append_left _ hy)⟩
            cases this)
          go_wp2_with fail
          go_quiet (fail)
          go_wp2_with fail
          go_roundw
          case rel => exact ⟨k + 1, false, by omega, by go_num, rfl, H, below_dn hbr _⟩
          case measure => simp [RowKit.intOf]; omega
        | true =>
          have hP := HFF.out.1 rfl
          by_cases hnx : u.nx ≤ d2 + 1 + s2
          · have e9 : decide (u.nx ≤ d2 + 1 + s2) = true := decide_eq_true hnx
            have H : Hid ((z = z2 ∧ d = d2 ∧ x.pos < l2) ∧ ∀ h ∈ (hds x.hs).take (k + 1), h.nx ≤ d2 + 1 + s2) := Lib.hid (⟨hP.1, fun y hy => by
              rw [HT1.out] at hy
              rcases List.mem_append.1 hy with hy | hy
              · exact hP.2 y hy
              · obtain rfl := List.mem_singleton.1 hy
                exact hnx⟩)
            clear hP
            go_wp2_with fail
            go_quiet (fail)
            go_wp2_with fail
            go_roundw
            case rel => exact ⟨k + 1, true, by omega, by go_num, rfl, Lib.hid (iff_of_true rfl H.out), below_dn hbr _⟩
            case measure => simp [RowKit.intOf]; omega
          · have e9 : decide (u.nx ≤ d2 + 1 + s2) = false := decide_eq_false hnx
            have H : Hid (false = true ↔ (z = z2 ∧ d = d2 ∧ x.pos < l2) ∧ ∀ h ∈ (hds x.hs).take (k + 1), h.nx ≤ d2 + 1 + s2) := Lib.hid (iff_of_false Bool.false_ne_true fun h => hnx (h.2 u.d (by rw [HT1.out]; exact List.mem_append_right _ (List.mem_singleton_self _))))
            clear hP
            go_wp2_with fail
            go_quiet (fail)
            go_wp2_with fail
            go_roundw
            case rel => exact ⟨k + 1, false, by omega, by go_num, rfl, H, below_dn hbr _⟩
            case measure => simp [RowKit.intOf]; omega
      · have i1 : ¬ (k : Int) < (x.hs.length : Int) := by omega
        have hfc : f = c := by
          have h1 := HFF.out
          rw [List.take_of_length_le (by rw [hds_length]; omega)] at h1
          have h2 : f = true ↔ c = true := h1.trans (HFG.out.trans HCC.out.symm)
          cases f <;> cases c <;> simp_all
        subst hfc
        have FY5 := FY.keep hbr lY
        obtain ⟨y0, y1, y2, y3, y4, y5'', y6⟩ := id FY5
        obtain ⟨c0, c1, c2, c3, c4, c5, c6⟩ := id FF5
        obtain ⟨h0, h1, h2, h3, h4⟩ := id GH5
        have lY5 : gy < w5.heap.size := by omega
        have lx5 : w.heap.size + 2 < w5.heap.size := by omega
        have HYI := Lib.hid (AV.In.next HYO.out hbr)
        cases f with
        | true =>
          obtain ⟨rfl, gy1, hyx⟩ : n = 0 ∧ Good z2 d2 s2 l2 yd ∧ yd = x.d := by
            rcases HNN.out with ⟨h1, h2, h3, -⟩ | ⟨-, h⟩
            · exact ⟨h1, h2, h3 rfl⟩
            · cases h
          have hyd : y.d = x.d := by rw [HYD.out, hyx]
          obtain ⟨s1, s2', -⟩ := short_of HK.out gy1 HYD.out
          have cC1 : ∀ W, Below w.heap.size w W → Calls Tryd.prog 15 #[.agg #[.int .i64 z2, .int .i64 d2, .int .i64 s2, .int .i64 l2, .int .i64 a2], .agg #[.int .i64 x.gen, .int .i64 x.ep, .int .i64 x.pos, .int .i64 x.seq, .int .i64 x.last, .string x.lab, .slice x.HA x.hs.length x.hc]] W fun e w' => e = .returned (.int .i64 0) ∧ Below W.heap.size W w' := HC2.out
          have cK1 : ∀ W, Below w5.heap.size w5 W → Calls Tryd.prog 16 #[y.v, x.v] W fun e w' => e = .returned (.bool true) ∧ Below W.heap.size W w' := fun W hW => by
            have := anchor_any y x W (HYI.out.next hW) (HX.out.next (bt hbw hW)) s1 s2'
            rwa [decide_eq_true hyd] at this
          unfold AV.v at cK1
          clear hyd hyx gy1
          go_wp2_with (first
            | (go_at_call 15; (with_reducible refine (cC1 _ hbw).mono ?_); rintro e w6 ⟨rfl, hb6⟩; have y0 := kst hb6 lY5 y0; have y1 := kst hb6 lY5 y1; have y2 := kst hb6 lY5 y2; have y3 := kst hb6 lY5 y3; have y4 := kst hb6 lY5 y4; have y5 := kst hb6 lY5 y5''; have y6 := kst hb6 lY5 y6; have c0 := kst hb6 lx5 c0; have c1 := kst hb6 lx5 c1; have c2 := kst hb6 lx5 c2; have c3 := kst hb6 lx5 c3; have c4 := kst hb6 lx5 c4; have c5 := kst hb6 lx5 c5; have c6 := kst hb6 lx5 c6)
            | (go_at_call 16; (with_reducible refine (cK1 _ hb6).mono ?_); rintro e w7 ⟨rfl, hb7⟩; have hbv := bt (bt hbw hb6) hb7)
            | (go_at_call 17; (with_reducible refine (wk_anc hV hC _ (tn HT.out hbv)).mono ?_); rintro e wz ⟨rfl, hbz⟩))
          go_ret
          exact ⟨rfl, bt hbv hbz⟩
        | false =>
          have cC1 : ∀ W, Below w.heap.size w W → Calls Tryd.prog 15 #[.agg #[.int .i64 z2, .int .i64 d2, .int .i64 s2, .int .i64 l2, .int .i64 a2], .agg #[.int .i64 x.gen, .int .i64 x.ep, .int .i64 x.pos, .int .i64 x.seq, .int .i64 x.last, .string x.lab, .slice x.HA x.hs.length x.hc]] W fun e w' => e = .returned (.int .i64 1) ∧ Below W.heap.size W w' := HC2.out
          rcases HNN.out with ⟨rfl, gy1, -, hyx⟩ | ⟨rfl, -⟩
          · have hyd : y.d ≠ x.d := by rw [HYD.out]; exact hyx rfl
            obtain ⟨s1, s2', -⟩ := short_of HK.out gy1 HYD.out
            have cK1 : ∀ W, Below w5.heap.size w5 W → Calls Tryd.prog 16 #[y.v, x.v] W fun e w' => e = .returned (.bool false) ∧ Below W.heap.size W w' := fun W hW => by
              have := anchor_any y x W (HYI.out.next hW) (HX.out.next (bt hbw hW)) s1 s2'
              rwa [decide_eq_false hyd] at this
            unfold AV.v at cK1
            clear hyd hyx gy1
            go_wp2_with (first
              | (go_at_call 15; (with_reducible refine (cC1 _ hbw).mono ?_); rintro e w6 ⟨rfl, hb6⟩; have y0 := kst hb6 lY5 y0; have y1 := kst hb6 lY5 y1; have y2 := kst hb6 lY5 y2; have y3 := kst hb6 lY5 y3; have y4 := kst hb6 lY5 y4; have y5 := kst hb6 lY5 y5''; have y6 := kst hb6 lY5 y6; have c0 := kst hb6 lx5 c0; have c1 := kst hb6 lx5 c1; have c2 := kst hb6 lx5 c2; have c3 := kst hb6 lx5 c3; have c4 := kst hb6 lx5 c4; have c5 := kst hb6 lx5 c5; have c6 := kst hb6 lx5 c6)
              | (go_at_call 16; (with_reducible refine (cK1 _ hb6).mono ?_); rintro e w7 ⟨rfl, hb7⟩; have hbv := bt (bt hbw hb6) hb7)
              | (go_at_call 17; (with_reducible refine (wk_anc hV hC _ (tn HT.out hbv)).mono ?_); rintro e wz ⟨rfl, hbz⟩))
            go_ret
            exact ⟨rfl, bt hbv hbz⟩
          · go_wp2_with (first
              | (go_at_call 15; (with_reducible refine (cC1 _ hbw).mono ?_); rintro e w6 ⟨rfl, hb6⟩; have hbv := bt hbw hb6)
              | (go_at_call 17; (with_reducible refine (wk_anc hV hC _ (tn HT.out hbv)).mono ?_); rintro e wz ⟨rfl, hbz⟩))
            go_ret
            exact ⟨rfl, bt hbv hbz⟩
theorem anchorOthers_law (hV : ValidOk) (hC : CloneOk) (z d s l a z2 d2 s2 l2 a2 : Int) (x : AV) (w : World) (hT : Tabs w) (hx : x.In w w.heap.size) :
    Calls Tryd.prog 8 #[.agg #[.int .i64 z, .int .i64 d, .int .i64 s, .int .i64 l, .int .i64 a], .agg #[.int .i64 z2, .int .i64 d2, .int .i64 s2, .int .i64 l2, .int .i64 a2], x.v] w fun e w' => e = .returned (.bool true) ∧ Below w.heap.size w w' := by
  by_cases hh : HeavyA x.d
  · exact ao_heavy z d s l a z2 d2 s2 l2 a2 x w hx hh
  by_cases ho : Ok z d s l a
  case neg => exact ao_geo z d s l a z2 d2 s2 l2 a2 x w hx hh ho
  by_cases hk : Ok z2 d2 s2 l2 a2
  case neg => exact ao_geo2 z d s l a z2 d2 s2 l2 a2 x w hx hh ho hk
  by_cases hg : Good z d s l x.d
  case neg => exact ao_bad z d s l a z2 d2 s2 l2 a2 x w hx hh ho hk hg
  have hlen : (encA x.d).length ≤ 4294967296 := by
    have h1 := encA_len (good_b ho hg)
    have h2 : x.lab.size ≤ 24 := by have := lab_len hg.2.2.2.2.2.2.1; rwa [size_list] at this
    have h3 := Nat.mul_le_mul (show z.toNat ≤ 4 by have := ho.1; omega) (show d.toNat + 6 ≤ 10 by have := ho.2.1; omega)
    have h4 : (encA x.d).length = 18 + x.lab.size + z.toNat * (d.toNat + 6) := h1
    omega
  by_cases hc : Good z2 d2 s2 l2 x.d
  · exact ao_go hV hC true 0 x.d z d s l a z2 d2 s2 l2 a2 x w hT hx hh ho hk hg (iff_of_true rfl hc) (.inl ⟨rfl, hc, fun _ => rfl, fun h => by cases h⟩) fun W X y hW h1 h2 h3 => read_yes hV z2 d2 s2 l2 a2 X y _ _ x.d W (tn hT hW) hk rfl h1 h2 h3 hlen hc rfl
  · by_cases he : ∃ u, Good z2 d2 s2 l2 u ∧ encA x.d = encA u
    · obtain ⟨u, hu, hue⟩ := he
      exact ao_go hV hC false 0 u z d s l a z2 d2 s2 l2 a2 x w hT hx hh ho hk hg (iff_of_false Bool.false_ne_true hc) (.inl ⟨rfl, hu, fun h => (by cases h), fun _ h => hc (h ▸ hu)⟩) fun W X y hW h1 h2 h3 => read_yes hV z2 d2 s2 l2 a2 X y _ _ u W (tn hT hW) hk rfl h1 h2 h3 hlen hu hue
    · exact ao_go hV hC false 4 noAnc z d s l a z2 d2 s2 l2 a2 x w hT hx hh ho hk hg (iff_of_false Bool.false_ne_true hc) (.inr ⟨rfl, rfl⟩) fun W X y hW h1 h2 h3 => read_not hV z2 d2 s2 l2 a2 X y _ _ W (tn hT hW) hk rfl h1 h2 h3 hlen fun u hu h => he ⟨u, hu, h⟩
end Go.Proofs.YtkpbfhjpmhgmoaaDoor.anc
