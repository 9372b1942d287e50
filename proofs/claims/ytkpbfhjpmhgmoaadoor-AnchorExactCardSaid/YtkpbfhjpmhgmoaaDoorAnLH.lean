/-
  The law AnchorExact: what is said of anchors is what the document says. Conditions: 'ValidOk', 'CloneOk', 'Tabs'.
-/
import Derived.Test.YtkpbfhjpmhgmoaaDoorAnW
import Derived.Test.YtkpbfhjpmhgmoaaDoorAnRB
import Derived.Test.YtkpbfhjpmhgmoaaDoorAnRD
import Derived.Test.YtkpbfhjpmhgmoaaDoorKeep
import Derived.Deep.RegionHeld3
import Derived.Deep.CutRange
namespace Go.Proofs.YtkpbfhjpmhgmoaaDoor.anc
open Go.RowKit Go.Lib
open Go.Proofs.YtkpbfhjpmhgmoaaDoor.gmt (Ok five_new rgeo_at)
open Go.Proofs.YtkpbfhjpmhgmoaaDoor.lbl (encL readL labE lab_len ValidOk CloneOk Tabs ref_label)

set_option maxRecDepth 100000 in
set_option maxHeartbeats 16000000 in
theorem ae_heavy (z d s l a : Int) (x : AV) (lab : ByteArray) (A : Option Addr) (n c : Nat) (w : World) (hx : x.In w w.heap.size) (hh : HeavyA x.d) :
    Calls Tryd.prog 3 #[.agg #[.int .i64 z, .int .i64 d, .int .i64 s, .int .i64 l, .int .i64 a], x.v, .string lab, .slice A n c] w fun e w' => e = .returned (.bool true) ∧ Below w.heap.size w w' := by
  have cH := fun W (hW : Below w.heap.size w W) => heavy_any true x W (hx.next hW) (iff_of_true rfl hh)
  unfold AV.v
  have GG := (g5_new w z d s l a).keep (bl (w.alloc (.cells #[.int .i64 z, .int .i64 d, .int .i64 s, .int .i64 l, .int .i64 a] 23)) (.cells #[.int .i64 x.gen, .int .i64 x.ep, .int .i64 x.pos, .int .i64 x.seq, .int .i64 x.last, .string x.lab, .slice x.HA x.hs.length x.hc] 26)) (by simp)
  have FF := ac_new (w.alloc (.cells #[.int .i64 z, .int .i64 d, .int .i64 s, .int .i64 l, .int .i64 a] 23)) x
  have hb0 := kal (bl w (.cells #[.int .i64 z, .int .i64 d, .int .i64 s, .int .i64 l, .int .i64 a] 23)) (.cells #[.int .i64 x.gen, .int .i64 x.ep, .int .i64 x.pos, .int .i64 x.seq, .int .i64 x.last, .string x.lab, .slice x.HA x.hs.length x.hc] 26)
  rw [show (w.alloc (.cells #[.int .i64 z, .int .i64 d, .int .i64 s, .int .i64 l, .int .i64 a] 23)).heap.size = w.heap.size + 1 by simp] at FF
  have l1 : w.heap.size + 1 < ((w.alloc (.cells #[.int .i64 z, .int .i64 d, .int .i64 s, .int .i64 l, .int .i64 a] 23)).alloc (.cells #[.int .i64 x.gen, .int .i64 x.ep, .int .i64 x.pos, .int .i64 x.seq, .int .i64 x.last, .string x.lab, .slice x.HA x.hs.length x.hc] 26)).heap.size := by simp
  unfold AV.v at cH
  clear hx hh
  go_enter Tryd.func3, Tryd.ntmps3
  go_upto_region 1 with fail
  generalize (w.alloc (.cells #[.int .i64 z, .int .i64 d, .int .i64 s, .int .i64 l, .int .i64 a] 23)).alloc (.cells #[.int .i64 x.gen, .int .i64 x.ep, .int .i64 x.pos, .int .i64 x.seq, .int .i64 x.last, .string x.lab, .slice x.HA x.hs.length x.hc] 26) = w0 at *
  obtain ⟨c0, c1, c2, c3, c4, c5, c6⟩ := id FF
  obtain ⟨g0, g1, g2, g3, g4⟩ := id GG
  go_wp2_with (first
    | (go_at_call 9; (with_reducible refine (cH _ hb0).mono ?_); rintro e wq ⟨rfl, hbq⟩; replace FF := FF.keep hbq (by omega); replace GG := GG.keep hbq (by omega); replace l1 := Nat.lt_of_lt_of_le l1 hbq.size; clear c0 c1 c2 c3 c4 c5 c6 g0 g1 g2 g3 g4; obtain ⟨c0, c1, c2, c3, c4, c5, c6⟩ := id FF; obtain ⟨g0, g1, g2, g3, g4⟩ := id GG; replace hb0 := bt hb0 hbq; clear hbq))
  go_ret
  exact ⟨rfl, hb0⟩
set_option maxRecDepth 100000 in
set_option maxHeartbeats 16000000 in
theorem ae_lab (z d s l a : Int) (x : AV) (lab : ByteArray) (A : Option Addr) (n c : Nat) (w : World) (hx : x.In w w.heap.size) (hh : ¬ HeavyA x.d) (hl : 200 < lab.size) (hl2 : lab.size ≤ maxLen) :
    Calls Tryd.prog 3 #[.agg #[.int .i64 z, .int .i64 d, .int .i64 s, .int .i64 l, .int .i64 a], x.v, .string lab, .slice A n c] w fun e w' => e = .returned (.bool true) ∧ Below w.heap.size w w' := by
  have cH := fun W (hW : Below w.heap.size w W) => heavy_any false x W (hx.next hW) (iff_of_false Bool.false_ne_true hh)
  unfold maxLen at hl2
  have i1 : (200 : Int) < (lab.size : Int) := by omega
  unfold AV.v
  have GG := (g5_new w z d s l a).keep (bl (w.alloc (.cells #[.int .i64 z, .int .i64 d, .int .i64 s, .int .i64 l, .int .i64 a] 23)) (.cells #[.int .i64 x.gen, .int .i64 x.ep, .int .i64 x.pos, .int .i64 x.seq, .int .i64 x.last, .string x.lab, .slice x.HA x.hs.length x.hc] 26)) (by simp)
  have FF := ac_new (w.alloc (.cells #[.int .i64 z, .int .i64 d, .int .i64 s, .int .i64 l, .int .i64 a] 23)) x
  have hb0 := kal (bl w (.cells #[.int .i64 z, .int .i64 d, .int .i64 s, .int .i64 l, .int .i64 a] 23)) (.cells #[.int .i64 x.gen, .int .i64 x.ep, .int .i64 x.pos, .int .i64 x.seq, .int .i64 x.last, .string x.lab, .slice x.HA x.hs.length x.hc] 26)
  rw [show (w.alloc (.cells #[.int .i64 z, .int .i64 d, .int .i64 s, .int .i64 l, .int .i64 a] 23)).heap.size = w.heap.size + 1 by simp] at FF
  have l1 : w.heap.size + 1 < ((w.alloc (.cells #[.int .i64 z, .int .i64 d, .int .i64 s, .int .i64 l, .int .i64 a] 23)).alloc (.cells #[.int .i64 x.gen, .int .i64 x.ep, .int .i64 x.pos, .int .i64 x.seq, .int .i64 x.last, .string x.lab, .slice x.HA x.hs.length x.hc] 26)).heap.size := by simp
  unfold AV.v at cH
  clear hx hh
  go_enter Tryd.func3, Tryd.ntmps3
  go_upto_region 1 with fail
  generalize (w.alloc (.cells #[.int .i64 z, .int .i64 d, .int .i64 s, .int .i64 l, .int .i64 a] 23)).alloc (.cells #[.int .i64 x.gen, .int .i64 x.ep, .int .i64 x.pos, .int .i64 x.seq, .int .i64 x.last, .string x.lab, .slice x.HA x.hs.length x.hc] 26) = w0 at *
  obtain ⟨c0, c1, c2, c3, c4, c5, c6⟩ := id FF
  obtain ⟨g0, g1, g2, g3, g4⟩ := id GG
  go_wp2_with (first
    | (go_at_call 9; (with_reducible refine (cH _ hb0).mono ?_); rintro e wq ⟨rfl, hbq⟩; replace FF := FF.keep hbq (by omega); replace GG := GG.keep hbq (by omega); replace l1 := Nat.lt_of_lt_of_le l1 hbq.size; clear c0 c1 c2 c3 c4 c5 c6 g0 g1 g2 g3 g4; obtain ⟨c0, c1, c2, c3, c4, c5, c6⟩ := id FF; obtain ⟨g0, g1, g2, g3, g4⟩ := id GG; replace hb0 := bt hb0 hbq; clear hbq))
  go_ret
  exact ⟨rfl, hb0⟩
set_option maxRecDepth 100000 in
set_option maxHeartbeats 16000000 in
theorem ae_long (z d s l a : Int) (x : AV) (lab : ByteArray) (A : Option Addr) (n c : Nat) (w : World) (hx : x.In w w.heap.size) (hh : ¬ HeavyA x.d) (hl : ¬ 200 < lab.size) (hn : 300 < n) :
    Calls Tryd.prog 3 #[.agg #[.int .i64 z, .int .i64 d, .int .i64 s, .int .i64 l, .int .i64 a], x.v, .string lab, .slice A n c] w fun e w' => e = .returned (.bool true) ∧ Below w.heap.size w w' := by
  have cH := fun W (hW : Below w.heap.size w W) => heavy_any false x W (hx.next hW) (iff_of_false Bool.false_ne_true hh)
  have i1 : ¬ (200 : Int) < (lab.size : Int) := by omega
  have i2 : (300 : Int) < (n : Int) := by omega
  unfold AV.v
  have GG := (g5_new w z d s l a).keep (bl (w.alloc (.cells #[.int .i64 z, .int .i64 d, .int .i64 s, .int .i64 l, .int .i64 a] 23)) (.cells #[.int .i64 x.gen, .int .i64 x.ep, .int .i64 x.pos, .int .i64 x.seq, .int .i64 x.last, .string x.lab, .slice x.HA x.hs.length x.hc] 26)) (by simp)
  have FF := ac_new (w.alloc (.cells #[.int .i64 z, .int .i64 d, .int .i64 s, .int .i64 l, .int .i64 a] 23)) x
  have hb0 := kal (bl w (.cells #[.int .i64 z, .int .i64 d, .int .i64 s, .int .i64 l, .int .i64 a] 23)) (.cells #[.int .i64 x.gen, .int .i64 x.ep, .int .i64 x.pos, .int .i64 x.seq, .int .i64 x.last, .string x.lab, .slice x.HA x.hs.length x.hc] 26)
  rw [show (w.alloc (.cells #[.int .i64 z, .int .i64 d, .int .i64 s, .int .i64 l, .int .i64 a] 23)).heap.size = w.heap.size + 1 by simp] at FF
  have l1 : w.heap.size + 1 < ((w.alloc (.cells #[.int .i64 z, .int .i64 d, .int .i64 s, .int .i64 l, .int .i64 a] 23)).alloc (.cells #[.int .i64 x.gen, .int .i64 x.ep, .int .i64 x.pos, .int .i64 x.seq, .int .i64 x.last, .string x.lab, .slice x.HA x.hs.length x.hc] 26)).heap.size := by simp
  unfold AV.v at cH
  clear hx hh
  go_enter Tryd.func3, Tryd.ntmps3
  go_upto_region 1 with fail
  generalize (w.alloc (.cells #[.int .i64 z, .int .i64 d, .int .i64 s, .int .i64 l, .int .i64 a] 23)).alloc (.cells #[.int .i64 x.gen, .int .i64 x.ep, .int .i64 x.pos, .int .i64 x.seq, .int .i64 x.last, .string x.lab, .slice x.HA x.hs.length x.hc] 26) = w0 at *
  obtain ⟨c0, c1, c2, c3, c4, c5, c6⟩ := id FF
  obtain ⟨g0, g1, g2, g3, g4⟩ := id GG
  go_wp2_with (first
    | (go_at_call 9; (with_reducible refine (cH _ hb0).mono ?_); rintro e wq ⟨rfl, hbq⟩; replace FF := FF.keep hbq (by omega); replace GG := GG.keep hbq (by omega); replace l1 := Nat.lt_of_lt_of_le l1 hbq.size; clear c0 c1 c2 c3 c4 c5 c6 g0 g1 g2 g3 g4; obtain ⟨c0, c1, c2, c3, c4, c5, c6⟩ := id FF; obtain ⟨g0, g1, g2, g3, g4⟩ := id GG; replace hb0 := bt hb0 hbq; clear hbq))
  go_ret
  exact ⟨rfl, hb0⟩
end Go.Proofs.YtkpbfhjpmhgmoaaDoor.anc
