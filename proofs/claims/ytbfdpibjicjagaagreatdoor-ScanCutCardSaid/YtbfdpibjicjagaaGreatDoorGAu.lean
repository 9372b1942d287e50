/-
  Is an anchor more than the statements play? Conditions: none.
  Package anchor's functions as the laws call them: each by its contract, for every input. Conditions: 'ValidOk', 'CloneOk', 'Tabs' as package label's contracts ask (proved apart); texts and bytes shorter than 2^32.
-/
import Derived.Test.YtbfdpibjicjagaaGreatDoorGAn
import Derived.Test.YtbfdpibjicjagaaGreatDoorGAs
import Derived.Test.YtbfdpibjicjagaaGreatDoorLblRef
import Derived.Test.YtbfdpibjicjagaaGreatDoorGGm
set_option maxHeartbeats 2000000
set_option maxRecDepth 100000
namespace Go.Proofs.YtbfdpibjicjagaaGreatDoor.anc
open Go.RowKit Go.Lib
def HeavyA (a : Anc) : Prop := 10 < a.hs.length ∨ 200 < a.lab.size ∨ ∃ h ∈ a.hs, 20 < h.ps.length
theorem heavy_any (c : Bool) (x : AV) (w : World) (hx : x.In w w.heap.size) (hc : c = true ↔ HeavyA x.d) :
  Calls Tryz.prog 10 #[x.v] w fun e w' => e = .returned (.bool c) ∧ Below w.heap.size w w' := by
 unfold AV.v
 have hb0 := bl w (.cells #[.int .i64 x.gen, .int .i64 x.ep, .int .i64 x.pos, .int .i64 x.seq, .int .i64 x.last, .string x.lab, .slice x.HA x.hs.length x.hc] 26)
 have hl : w.heap.size < (w.alloc (.cells #[.int .i64 x.gen, .int .i64 x.ep, .int .i64 x.pos, .int .i64 x.seq, .int .i64 x.last, .string x.lab, .slice x.HA x.hs.length x.hc] 26)).heap.size := by simp
 obtain ⟨-, -, -, -, -, -, k6⟩ := ac_new w x
 by_cases h1 : 10 < x.hs.length
 ·obtain rfl : c = true := hc.2 (.inl (by show 10 < (hds x.hs).length; rw [hds_length]; exact h1))
  have i1 : (10 : Int) < (x.hs.length : Int) := by omega
  clear hc hx k6
  go_enter Tryz.func10, Tryz.ntmps10
  go_wp2
  go_ret
  exact ⟨rfl, hb0⟩
 have i1 : (x.hs.length : Int) ≤ 10 := by omega
 by_cases h2 : 200 < x.lab.size
 ·obtain rfl : c = true := hc.2 (.inr (.inl h2))
  have i2 : (200 : Int) < (x.lab.size : Int) := by omega
  clear hc hx k6
  go_enter Tryz.func10, Tryz.ntmps10
  go_wp2
  go_ret
  exact ⟨rfl, hb0⟩
 have i2 : (x.lab.size : Int) ≤ 200 := by omega
 have HC : Hid (c = true ↔ ∃ h ∈ hds x.hs, 20 < h.ps.length) := Lib.hid (hc.trans ⟨fun h => (h.resolve_left (by show ¬ 10 < (hds x.hs).length; rw [hds_length]; exact h1)).resolve_left h2, fun h => .inr (.inr h)⟩)
 have HX := Lib.hid hx
 clear hc hx
 go_enter Tryz.func10, Tryz.ntmps10
 go_wp2_with fail
 generalize w.alloc (.cells #[.int .i64 x.gen, .int .i64 x.ep, .int .i64 x.pos, .int .i64 x.seq, .int .i64 x.last, .string x.lab, .slice x.HA x.hs.length x.hc] 26) = w0 at *
 go_loop [3] (fun i => ∃ k : Nat, i = .int .i64 k ∧ k ≤ x.hs.length ∧ ∀ h ∈ (hds x.hs).take k, ¬ 20 < h.ps.length) (fun i => x.hs.length - (RowKit.intOf i).toNat)
 case atStart => exact ⟨0, rfl, by omega, fun h hh => by simp at hh⟩
 case round =>
  obtain ⟨k, rfl, hk, hs2⟩ := hrel
  by_cases hlt : k < x.hs.length
  ·have j1 : (k : Int) < (x.hs.length : Int) := by omega
   have hX := HX.out.next hb0
   obtain ⟨b1, off, u, e3, hb1, r0, r1, r2, m1, hu, -, e1⟩ := home_at hX.hh hX.hi hlt
   rw [e3] at k6
   by_cases h3 : 20 < u.ps.length
   ·have j3 : (20 : Int) < (u.ps.length : Int) := by omega
    have H : Hid (c = true) := Lib.hid (HC.out.2 ⟨u.d, List.mem_of_getElem? e1, h3⟩)
    clear hs2 e1 e3 hX hu m1
    go_wp2_with fail
    go_ret
    exact ⟨ret_bool H.out.symm, hb0⟩
   ·have j3 : (u.ps.length : Int) ≤ 20 := by omega
    have HN : Hid (∀ h ∈ (hds x.hs).take (k + 1), ¬ 20 < h.ps.length) := Lib.hid fun h hm => by
     rw [take_next e1] at hm
     rcases List.mem_append.1 hm with hm | hm
     ·exact hs2 h hm
     ·obtain rfl := List.mem_singleton.1 hm
      exact h3
    clear hs2 e1 e3 hX hu m1
    go_wp2_with fail
    go_round
    case rel => exact ⟨k + 1, by go_num, by omega, HN.out⟩
    case measure => simp [RowKit.intOf]; omega
  ·have j1 : ¬ (k : Int) < (x.hs.length : Int) := by omega
   have H : Hid (c = false) := Lib.hid (by
    cases c
    ·rfl
    ·obtain ⟨h, hh, h20⟩ := HC.out.1 rfl
     exact absurd h20 (hs2 h (by rw [List.take_of_length_le (by rw [hds_length]; omega)]; exact hh)))
   clear hs2
   go_wp2_with fail
   go_ret
   exact ⟨ret_bool H.out.symm, hb0⟩
theorem light {x : AV} (h : ¬ HeavyA x.d) : x.hs.length ≤ 10 ∧ x.lab.size ≤ 200 ∧ HShort 20 x.hs := by
 refine ⟨Nat.le_of_not_lt fun k => h (.inl (by show 10 < (hds x.hs).length; rw [hds_length]; exact k)), Nat.le_of_not_lt fun k => h (.inr (.inl k)), fun r hr => Nat.le_of_not_lt fun k => h (.inr (.inr ⟨r.d, List.mem_map_of_mem hr, k⟩))⟩
end Go.Proofs.YtbfdpibjicjagaaGreatDoor.anc
namespace Go.Proofs.YtbfdpibjicjagaaGreatDoor.anc
open Go.RowKit Go.Lib
open Go.Proofs.YtbfdpibjicjagaaGreatDoor.gmt (Ok five_new check_ok check_no)
open Go.Proofs.YtbfdpibjicjagaaGreatDoor.lbl (encL labE ValidOk Tabs ref_label)
theorem tn {w w' : World} (h : Tabs w) (hb : Below w.heap.size w w') : Tabs w' := h.next hb
theorem check_p (hV : ValidOk) (z d s l a : Int) (c : Bool) (x : AV) (w : World) (hT : Tabs w) (ho : Ok z d s l a) (hx : x.In w w.heap.size) (hlab : x.lab.size ≤ 4294967296) (hc : c = true ↔ Good z d s l x.d) :
  Calls Tryz.prog 29 #[.agg #[.int .i64 z, .int .i64 d, .int .i64 s, .int .i64 l, .int .i64 a], x.v] w fun e w' => e = .returned (.int .i64 (errC c)) ∧ Below w.heap.size w w' :=
 check_any c z d s l a (labE x.lab.data.toList) x w ho hx (fun W hW => lbl.check_any hV x.lab W (by omega) (tn hT hW)) hc
theorem right_p (z d s l a : Int) (c : Bool) (x : AV) (w : World) (ho : Ok z d s l a) (hx : x.In w w.heap.size) (hn : x.hs.length ≤ 1048576) (ht : HShort 1048576 x.hs) (hlab : x.lab.size ≤ 4294967296) (hc : c = true ↔ Good z d s l x.d) :
  Calls Tryz.prog 16 #[.agg #[.int .i64 z, .int .i64 d, .int .i64 s, .int .i64 l, .int .i64 a], x.v] w fun e w' => e = .returned (.bool c) ∧ Below w.heap.size w w' :=
 right_any c z d s l a (labE x.lab.data.toList) x w ho hx hn ht (fun W => (ref_label x.lab W (by omega)).mono fun e w' h => ⟨h.1, by rw [← h.2]; exact Below.refl _ _⟩) hc
theorem upto_get {q i : Nat} (h : i < (upto q).length) : (upto q)[i] = (i : Int) := by simp [upto]
theorem first_good {z d s l a : Int} {lab : ByteArray} (ho : Ok z d s l a) (hE : labE lab.data.toList = 0) : Good z d s l (firstA z d lab) := by
 obtain ⟨o1, o2, o3, o4, -⟩ := ho
 refine ⟨by show (0 : Int) ≤ 1 ∧ (1 : Int) ≤ 4294967295; omega, by show (0 : Int) ≤ 0 ∧ (0 : Int) ≤ 4294967295; omega, by show (1 : Int) ≤ 1 ∧ (1 : Int) ≤ 4294967295; omega, by show (0 : Int) ≤ 0 ∧ (0 : Int) ≤ 4294967295; omega, by show (1 : Int) - 1 ≤ 0; omega, ⟨Int.le_refl _, by show (0 : Int) ≤ l - 1; omega⟩, hE, ?_, ?_⟩
 ·show ((List.replicate z.toNat (newH d)).length : Int) = z
  rw [List.length_replicate]
  omega
 ·intro h hh
  obtain rfl := List.eq_of_mem_replicate hh
  refine ⟨?_, ⟨Int.le_refl _, by show d + 1 ≤ d + 1 + s; omega⟩, by show (0 : Int) ≤ 0 ∧ (0 : Int) ≤ 4294967295; omega, fun i hi => ?_⟩
  ·show ((upto (d.toNat + 1)).length : Int) = d + 1
   rw [upto_length]
   omega
  ·have hi' : i < d.toNat + 1 := by have := hi; rwa [show (newH d).ps.length = d.toNat + 1 from upto_length _] at this
   refine ⟨?_, fun k hk => ?_⟩
   ·show 0 ≤ (upto (d.toNat + 1))[i]'(by rw [upto_length]; exact hi') ∧ (upto (d.toNat + 1))[i]'(by rw [upto_length]; exact hi') ≤ d + 1 - 1
    rw [upto_get]
    omega
   ·show (upto (d.toNat + 1))[k]'(by rw [upto_length]; omega) ≠ (upto (d.toNat + 1))[i]'(by rw [upto_length]; exact hi')
    rw [upto_get, upto_get]
    omega
end Go.Proofs.YtbfdpibjicjagaaGreatDoor.anc
