/-
  Is an anchor more than the statements play? Conditions: none.
-/
import Derived.Test.YtkpbfhjpmhgmoaaDoorGAn
namespace Go.Proofs.YtkpbfhjpmhgmoaaDoor.anc
open Go.RowKit Go.Lib

def HeavyA (a : Anc) : Prop := 10 < a.hs.length ∨ 200 < a.lab.size ∨ ∃ h ∈ a.hs, 20 < h.ps.length

set_option maxHeartbeats 2000000 in
theorem heavy_any (c : Bool) (x : AV) (w : World) (hx : x.In w w.heap.size) (hc : c = true ↔ HeavyA x.d) :
    Calls Tryd.prog 9 #[x.v] w fun e w' => e = .returned (.bool c) ∧ Below w.heap.size w w' := by
  unfold AV.v
  have hb0 := bl w (.cells #[.int .i64 x.gen, .int .i64 x.ep, .int .i64 x.pos, .int .i64 x.seq, .int .i64 x.last, .string x.lab, .slice x.HA x.hs.length x.hc] 26)
  have hl : w.heap.size < (w.alloc (.cells #[.int .i64 x.gen, .int .i64 x.ep, .int .i64 x.pos, .int .i64 x.seq, .int .i64 x.last, .string x.lab, .slice x.HA x.hs.length x.hc] 26)).heap.size := by simp
  obtain ⟨-, -, -, -, -, -, k6⟩ := ac_new w x
  by_cases h1 : 10 < x.hs.length
  · obtain rfl : c = true := hc.2 (.inl (by show 10 < (hds x.hs).length; rw [hds_length]; exact h1))
    have i1 : (10 : Int) < (x.hs.length : Int) := by omega
    clear hc hx k6
    go_enter Tryd.func9, Tryd.ntmps9
    go_wp2
    go_ret
    exact ⟨rfl, hb0⟩
  have i1 : (x.hs.length : Int) ≤ 10 := by omega
  by_cases h2 : 200 < x.lab.size
  · obtain rfl : c = true := hc.2 (.inr (.inl h2))
    have i2 : (200 : Int) < (x.lab.size : Int) := by omega
    clear hc hx k6
    go_enter Tryd.func9, Tryd.ntmps9
    go_wp2
    go_ret
    exact ⟨rfl, hb0⟩
  have i2 : (x.lab.size : Int) ≤ 200 := by omega
  have HC : Hid (c = true ↔ ∃ h ∈ hds x.hs, 20 < h.ps.length) := Lib.hid (hc.trans ⟨fun h => (h.resolve_left (by show ¬ 10 < (hds x.hs).length; rw [hds_length]; exact h1)).resolve_left h2, fun h => .inr (.inr h)⟩)
  have HX := Lib.hid hx
  clear hc hx
  go_enter Tryd.func9, Tryd.ntmps9
  go_wp2_with fail
  generalize w.alloc (.cells #[.int .i64 x.gen, .int .i64 x.ep, .int .i64 x.pos, .int .i64 x.seq, .int .i64 x.last, .string x.lab, .slice x.HA x.hs.length x.hc] 26) = w0 at *
  go_loop [3] (fun i => ∃ k : Nat, i = .int .i64 k ∧ k ≤ x.hs.length ∧ ∀ h ∈ (hds x.hs).take k, ¬ 20 < h.ps.length) (fun i => x.hs.length - (RowKit.intOf i).toNat)
  case atStart => exact ⟨0, rfl, by omega, fun h hh => by simp at hh⟩
  case round =>
    obtain ⟨k, rfl, hk, hs2⟩ := hrel
    by_cases hlt : k < x.hs.length
    · have j1 : (k : Int) < (x.hs.length : Int) := by omega
      have hX := HX.out.next hb0
      obtain ⟨b1, off, u, e3, hb1, r0, r1, r2, m1, hu, -, e1⟩ := home_at hX.hh hX.hi hlt
      rw [e3] at k6
      by_cases h3 : 20 < u.ps.length
      · have j3 : (20 : Int) < (u.ps.length : Int) := by omega
        have H : Hid (c = true) := Lib.hid (HC.out.2 ⟨u.d, List.mem_of_getElem? e1, h3⟩)
        clear hs2 e1 e3 hX hu m1
        go_wp2_with fail
        go_ret
        exact ⟨ret_bool H.out.symm, hb0⟩
      · have j3 : (u.ps.length : Int) ≤ 20 := by omega
        have HN : Hid (∀ h ∈ (hds x.hs).take (k + 1), ¬ 20 < h.ps.length) := Lib.hid fun h hm => by
          rw [take_next e1] at hm
          rcases List.mem_append.1 hm with hm | hm
          · exact hs2 h hm
          · obtain rfl := List.mem_singleton.1 hm
            exact h3
        clear hs2 e1 e3 hX hu m1
        go_wp2_with fail
        go_round
        case rel => exact ⟨k + 1, by go_num, by omega, HN.out⟩
        case measure => simp [RowKit.intOf]; omega
    · have j1 : ¬ (k : Int) < (x.hs.length : Int) := by omega
      have H : Hid (c = false) := Lib.hid (by
        cases c
        · rfl
        · obtain ⟨h, hh, h20⟩ := HC.out.1 rfl
          exact absurd h20 (hs2 h (by rw [List.take_of_length_le (by rw [hds_length]; omega)]; exact hh)))
      clear hs2
      go_wp2_with fail
      go_ret
      exact ⟨ret_bool H.out.symm, hb0⟩
/-- What is not more. -/
theorem light {x : AV} (h : ¬ HeavyA x.d) : x.hs.length ≤ 10 ∧ x.lab.size ≤ 200 ∧ HShort 20 x.hs := by
  refine ⟨Nat.le_of_not_lt fun k => h (.inl (by show 10 < (hds x.hs).length; rw [hds_length]; exact k)), Nat.le_of_not_lt fun k => h (.inr (.inl k)), fun r hr => Nat.le_of_not_lt fun k => h (.inr (.inr ⟨r.d, List.mem_map_of_mem hr, k⟩))⟩
end Go.Proofs.YtkpbfhjpmhgmoaaDoor.anc
