/-
  The laws' Heavy: what it lets by is small. No condition.
-/
import Derived.Test.YtegcbmimndmfkaaGDkA
import Derived.Deep.QuietTactic
import Derived.BigQuiet
namespace Go.Proofs.Ytegcbmimndmfkaa.dsk
open Go.RowKit Go.Lib

def Light (d : DV) : Prop := d.cs.length ≤ 310 ∧ d.ws.length ≤ 60 ∧ CShort 60000 d.cs ∧ WShort 60000 d.ws
theorem heavy_long (d : DV) (w : World) (h : 310 < d.cs.length ∨ 60 < d.ws.length) :
    Calls Try.prog 10 #[d.v] w fun e w' => e = .returned (.bool true) ∧ Below w.heap.size w w' := by
  have P0 := four_new w (.slice d.CA d.cs.length d.cc) (.slice d.WA d.ws.length d.wc) (.int .i64 d.reqs) (.int .i64 d.left) 25
  have B0 := bl w (.cells #[.slice d.CA d.cs.length d.cc, .slice d.WA d.ws.length d.wc, .int .i64 d.reqs, .int .i64 d.left] 25)
  obtain ⟨c0, c1, c2, c3, -, -, -, -⟩ := id P0
  unfold DV.v
  clear P0
  by_cases a : (310 : Int) < d.cs.length
  · clear h
    go_enter Try.func10, Try.ntmps10
    go_wp2
    go_ret
    exact ⟨rfl, B0⟩
  · have b : (60 : Int) < d.ws.length := by omega
    clear h
    go_enter Try.func10, Try.ntmps10
    go_wp2
    go_ret
    exact ⟨rfl, B0⟩
set_option maxHeartbeats 2000000 in
theorem heavy_at (d : DV) (w : World) (hd : d.In w w.heap.size) :
    Calls Try.prog 10 #[d.v] w fun e w' => (∃ b, e = .returned (.bool b) ∧ (b = false → Light d)) ∧ Below w.heap.size w w' := by
  by_cases h : 310 < d.cs.length ∨ 60 < d.ws.length
  · exact (heavy_long d w h).mono fun e w' k => ⟨⟨true, k.1, fun x => by cases x⟩, k.2⟩
  obtain ⟨CA, cc, cs, WA, wc, ws, reqs, left⟩ := d
  obtain ⟨kc, kw, ci, wi, cl, wl⟩ := hd
  dsimp only at kc kw ci wi cl wl h
  have hm1 : cs.length ≤ 310 := by omega
  have hm2 : ws.length ≤ 60 := by omega
  have n1 : ¬ (310 < (cs.length : Int)) := by omega
  have n2 : ¬ (60 < (ws.length : Int)) := by omega
  clear h
  have P0 := four_new w (.slice CA cs.length cc) (.slice WA ws.length wc) (.int .i64 reqs) (.int .i64 left) 25
  have B0 := bl w (.cells #[.slice CA cs.length cc, .slice WA ws.length wc, .int .i64 reqs, .int .i64 left] 25)
  have S0 : w.heap.size < (w.alloc (.cells #[.slice CA cs.length cc, .slice WA ws.length wc, .int .i64 reqs, .int .i64 left] 25)).heap.size := by simp
  obtain ⟨c0, c1, c2, c3, -, -, -, -⟩ := id P0
  unfold DV.v
  dsimp only
  go_enter Try.func10, Try.ntmps10
  go_wp2_with fail
  generalize w.alloc (.cells #[.slice CA cs.length cc, .slice WA ws.length wc, .int .i64 reqs, .int .i64 left] 25) = w1 at *
  go_loopw [4, 3] (fun i s w' => ∃ k t : Nat, k ≤ cs.length ∧ i = .int .i64 k ∧ s = .int .i64 t ∧ t ≤ k * 200000 ∧ (∀ r ∈ cs.take k, min r.b.l.length 100000 ≤ t ∧ min r.o.l.length 100000 ≤ t) ∧ Four w' w.heap.size (.slice CA cs.length cc) (.slice WA ws.length wc) (.int .i64 reqs) (.int .i64 left) ∧ Below w.heap.size w w' ∧ w.heap.size < w'.heap.size) (fun i _ _ => cs.length - (RowKit.intOf i).toNat)
  case atStart => exact ⟨0, 0, by omega, rfl, rfl, by omega, by simp, P0, B0, S0⟩
  case round =>
    clear P0 B0 S0 c0 c1 c2 c3
    obtain ⟨k, t, hk, rfl, rfl, ht, hs, P1, hbr, hsz⟩ := hrel
    obtain ⟨p0, p1, p2, p3, -, -, -, -⟩ := id P1
    by_cases hlt : k < cs.length
    · obtain ⟨b1, off, x, rfl, hb1, g, g1, g2, -, -, -, ex, -⟩ := cell_at (kc.below hbr) (ci.below hbr) hlt
      have i1 : (k : Int) < (cs.length : Int) := by omega
      have hmin : ∀ a : Nat, min (a : Int) 100000 = ((min a 100000 : Nat) : Int) := fun a => by omega
      have HT : Hid (∀ r ∈ cs.take (k + 1), min r.b.l.length 100000 ≤ t + min x.b.l.length 100000 + min x.o.l.length 100000 ∧ min r.o.l.length 100000 ≤ t + min x.b.l.length 100000 + min x.o.l.length 100000) := fun r hr => by
        rw [take_next ex] at hr
        rcases List.mem_append.1 hr with q | q
        · have := hs r q; omega
        · obtain rfl := List.mem_singleton.1 q
          omega
      have q1 : min x.b.l.length 100000 ≤ 100000 := Nat.min_le_right _ _
      have q2 : min x.o.l.length 100000 ≤ 100000 := Nat.min_le_right _ _
      clear hs kw kc ci wi ex
      go_wp2_with fail
      go_quiet (fail)
      go_wp2
      go_roundw
      case rel => exact ⟨k + 1, t + min x.b.l.length 100000 + min x.o.l.length 100000, by omega, by go_num, congrArg (Value.int .i64) (by omega), by omega, HT.out, P1.keep (below_dn (Below.refl _ _) _) hsz, below_dn hbr _, Nat.lt_of_lt_of_le hsz (below_dn (Below.refl 0 _) _).size⟩
      case measure => simp [RowKit.intOf]; omega
    · have HS : Hid (∀ r ∈ cs, min r.b.l.length 100000 ≤ t ∧ min r.o.l.length 100000 ≤ t) := by
        rw [List.take_of_length_le (by omega)] at hs
        exact hs
      have ht2 : t ≤ 62000000 := by omega
      clear hs ht
      go_wp2_with fail
      clear p0 p1 p2 p3 hlt hk
      go_loopw [5, 3] (fun i s w' => ∃ k t2 : Nat, k ≤ ws.length ∧ i = .int .i64 k ∧ s = .int .i64 t2 ∧ t2 ≤ t + k * 100000 ∧ t ≤ t2 ∧ (∀ r ∈ ws.take k, min r.b.l.length 100000 ≤ t2) ∧ Four w' w.heap.size (.slice CA cs.length cc) (.slice WA ws.length wc) (.int .i64 reqs) (.int .i64 left) ∧ Below w.heap.size w w' ∧ w.heap.size < w'.heap.size) (fun i _ _ => ws.length - (RowKit.intOf i).toNat)
      case atStart => exact ⟨0, t, by omega, rfl, rfl, by omega, by omega, by simp, P1, hbr, hsz⟩
      case round =>
        clear P1 hbr hsz
        obtain ⟨k, t2, hk, rfl, rfl, ht, htt, hs, P1, hbr, hsz⟩ := hrel
        obtain ⟨p0, p1, p2, p3, -, -, -, -⟩ := id P1
        by_cases hlt : k < ws.length
        · obtain ⟨b1, off, x, rfl, hb1, g, g1, -, -, ex, -⟩ := write_at (kw.below hbr) (wi.below hbr) hlt
          have i1 : (k : Int) < (ws.length : Int) := by omega
          have hmin : ∀ a : Nat, min (a : Int) 100000 = ((min a 100000 : Nat) : Int) := fun a => by omega
          have HT : Hid (∀ r ∈ ws.take (k + 1), min r.b.l.length 100000 ≤ t2 + min x.b.l.length 100000) := fun r hr => by
            rw [take_next ex] at hr
            rcases List.mem_append.1 hr with q | q
            · have := hs r q; omega
            · obtain rfl := List.mem_singleton.1 q
              omega
          have q1 : min x.b.l.length 100000 ≤ 100000 := Nat.min_le_right _ _
          clear hs kw kc ci wi ex HS
          go_wp2_with fail
          go_roundw
          case rel => exact ⟨k + 1, t2 + min x.b.l.length 100000, by omega, by go_num, congrArg (Value.int .i64) (by omega), by omega, by omega, HT.out, P1, hbr, hsz⟩
          case measure => simp [RowKit.intOf]; omega
        · have HL : Hid (decide (60000 < (t2 : Int)) = false → Light ⟨CA, cc, cs, WA, wc, ws, reqs, left⟩) := fun h => by
            have h2 : ¬ (60000 < (t2 : Int)) := of_decide_eq_false h
            rw [List.take_of_length_le (by omega)] at hs
            refine ⟨hm1, hm2, fun r hr => ?_, fun r hr => ?_⟩
            · have := HS.out r hr
              omega
            · have := hs r hr
              omega
          clear hs HS kw kc ci wi
          go_wp2
          go_ret
          exact ⟨⟨_, rfl, HL.out⟩, hbr⟩
end Go.Proofs.Ytegcbmimndmfkaa.dsk
