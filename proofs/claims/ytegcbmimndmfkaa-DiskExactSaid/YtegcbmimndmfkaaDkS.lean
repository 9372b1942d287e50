/-
  The document's disk: Right, whole. No condition.
-/
import Derived.Test.YtegcbmimndmfkaaDkR
import Derived.Test.YtegcbmimndmfkaaGDkA
namespace Go.Proofs.Ytegcbmimndmfkaa.dsk
open Go.RowKit Go.Lib

set_option maxHeartbeats 4000000 in
theorem right_at (d : DV) (w : World) (hd : d.In w w.heap.size) :
    Calls Try.prog 18 #[d.v] w fun e w' => e = .returned (.bool (decide (Valid d.d))) ∧ Below w.heap.size w w' := by
  by_cases hc : ¬ Counts d.d
  · rw [show decide (Valid d.d) = false from decide_eq_false fun h => hc h.1]
    exact right_not d w hc
  have hc := Decidable.not_not.1 hc
  have HC := Lib.hid hc
  have hq := (counts_iff d).1 hc
  clear hc
  obtain ⟨CA, cc, cs, WA, wc, ws, reqs, left⟩ := d
  obtain ⟨kc, kw, ci, wi, cl, wl⟩ := hd
  dsimp only at kc kw ci wi cl wl
  unfold DV.v
  dsimp only
  have hcl : (DV.d ⟨CA, cc, cs, WA, wc, ws, reqs, left⟩).cells.length = cs.length := cds_length cs
  have E0 : Hid ((∀ x ∈ cds cs, OkCel x) → (∀ x ∈ wds ws, OkWri cs.length x) → decide (Valid (DV.d ⟨CA, cc, cs, WA, wc, ws, reqs, left⟩)) = true) := fun h k => decide_eq_true ⟨HC.out, h, by rw [hcl]; exact k⟩
  have E1 : Hid ((∃ x ∈ cds cs, ¬ OkCel x) → decide (Valid (DV.d ⟨CA, cc, cs, WA, wc, ws, reqs, left⟩)) = false) := fun ⟨x, hx, hn⟩ => decide_eq_false fun h => hn (h.2.1 x hx)
  have E2 : Hid ((∃ x ∈ wds ws, ¬ OkWri cs.length x) → decide (Valid (DV.d ⟨CA, cc, cs, WA, wc, ws, reqs, left⟩)) = false) := fun ⟨x, hx, hn⟩ => decide_eq_false fun h => hn (by rw [← hcl]; exact h.2.2 x hx)
  clear HC hcl
  generalize decide (Valid (DV.d ⟨CA, cc, cs, WA, wc, ws, reqs, left⟩)) = E at *
  have P0 := four_new w (.slice CA cs.length cc) (.slice WA ws.length wc) (.int .i64 reqs) (.int .i64 left) 25
  have B0 := bl w (.cells #[.slice CA cs.length cc, .slice WA ws.length wc, .int .i64 reqs, .int .i64 left] 25)
  have S0 : w.heap.size < (w.alloc (.cells #[.slice CA cs.length cc, .slice WA ws.length wc, .int .i64 reqs, .int .i64 left] 25)).heap.size := by simp
  obtain ⟨⟨h1, h2, h3⟩, h4, h5, h6, h7⟩ := hq
  dsimp only at h1 h2 h3 h4 h5 h6 h7
  have n3 : ¬ (2000 < (ws.length : Int)) := by omega
  obtain ⟨c0, c1, c2, c3, -, -, -, -⟩ := id P0
  generalize hW : w.alloc (.cells #[.slice CA cs.length cc, .slice WA ws.length wc, .int .i64 reqs, .int .i64 left] 25) = w1 at *
  have j1 := in_any cs.length 1 300 w1 true (decide_eq_true ⟨by omega, by omega⟩)
  have j2 := in_any reqs 0 1048576 w1 true (decide_eq_true ⟨h4, h5⟩)
  have j3 := in_any left (-1) 1048576 w1 true (decide_eq_true ⟨h6, h7⟩)
  go_enter Try.func18, Try.ntmps18
  go_wp2_with (first | (rw [hW]) | (go_at_call 39; (with_reducible refine j1.mono ?_); rintro e wx ⟨rfl, rfl⟩) | (go_at_call 39; (with_reducible refine j2.mono ?_); rintro e wx ⟨rfl, rfl⟩) | (go_at_call 39; (with_reducible refine j3.mono ?_); rintro e wx ⟨rfl, rfl⟩))
  clear hW j1 j2 j3
  go_loopw [3] (fun i w' => ∃ k : Nat, k ≤ cs.length ∧ i = .int .i64 k ∧ (∀ x ∈ (cds cs).take k, OkCel x) ∧ Four w' w.heap.size (.slice CA cs.length cc) (.slice WA ws.length wc) (.int .i64 reqs) (.int .i64 left) ∧ Below w.heap.size w w' ∧ w.heap.size < w'.heap.size) (fun i _ => cs.length - (RowKit.intOf i).toNat)
  case atStart => exact ⟨0, by omega, rfl, by simp, P0, B0, S0⟩
  case round =>
    clear P0 B0 S0 c0 c1 c2 c3
    rename_i wr
    obtain ⟨k, hk, rfl, hs, P1, hbr, hsz⟩ := hrel
    by_cases hlt : k < cs.length
    · obtain ⟨b1, off, x, rfl, hb1, g, g1, g2, -, -, hx, -, e1⟩ := cell_at (kc.below hbr) (ci.below hbr) hlt
      have i1 : (k : Int) < (cs.length : Int) := by omega
      have X2 : Hid (¬ OkCel x.d → E = false) := fun h => E1.out ⟨x.d, List.mem_of_getElem? e1, h⟩
      have X0 : Hid (OkCel x.d → ∀ y ∈ (cds cs).take (k + 1), OkCel y) := fun h y hy => by
        rw [take_next e1] at hy
        rcases List.mem_append.1 hy with q | q
        · exact hs y q
        · obtain rfl := List.mem_singleton.1 q
          exact h
      have ho : OkCel x.d ↔ (0 ≤ x.st ∧ x.st ≤ 2) ∧ x.b.l.length ≤ 200 ∧ x.o.l.length ≤ 200 := by
        show (0 ≤ x.st ∧ x.st ≤ 2 ∧ x.b.l.length ≤ 200 ∧ x.o.l.length ≤ 200) ↔ _
        exact ⟨fun ⟨a, b, c⟩ => ⟨⟨a, b⟩, c⟩, fun ⟨⟨a, b⟩, c⟩ => ⟨a, b, c⟩⟩
      clear hs kw kc ci wi hx e1 E0 E1 E2
      obtain ⟨p0, p1, p2, p3, -, -, -, -⟩ := id P1
      obtain ⟨t0, t1, t2⟩ := three_new wr (.int .i64 x.st) (.slice x.b.A x.b.l.length x.b.c) (.slice x.o.A x.o.l.length x.o.c) 64
      have hb3 := bl wr (.cells #[.int .i64 x.st, .slice x.b.A x.b.l.length x.b.c, .slice x.o.A x.o.l.length x.o.c] 64)
      have hz : (wr.alloc (.cells #[.int .i64 x.st, .slice x.b.A x.b.l.length x.b.c, .slice x.o.A x.o.l.length x.o.c] 64)).heap.size = wr.heap.size + 1 := by simp
      generalize hW : wr.alloc (.cells #[.int .i64 x.st, .slice x.b.A x.b.l.length x.b.c, .slice x.o.A x.o.l.length x.o.c] 64) = wb at *
      by_cases a : 0 ≤ x.st ∧ x.st ≤ 2
      · have j1 := in_any x.st 0 2 wb true (decide_eq_true a)
        by_cases b : 200 < (x.b.l.length : Int)
        · have H := Lib.hid (X2.out fun h => by have := (ho.1 h).2.1; omega)
          clear X0 X2 ho a
          go_wp2_with (first | (rw [hW]) | (go_at_call 39; (with_reducible refine j1.mono ?_); rintro e wx ⟨rfl, rfl⟩))
          go_ret
          exact ⟨by rw [H.out]; rfl, bt hbr hb3⟩
        · by_cases c : 200 < (x.o.l.length : Int)
          · have H := Lib.hid (X2.out fun h => by have := (ho.1 h).2.2; omega)
            clear X0 X2 ho a
            go_wp2_with (first | (rw [hW]) | (go_at_call 39; (with_reducible refine j1.mono ?_); rintro e wx ⟨rfl, rfl⟩))
            go_ret
            exact ⟨by rw [H.out]; rfl, bt hbr hb3⟩
          · have H := Lib.hid (X0.out (ho.2 ⟨a, by omega, by omega⟩))
            clear X0 X2 ho a
            go_wp2_with (first | (rw [hW]) | (go_at_call 39; (with_reducible refine j1.mono ?_); rintro e wx ⟨rfl, rfl⟩))
            go_roundw
            case rel => exact ⟨k + 1, by omega, by go_num, H.out, P1.keep hb3 hsz, bt hbr hb3, by omega⟩
            case measure => simp [RowKit.intOf]; omega
      · have j1 := in_any x.st 0 2 wb false (decide_eq_false a)
        have H := Lib.hid (X2.out fun h => a (ho.1 h).1)
        clear X0 X2 ho a
        go_wp2_with (first | (rw [hW]) | (go_at_call 39; (with_reducible refine j1.mono ?_); rintro e wx ⟨rfl, rfl⟩))
        go_ret
        exact ⟨by rw [H.out]; rfl, bt hbr hb3⟩
    · have HW : Hid (∀ x ∈ cds cs, OkCel x) := by
        rw [List.take_of_length_le (by rw [cds_length]; omega)] at hs
        exact hs
      clear hs E1
      obtain ⟨p0, p1, p2, p3, -, -, -, -⟩ := id P1
      go_wp2_with fail
      clear p0 p1 p2 p3 hlt hk
      go_loopw [5] (fun i w' => ∃ k : Nat, k ≤ ws.length ∧ i = .int .i64 k ∧ (∀ x ∈ (wds ws).take k, OkWri cs.length x) ∧ Four w' w.heap.size (.slice CA cs.length cc) (.slice WA ws.length wc) (.int .i64 reqs) (.int .i64 left) ∧ Below w.heap.size w w' ∧ w.heap.size < w'.heap.size) (fun i _ => ws.length - (RowKit.intOf i).toNat)
      case atStart => exact ⟨0, by omega, rfl, by simp, P1, hbr, hsz⟩
      case round =>
        clear P1 hbr hsz
        obtain ⟨k, hk, rfl, hs, P1, hbr, hsz⟩ := hrel
        obtain ⟨p0, p1, p2, p3, -, -, -, -⟩ := id P1
        by_cases hlt : k < ws.length
        · obtain ⟨b1, off, x, rfl, hb1, g, g1, -, hx, -, e1⟩ := write_at (kw.below hbr) (wi.below hbr) hlt
          have i1 : (k : Int) < (ws.length : Int) := by omega
          have X2 : Hid (¬ OkWri cs.length x.d → E = false) := fun h => E2.out ⟨x.d, List.mem_of_getElem? e1, h⟩
          have X0 : Hid (OkWri cs.length x.d → ∀ y ∈ (wds ws).take (k + 1), OkWri cs.length y) := fun h y hy => by
            rw [take_next e1] at hy
            rcases List.mem_append.1 hy with q | q
            · exact hs y q
            · obtain rfl := List.mem_singleton.1 q
              exact h
          have ho : OkWri cs.length x.d ↔ (0 ≤ x.addr ∧ x.addr ≤ (cs.length : Int) - 1) ∧ x.b.l.length ≤ 200 := by
            show (0 ≤ x.addr ∧ x.addr < cs.length ∧ x.b.l.length ≤ 200) ↔ _
            omega
          clear hs kw kc ci wi hx e1 E0 E2 HW
          by_cases a : 0 ≤ x.addr ∧ x.addr ≤ (cs.length : Int) - 1
          · have j1 := fun W => in_q x.addr 0 ((cs.length : Int) - 1) W true (decide_eq_true a)
            by_cases b : 200 < (x.b.l.length : Int)
            · have H := Lib.hid (X2.out fun h => by have := (ho.1 h).2; omega)
              clear X0 X2 ho a
              go_wp2_with fail
              go_quiet ((go_at_call 39; with_reducible refine Calls.quiet_of (j1 _)))
              go_wp2
              go_ret
              exact ⟨by rw [H.out]; rfl, below_dn hbr _⟩
            · have H := Lib.hid (X0.out (ho.2 ⟨a, by omega⟩))
              clear X0 X2 ho a
              go_wp2_with fail
              go_quiet ((go_at_call 39; with_reducible refine Calls.quiet_of (j1 _)))
              go_wp2
              go_roundw
              case rel => exact ⟨k + 1, by omega, by go_num, H.out, P1.keep (below_dn (Below.refl _ _) _) hsz, below_dn hbr _, Nat.lt_of_lt_of_le hsz (below_dn (Below.refl 0 _) _).size⟩
              case measure => simp [RowKit.intOf]; omega
          · have j1 := fun W => in_q x.addr 0 ((cs.length : Int) - 1) W false (decide_eq_false a)
            have H := Lib.hid (X2.out fun h => a (ho.1 h).1)
            clear X0 X2 ho a
            go_wp2_with fail
            go_quiet ((go_at_call 39; with_reducible refine Calls.quiet_of (j1 _)))
            go_wp2
            go_ret
            exact ⟨by rw [H.out]; rfl, below_dn hbr _⟩
        · have H : Hid (E = true) := by
            rw [List.take_of_length_le (by rw [wds_length]; omega)] at hs
            exact E0.out HW.out hs
          clear hs E0 E2 HW
          go_wp2
          go_ret
          exact ⟨by rw [H.out]; rfl, hbr⟩
end Go.Proofs.Ytegcbmimndmfkaa.dsk
