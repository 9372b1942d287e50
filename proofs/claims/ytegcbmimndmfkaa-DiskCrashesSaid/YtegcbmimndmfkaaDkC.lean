/-
  Package disk: Check, whole. Conditions: none.
-/
import Derived.Test.YtegcbmimndmfkaaDkB
namespace Go.Proofs.Ytegcbmimndmfkaa.dsk
open Go.RowKit Go.Lib

set_option maxHeartbeats 4000000 in
theorem check_at (d : DV) (w : World) (hd : d.In w w.heap.size) :
    Calls Try.prog 19 #[d.v] w fun e w' => e = .returned (.int .i64 (errV d.d)) ∧ Below w.heap.size w w' := by
  by_cases hc : ¬ Counts d.d
  · rw [show errV d.d = 1 from if_neg fun h => hc h.1]
    exact check_counts d w hc
  have hc := Decidable.not_not.1 hc
  have HC := Lib.hid hc
  have cH := fun (W : World) (a : Int) => has_cell d a W
  have hq := (counts_iff d).1 hc
  clear hc
  obtain ⟨CA, cc, cs, WA, wc, ws, reqs, left⟩ := d
  obtain ⟨kc, kw, ci, wi, cl, wl⟩ := hd
  dsimp only at kc kw ci wi cl wl
  unfold DV.v at cH ⊢
  dsimp only at cH ⊢
  have hCS : ∀ a, HasC (DV.d ⟨CA, cc, cs, WA, wc, ws, reqs, left⟩) a ↔ 0 ≤ a ∧ a < cs.length := fun a => by
    show (0 ≤ a ∧ a < ((cds cs).length : Int)) ↔ _
    rw [cds_length]
  have hcl : (DV.d ⟨CA, cc, cs, WA, wc, ws, reqs, left⟩).cells.length = cs.length := cds_length cs
  have E0 : Hid ((∀ x ∈ cds cs, OkCel x) → (∀ x ∈ wds ws, OkWri cs.length x) → errV (DV.d ⟨CA, cc, cs, WA, wc, ws, reqs, left⟩) = 0) := fun h k => if_pos ⟨HC.out, h, by rw [hcl]; exact k⟩
  have E1 : Hid ((∃ x ∈ cds cs, ¬ OkCel x) → errV (DV.d ⟨CA, cc, cs, WA, wc, ws, reqs, left⟩) = 1) := fun ⟨x, hx, hn⟩ => if_neg fun h => hn (h.2.1 x hx)
  have E2 : Hid ((∃ x ∈ wds ws, ¬ OkWri cs.length x) → errV (DV.d ⟨CA, cc, cs, WA, wc, ws, reqs, left⟩) = 1) := fun ⟨x, hx, hn⟩ => if_neg fun h => hn (by rw [← hcl]; exact h.2.2 x hx)
  clear HC hcl
  generalize errV (DV.d ⟨CA, cc, cs, WA, wc, ws, reqs, left⟩) = E at *
  have cH : ∀ (W : World) (a : Int), Calls Try.prog 32 #[.agg #[.slice CA cs.length cc, .slice WA ws.length wc, .int .i64 reqs, .int .i64 left], .int .i64 a] W fun e w' => e = .returned (.bool (decide (0 ≤ a ∧ a < cs.length))) ∧ Below W.heap.size W w' := fun W a => by
    refine (cH W a).mono ?_
    rintro e w' ⟨rfl, hb⟩
    exact ⟨by rw [decide_eq_decide.2 (hCS a)], hb⟩
  clear hCS
  have P0 := four_new w (.slice CA cs.length cc) (.slice WA ws.length wc) (.int .i64 reqs) (.int .i64 left) 25
  have B0 := bl w (.cells #[.slice CA cs.length cc, .slice WA ws.length wc, .int .i64 reqs, .int .i64 left] 25)
  obtain ⟨⟨h1, h2, h3⟩, h4, h5, h6, h7⟩ := hq
  dsimp only at h1 h2 h3 h4 h5 h6 h7
  have n1 : (1 : Int) ≤ cs.length := by omega
  have n2 : (cs.length : Int) ≤ 300 := by omega
  have n3 : (ws.length : Int) ≤ 2000 := by omega
  have cC := fun (W : World) (hb : Below w.heap.size w W) => contains_wrong CA cc cs.length cs W rfl ((kc.below hb).more hb.size) (ci.next hb) (by unfold maxLen; omega)
  by_cases hw : ∃ x ∈ cds cs, ¬ OkCel x
  · have H : Hid (E = 1) := E1.out hw
    rw [decide_eq_true hw] at cC
    clear hw cH kc kw ci wi E0 E1 E2
    obtain ⟨c0, c1, c2, c3, -, -, -, -⟩ := id P0
    clear P0
    go_enter Try.func19, Try.ntmps19
    go_wp2_with (go_at_call 40; refine (cC _ B0).mono ?_; rintro e wx ⟨rfl, hbx⟩)
    go_ret
    exact ⟨by rw [H.out]; rfl, bt B0 hbx⟩
  · have HW : Hid (∀ x ∈ cds cs, OkCel x) := fun x hx => Decidable.byContradiction fun k => hw ⟨x, hx, k⟩
    rw [decide_eq_false hw] at cC
    clear hw E1
    obtain ⟨c0, c1, c2, c3, -, -, -, -⟩ := id P0
    go_enter Try.func19, Try.ntmps19
    go_wp2_with (go_at_call 40; refine (cC _ B0).mono ?_; rintro e wx ⟨rfl, hbx⟩; have q1 := ks hbx (by simp) c1)
    have P1 := P0.keep hbx (by simp)
    have B1 := bt B0 hbx
    have S1 : w.heap.size < wx.heap.size := Nat.lt_of_lt_of_le (by simp) hbx.size
    clear c0 c1 c2 c3 cC P0 hbx q1
    clear B0
    go_loopw [55] (fun i w' => ∃ k : Nat, k ≤ ws.length ∧ i = .int .i64 k ∧ (∀ x ∈ (wds ws).take k, OkWri cs.length x) ∧ Four w' w.heap.size (.slice CA cs.length cc) (.slice WA ws.length wc) (.int .i64 reqs) (.int .i64 left) ∧ Below w.heap.size w w' ∧ w.heap.size < w'.heap.size) (fun i _ => ws.length - (RowKit.intOf i).toNat)
    case atStart => exact ⟨0, by omega, rfl, by simp, P1, B1, S1⟩
    case round =>
      clear P1 B1 S1
      rename_i wr
      obtain ⟨k, hk, rfl, hs, P1, hbr, hsz⟩ := hrel
      by_cases hlt : k < ws.length
      · obtain ⟨b1, off, x, rfl, hb1, g, g1, m1, hx, -, e1⟩ := write_at (kw.below hbr) (wi.below hbr) hlt
        have i1 : (k : Int) < (ws.length : Int) := by omega
        have X2 : Hid (¬ OkWri cs.length x.d → E = 1) := fun h => E2.out ⟨x.d, List.mem_of_getElem? e1, h⟩
        have X0 : Hid (OkWri cs.length x.d → ∀ y ∈ (wds ws).take (k + 1), OkWri cs.length y) := fun h y hy => by
          rw [take_next e1] at hy
          rcases List.mem_append.1 hy with q | q
          · exact hs y q
          · obtain rfl := List.mem_singleton.1 q
            exact h
        have ho : OkWri cs.length x.d ↔ (0 ≤ x.addr ∧ x.addr < cs.length) ∧ x.b.l.length ≤ 200 := by
          show (0 ≤ x.addr ∧ x.addr < cs.length ∧ x.b.l.length ≤ 200) ↔ _
          exact ⟨fun ⟨a, b, c⟩ => ⟨⟨a, b⟩, c⟩, fun ⟨⟨a, b⟩, c⟩ => ⟨a, b, c⟩⟩
        clear hs kw kc ci wi hx m1 e1 E0 E2 HW
        obtain ⟨p0, p1, p2, p3, -, -, -, -⟩ := id P1
        have q0 := two_new wr (.int .i64 x.addr) (.slice x.b.A x.b.l.length x.b.c) 72
        have cH := cH (wr.alloc (.cells #[.int .i64 x.addr, .slice x.b.A x.b.l.length x.b.c] 72)) x.addr
        have hb2 := kal (Below.refl wr.heap.size wr) (.cells #[.int .i64 x.addr, .slice x.b.A x.b.l.length x.b.c] 72)
        by_cases ha : 0 ≤ x.addr ∧ x.addr < cs.length
        · rw [decide_eq_true ha] at cH
          by_cases hl : x.b.l.length ≤ 200
          · have H := Lib.hid (X0.out (ho.2 ⟨ha, hl⟩))
            clear X0 X2 ho ha
            have hl2 : ¬ (200 < (x.b.l.length : Int)) := by omega
            go_wp2_with (go_at_call 32; (with_reducible refine cH.mono ?_); rintro e wx ⟨rfl, hbx⟩; have q1 := ks hbx (by simp) q0.2)
            have hb3 := bt hb2 hbx
            have hz := hb3.size
            go_roundw
            case rel => exact ⟨k + 1, by omega, by go_num, H.out, P1.keep hb3 hsz, bt hbr hb3, by omega⟩
            case measure => simp [RowKit.intOf]; omega
          · have H := Lib.hid (X2.out fun h => hl (ho.1 h).2)
            clear X0 X2 ho ha
            have hl2 : 200 < (x.b.l.length : Int) := by omega
            go_wp2_with (go_at_call 32; (with_reducible refine cH.mono ?_); rintro e wx ⟨rfl, hbx⟩; have q1 := ks hbx (by simp) q0.2)
            go_ret
            exact ⟨by rw [H.out]; rfl, bt hbr (bt hb2 hbx)⟩
        · rw [decide_eq_false ha] at cH
          have H := Lib.hid (X2.out fun h => ha (ho.1 h).1)
          clear X0 X2 ho ha
          go_wp2_with (go_at_call 32; (with_reducible refine cH.mono ?_); rintro e wx ⟨rfl, hbx⟩)
          go_ret
          exact ⟨by rw [H.out]; rfl, bt hbr (bt hb2 hbx)⟩
      · have H : Hid (E = 0) := by
          rw [List.take_of_length_le (by rw [wds_length]; omega)] at hs
          exact E0.out HW.out hs
        clear hs E0 E2 HW cH
        go_wp2
        go_ret
        exact ⟨by rw [H.out]; rfl, hbr⟩
end Go.Proofs.Ytegcbmimndmfkaa.dsk
