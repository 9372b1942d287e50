/-
  Package disk: request, carryOut. Conditions: a disk that is valid (its numbers and sizes are small).
-/
import Derived.Test.YtegcbmimndmfkaaDkE
namespace Go.Proofs.Ytegcbmimndmfkaa.dsk
open Go.RowKit Go.Lib

/-- What the functions ask of a disk's numbers and sizes. -/
structure DV.Fit (d : DV) : Prop where
  n : d.cs.length ≤ 1048576 ∧ d.ws.length ≤ 1048576
  s : CShort 1048576 d.cs
  t : WShort 1048576 d.ws
  q : 0 ≤ d.reqs ∧ d.reqs ≤ 1048576
  l : -1 ≤ d.left ∧ d.left ≤ 1048576
theorem Valid.fit {d : DV} (h : Valid d.d) : d.Fit := by
  obtain ⟨⟨⟨h1, h2, h3⟩, h4, h5, h6, h7⟩, hc, hw⟩ := h
  have e1 : d.d.cells.length = d.cs.length := cds_length _
  have e2 : d.d.cache.length = d.ws.length := wds_length _
  refine ⟨by omega, fun r hr => ?_, fun r hr => ?_, ⟨h4, h5⟩, ⟨h6, h7⟩⟩
  · have := hc r.d (List.mem_map.2 ⟨r, hr, rfl⟩)
    exact ⟨Nat.le_trans this.2.2.1 (by decide), Nat.le_trans this.2.2.2 (by decide)⟩
  · have := hw r.d (List.mem_map.2 ⟨r, hr, rfl⟩)
    exact Nat.le_trans this.2.2 (by decide)
theorem clone_fit (x : DV) (w : World) (hx : x.In w w.heap.size) (hf : x.Fit) :
    Calls Try.prog 37 #[x.v] w fun e w' => (∃ y : DV, e = .returned y.v ∧ y.d = x.d ∧ y.Own w' w.heap.size ∧ y.wc = y.ws.length) ∧ Below w.heap.size w w' := clone_at x w hx hf.n hf.s hf.t

set_option maxHeartbeats 2000000 in
theorem request_dead (x : DV) (w : World) (hx : x.In w w.heap.size) (hf : x.Fit) (hl : x.left = 0) :
    Calls Try.prog 33 #[x.v] w fun e w' => (∃ y : DV, e = .returned (.tuple #[y.v, .int .i64 8]) ∧ y.d = x.d ∧ y.Own w' w.heap.size ∧ y.wc = y.ws.length) ∧ Below w.heap.size w w' := by
  have cC := fun (W : World) (hW : Below w.heap.size w W) => clone_fit x W (hx.next hW) hf
  clear hx hf
  obtain ⟨CA, cc, cs, WA, wc, ws, reqs, left⟩ := x
  dsimp only at hl
  subst hl
  unfold DV.v at cC ⊢
  dsimp only at cC ⊢
  have P0 := four_new w (.slice CA cs.length cc) (.slice WA ws.length wc) (.int .i64 reqs) (.int .i64 0) 25
  have B0 := bl w (.cells #[.slice CA cs.length cc, .slice WA ws.length wc, .int .i64 reqs, .int .i64 0] 25)
  have L0 : (w.alloc (.cells #[.slice CA cs.length cc, .slice WA ws.length wc, .int .i64 reqs, .int .i64 0] 25)).heap.size = w.heap.size + 1 := by simp
  go_enter Try.func33, Try.ntmps33
  go_wp2_with fail
  generalize w.alloc (.cells #[.slice CA cs.length cc, .slice WA ws.length wc, .int .i64 reqs, .int .i64 0] 25) = w0 at *
  have Q0 := four_new w0 (.slice none 0 0) (.slice none 0 0) (.int .i64 0) (.int .i64 0) 25
  have P1 := P0.alloc (by omega) (.cells #[.slice none 0 0, .slice none 0 0, .int .i64 0, .int .i64 0] 25)
  have B1 := kal B0 (.cells #[.slice none 0 0, .slice none 0 0, .int .i64 0, .int .i64 0] 25)
  have L1 : (w0.alloc (.cells #[.slice none 0 0, .slice none 0 0, .int .i64 0, .int .i64 0] 25)).heap.size = w.heap.size + 2 := by simp [L0]
  generalize w0.alloc (.cells #[.slice none 0 0, .slice none 0 0, .int .i64 0, .int .i64 0] 25) = w1 at *
  rw [L0] at Q0
  clear P0 B0 L0 w0
  obtain ⟨c0, c1, c2, c3, -, -, -, -⟩ := id P1
  go_upto_region 3 with (go_at_call 37; (with_reducible refine (cC _ B1).mono ?_); rintro e w2 ⟨⟨⟨yA, yc, ys, zA, zc, zs, yq, yl⟩, rfl, hyd, hyo, hyf⟩, hb2⟩; obtain rfl : zc = zs.length := hyf; obtain rfl : reqs = yq := (congrArg Dsk.reqs hyd).symm; obtain rfl : yl = 0 := congrArg Dsk.left hyd; dsimp only)
  have R0 := four_new w2 (.slice yA ys.length yc) (.slice zA zs.length zs.length) (.int .i64 reqs) (.int .i64 0) 25
  have Q2 := (Q0.keep hb2 (by omega)).alloc (by have := hb2.size; omega) (.cells #[.slice yA ys.length yc, .slice zA zs.length zs.length, .int .i64 reqs, .int .i64 0] 25)
  have o2 := hyo.below (bl w2 (.cells #[.slice yA ys.length yc, .slice zA zs.length zs.length, .int .i64 reqs, .int .i64 0] 25))
  have B3 := kal (bt B1 hb2) (.cells #[.slice yA ys.length yc, .slice zA zs.length zs.length, .int .i64 reqs, .int .i64 0] 25)
  generalize w2.alloc (.cells #[.slice yA ys.length yc, .slice zA zs.length zs.length, .int .i64 reqs, .int .i64 0] 25) = w3 at *
  clear c0 c1 c2 c3 P1 hb2 cC
  obtain ⟨r0, r1, r2, r3, -, -, -, -⟩ := id R0
  obtain ⟨q0', q1', q2', q3', f0, f1, f2, f3⟩ := id Q2
  go_wp2_with fail
  have k4 := (((Q2.set0 (.slice yA ys.length yc)).set1 (.slice zA zs.length zs.length)).set2 (.int .i64 reqs)).set3 (.int .i64 0)
  have hg : w.heap.size + 1 < w1.heap.size := by omega
  have hz : w.heap.size ≤ w.heap.size + 1 := by omega
  have o3 := o2.set hg q0' (slice_no8 _ _ _) (.slice yA ys.length yc)
  have o4 := o3.set hg (Q2.set0 _).c1 (slice_no8 _ _ _) (.slice zA zs.length zs.length)
  have o5 := o4.set hg ((Q2.set0 _).set1 _).c2 (int_no8 _) (.int .i64 reqs)
  have o6 := o5.set hg (((Q2.set0 _).set1 _).set2 _).c3 (int_no8 _) (.int .i64 0)
  have o7 := o6.less (base' := w.heap.size) (by omega)
  refine bodyPost_ret (v := .tuple #[.agg #[.slice yA ys.length yc, .slice zA zs.length zs.length, .int .i64 reqs, .int .i64 0], .int .i64 8]) (by simp [results, Try.results33, go_sem, k4.c0, k4.c1, k4.c2, k4.c3]) rfl ⟨⟨⟨yA, yc, ys, zA, zs.length, zs, reqs, 0⟩, rfl, ?_, ⟨o7.oc, o7.ow, o7.ci, o7.wi⟩, rfl⟩, (((B3.setCell hz _).setCell hz _).setCell hz _).setCell hz _⟩
  exact hyd
set_option maxHeartbeats 2000000 in
theorem request_ok (x : DV) (w : World) (hx : x.In w w.heap.size) (hf : x.Fit) (hl : ¬ x.left = 0) :
    Calls Try.prog 33 #[x.v] w fun e w' => (∃ y : DV, e = .returned (.tuple #[y.v, .int .i64 0]) ∧ y.d = req x.d ∧ y.Own w' w.heap.size ∧ y.wc = y.ws.length) ∧ Below w.heap.size w w' := by
  obtain ⟨q0, q1⟩ := hf.q
  obtain ⟨l0, l1⟩ := hf.l
  have cC := fun (W : World) (hW : Below w.heap.size w W) => clone_fit x W (hx.next hW) hf
  have n1 : (x.left == 0) = false := beq_eq_false_iff_ne.2 hl
  unfold DV.v at cC ⊢
  clear hx hf
  have P0 := four_new w (.slice x.CA x.cs.length x.cc) (.slice x.WA x.ws.length x.wc) (.int .i64 x.reqs) (.int .i64 x.left) 25
  have B0 := bl w (.cells #[.slice x.CA x.cs.length x.cc, .slice x.WA x.ws.length x.wc, .int .i64 x.reqs, .int .i64 x.left] 25)
  have L0 : (w.alloc (.cells #[.slice x.CA x.cs.length x.cc, .slice x.WA x.ws.length x.wc, .int .i64 x.reqs, .int .i64 x.left] 25)).heap.size = w.heap.size + 1 := by simp
  go_enter Try.func33, Try.ntmps33
  go_wp2_with fail
  generalize w.alloc (.cells #[.slice x.CA x.cs.length x.cc, .slice x.WA x.ws.length x.wc, .int .i64 x.reqs, .int .i64 x.left] 25) = w0 at *
  have Q0 := four_new w0 (.slice none 0 0) (.slice none 0 0) (.int .i64 0) (.int .i64 0) 25
  have P1 := P0.alloc (by omega) (.cells #[.slice none 0 0, .slice none 0 0, .int .i64 0, .int .i64 0] 25)
  have B1 := kal B0 (.cells #[.slice none 0 0, .slice none 0 0, .int .i64 0, .int .i64 0] 25)
  have L1 : (w0.alloc (.cells #[.slice none 0 0, .slice none 0 0, .int .i64 0, .int .i64 0] 25)).heap.size = w.heap.size + 2 := by simp [L0]
  generalize w0.alloc (.cells #[.slice none 0 0, .slice none 0 0, .int .i64 0, .int .i64 0] 25) = w1 at *
  rw [L0] at Q0
  clear P0 B0 L0 w0
  obtain ⟨c0, c1, c2, c3, -, -, -, -⟩ := id P1
  go_upto_region 7 with (go_at_call 37; (with_reducible refine (cC _ B1).mono ?_); rintro e w2 ⟨⟨⟨yA, yc, ys, zA, zc, zs, yq, yl⟩, rfl, hyd, hyo, hyf⟩, hb2⟩; obtain rfl : zc = zs.length := hyf; obtain rfl : yq = x.reqs := congrArg Dsk.reqs hyd; obtain rfl : yl = x.left := congrArg Dsk.left hyd; dsimp only)
  · rename_i hp
    have R0 := four_new w2 (.slice yA ys.length yc) (.slice zA zs.length zs.length) (.int .i64 (min (x.reqs + 1) 1048576)) (.int .i64 (x.left - 1)) 25
    have Q2 := (Q0.keep hb2 (by omega)).alloc (by have := hb2.size; omega) (.cells #[.slice yA ys.length yc, .slice zA zs.length zs.length, .int .i64 (min (x.reqs + 1) 1048576), .int .i64 (x.left - 1)] 25)
    have o2 := hyo.below (bl w2 (.cells #[.slice yA ys.length yc, .slice zA zs.length zs.length, .int .i64 (min (x.reqs + 1) 1048576), .int .i64 (x.left - 1)] 25))
    have B3 := kal (bt B1 hb2) (.cells #[.slice yA ys.length yc, .slice zA zs.length zs.length, .int .i64 (min (x.reqs + 1) 1048576), .int .i64 (x.left - 1)] 25)
    generalize w2.alloc (.cells #[.slice yA ys.length yc, .slice zA zs.length zs.length, .int .i64 (min (x.reqs + 1) 1048576), .int .i64 (x.left - 1)] 25) = w3 at *
    clear c0 c1 c2 c3 P1 hb2 cC
    obtain ⟨r0, r1, r2, r3, -, -, -, -⟩ := id R0
    obtain ⟨q0', q1', q2', q3', f0, f1, f2, f3⟩ := id Q2
    go_wp2_with fail
    have k4 := (((Q2.set0 (.slice yA ys.length yc)).set1 (.slice zA zs.length zs.length)).set2 (.int .i64 (min (x.reqs + 1) 1048576))).set3 (.int .i64 (x.left - 1))
    have hg : w.heap.size + 1 < w1.heap.size := by omega
    have hz : w.heap.size ≤ w.heap.size + 1 := by omega
    have o3 := o2.set hg q0' (slice_no8 _ _ _) (.slice yA ys.length yc)
    have o4 := o3.set hg (Q2.set0 _).c1 (slice_no8 _ _ _) (.slice zA zs.length zs.length)
    have o5 := o4.set hg ((Q2.set0 _).set1 _).c2 (int_no8 _) (.int .i64 (min (x.reqs + 1) 1048576))
    have o6 := o5.set hg (((Q2.set0 _).set1 _).set2 _).c3 (int_no8 _) (.int .i64 (x.left - 1))
    have o7 := o6.less (base' := w.heap.size) (by omega)
    refine bodyPost_ret (v := .tuple #[.agg #[.slice yA ys.length yc, .slice zA zs.length zs.length, .int .i64 (min (x.reqs + 1) 1048576), .int .i64 (x.left - 1)], .int .i64 0]) (by simp [results, Try.results33, go_sem, k4.c0, k4.c1, k4.c2, k4.c3]) rfl ⟨⟨⟨yA, yc, ys, zA, zs.length, zs, min (x.reqs + 1) 1048576, x.left - 1⟩, rfl, ?_, ⟨o7.oc, o7.ow, o7.ci, o7.wi⟩, rfl⟩, (((B3.setCell hz _).setCell hz _).setCell hz _).setCell hz _⟩
    have hp : 0 < x.left := by omega
    have e1 : cds ys = cds x.cs := congrArg Dsk.cells hyd
    have e2 : wds zs = wds x.ws := congrArg Dsk.cache hyd
    show (⟨cds ys, wds zs, _, _⟩ : Dsk) = ⟨cds x.cs, wds x.ws, _, less x.left⟩
    rw [e1, e2, less, if_pos hp]
    rfl
  · have R0 := four_new w2 (.slice yA ys.length yc) (.slice zA zs.length zs.length) (.int .i64 (min (x.reqs + 1) 1048576)) (.int .i64 x.left) 25
    have Q2 := (Q0.keep hb2 (by omega)).alloc (by have := hb2.size; omega) (.cells #[.slice yA ys.length yc, .slice zA zs.length zs.length, .int .i64 (min (x.reqs + 1) 1048576), .int .i64 x.left] 25)
    have o2 := hyo.below (bl w2 (.cells #[.slice yA ys.length yc, .slice zA zs.length zs.length, .int .i64 (min (x.reqs + 1) 1048576), .int .i64 x.left] 25))
    have B3 := kal (bt B1 hb2) (.cells #[.slice yA ys.length yc, .slice zA zs.length zs.length, .int .i64 (min (x.reqs + 1) 1048576), .int .i64 x.left] 25)
    generalize w2.alloc (.cells #[.slice yA ys.length yc, .slice zA zs.length zs.length, .int .i64 (min (x.reqs + 1) 1048576), .int .i64 x.left] 25) = w3 at *
    clear c0 c1 c2 c3 P1 hb2 cC
    obtain ⟨r0, r1, r2, r3, -, -, -, -⟩ := id R0
    obtain ⟨q0', q1', q2', q3', f0, f1, f2, f3⟩ := id Q2
    go_wp2_with fail
    have k4 := (((Q2.set0 (.slice yA ys.length yc)).set1 (.slice zA zs.length zs.length)).set2 (.int .i64 (min (x.reqs + 1) 1048576))).set3 (.int .i64 x.left)
    have hg : w.heap.size + 1 < w1.heap.size := by omega
    have hz : w.heap.size ≤ w.heap.size + 1 := by omega
    have o3 := o2.set hg q0' (slice_no8 _ _ _) (.slice yA ys.length yc)
    have o4 := o3.set hg (Q2.set0 _).c1 (slice_no8 _ _ _) (.slice zA zs.length zs.length)
    have o5 := o4.set hg ((Q2.set0 _).set1 _).c2 (int_no8 _) (.int .i64 (min (x.reqs + 1) 1048576))
    have o6 := o5.set hg (((Q2.set0 _).set1 _).set2 _).c3 (int_no8 _) (.int .i64 x.left)
    have o7 := o6.less (base' := w.heap.size) (by omega)
    refine bodyPost_ret (v := .tuple #[.agg #[.slice yA ys.length yc, .slice zA zs.length zs.length, .int .i64 (min (x.reqs + 1) 1048576), .int .i64 x.left], .int .i64 0]) (by simp [results, Try.results33, go_sem, k4.c0, k4.c1, k4.c2, k4.c3]) rfl ⟨⟨⟨yA, yc, ys, zA, zs.length, zs, min (x.reqs + 1) 1048576, x.left⟩, rfl, ?_, ⟨o7.oc, o7.ow, o7.ci, o7.wi⟩, rfl⟩, (((B3.setCell hz _).setCell hz _).setCell hz _).setCell hz _⟩
    have hp : ¬ 0 < x.left := by omega
    have e1 : cds ys = cds x.cs := congrArg Dsk.cells hyd
    have e2 : wds zs = wds x.ws := congrArg Dsk.cache hyd
    show (⟨cds ys, wds zs, _, _⟩ : Dsk) = ⟨cds x.cs, wds x.ws, _, less x.left⟩
    rw [e1, e2, less, if_neg hp]
    rfl
end Go.Proofs.Ytegcbmimndmfkaa.dsk
