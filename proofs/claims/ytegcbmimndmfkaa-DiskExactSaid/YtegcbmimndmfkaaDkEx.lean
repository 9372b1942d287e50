/-
  The law DiskExact, walked. No condition.
-/
import Derived.Test.YtegcbmimndmfkaaDkAw
import Derived.Test.YtegcbmimndmfkaaDkEg
import Derived.Deep.RegionHeld3
namespace Go.Proofs.Ytegcbmimndmfkaa.dsk
open Go.RowKit Go.Lib

/-- The law's variables, at a world. -/
structure ExS (v0 : World) (gd gn go gr gw gl gc gu : Nat) (d yn yr yw yl yc yu : DV) (b x : Row) (W : World) : Prop where
  d : RefI W v0.heap.size gd d
  n : RefD W v0.heap.size gn yn
  o : RefD W v0.heap.size go zdv
  r : RefD W v0.heap.size gr yr
  w : RefD W v0.heap.size gw yw
  l : RefD W v0.heap.size gl yl
  c : RefD W v0.heap.size gc yc
  u : RefD W v0.heap.size gu yu
  b : RIn W W.heap.size b
  x : RIn W W.heap.size x
  B : Below v0.heap.size v0 W
theorem ExS.below {v0 : World} {gd gn go gr gw gl gc gu : Nat} {d yn yr yw yl yc yu : DV} {b x : Row} {W W' : World} (h : ExS v0 gd gn go gr gw gl gc gu d yn yr yw yl yc yu b x W) (hb : Below W.heap.size W W') : ExS v0 gd gn go gr gw gl gc gu d yn yr yw yl yc yu b x W' :=
  ⟨h.d.below hb, h.n.below hb, h.o.below hb, h.r.below hb, h.w.below hb, h.l.below hb, h.c.below hb, h.u.below hb, h.b.next hb, h.x.next hb, bt h.B hb⟩
theorem ExS.z {v0 : World} {gd gn go gr gw gl gc gu : Nat} {d yn yr yw yl yc yu : DV} {b x : Row} {W : World} (h : ExS v0 gd gn go gr gw gl gc gu d yn yr yw yl yc yu b x W) : Four W go (.slice none 0 0) (.slice none 0 0) (.int .i64 0) (.int .i64 0) := h.o.r
set_option maxRecDepth 100000 in
set_option maxHeartbeats 16000000 in
theorem exact_go (d : DV) (a keep kind fr bit : Int) (b : Row) (w : World) (hx : d.In w w.heap.size) (hb : RIn w w.heap.size b) (hkm : keep ≤ 9223372036854775807) :
    Calls Try.prog 3 #[.agg #[.slice d.CA d.cs.length d.cc, .slice d.WA d.ws.length d.wc, .int .i64 d.reqs, .int .i64 d.left], .int .i64 a, .slice b.A b.l.length b.c, .int .i64 keep, .int .i64 kind, .int .i64 fr, .int .i64 bit] w fun e w' => e = .returned (.bool true) ∧ Below w.heap.size w w' := by
  have B := Below.refl w.heap.size w
  have Vd := refi_new hx 25
  have Ib := hb.next (bl w (.cells #[.slice d.CA d.cs.length d.cc, .slice d.WA d.ws.length d.wc, .int .i64 d.reqs, .int .i64 d.left] 25))
  have B := B.trans (bl w (.cells #[.slice d.CA d.cs.length d.cc, .slice d.WA d.ws.length d.wc, .int .i64 d.reqs, .int .i64 d.left] 25))
  have s0 : w.heap.size < (w.alloc (.cells #[.slice d.CA d.cs.length d.cc, .slice d.WA d.ws.length d.wc, .int .i64 d.reqs, .int .i64 d.left] 25)).heap.size := by simp
  obtain ⟨t0, t1, t2, t3, -, -, -, -⟩ := id Vd.r
  go_enter Try.func3, Try.ntmps3
  go_wp2_with fail
  generalize w.alloc (.cells #[.slice d.CA d.cs.length d.cc, .slice d.WA d.ws.length d.wc, .int .i64 d.reqs, .int .i64 d.left] 25) = W0 at *
  have cH := heavy_p d W0 Vd.in
  go_at_call 10
  (with_reducible refine cH.mono ?_)
  rintro e w1 ⟨⟨hvy, rfl, hlt⟩, hb1⟩
  dsimp only
  have Z1 := hb1.size
  replace Vd := Vd.below hb1
  replace Ib := Ib.next hb1
  replace B := bt B hb1
  obtain ⟨t0, t1, t2, t3, -, -, -, -⟩ := id Vd.r
  have gz : w.heap.size < w1.heap.size := by omega
  clear cH hb1 s0 Z1 hb hx
  rcases hvy with _ | _
  rotate_left
  · go_wp2_with fail
    go_ret
    exact ⟨rfl, B⟩
  have HSm := Lib.hid (small_light (hlt rfl))
  clear hlt
  by_cases h300 : 300 < b.l.length
  · have h301 : 300 < (b.l.length : Int) := by omega
    go_wp2_with fail
    go_ret
    exact ⟨rfl, B⟩
  have h301 : ¬ (300 < (b.l.length : Int)) := by omega
  go_upto_region 3 with fail
  have cc2 := twin_f d w1 Vd.in HSm.out
  try dsimp only at cc2
  go_upto_region 4 with (first | (go_at_call 11; (with_reducible refine cc2.mono ?_); rintro e w2 ⟨⟨y2, rfl, hd2, ho2⟩, hb2⟩; have Z2 := hb2.size; replace Vd := Vd.below hb2; replace Ib := Ib.next hb2; replace B := bt B hb2))
  clear cc2
  have Vn := var_new (base := w.heap.size) ho2 (by omega) (by omega) 25
  have al2 := bl w2 (.cells #[.slice y2.CA y2.cs.length y2.cc, .slice y2.WA y2.ws.length y2.wc, .int .i64 y2.reqs, .int .i64 y2.left] 25)
  replace Vd := Vd.below al2
  replace Ib := Ib.next al2
  replace B := bt B al2
  have sz2 : w2.heap.size < (w2.alloc (.cells #[.slice y2.CA y2.cs.length y2.cc, .slice y2.WA y2.ws.length y2.wc, .int .i64 y2.reqs, .int .i64 y2.left] 25)).heap.size := by simp
  clear al2
  generalize w2.alloc (.cells #[.slice y2.CA y2.cs.length y2.cc, .slice y2.WA y2.ws.length y2.wc, .int .i64 y2.reqs, .int .i64 y2.left] 25) = W2 at *
  clear t0 t1 t2 t3 ho2
  go_upto_region 5 with fail
  have az := bl W2 (.cells #[.slice none 0 0, .slice none 0 0, .int .i64 0, .int .i64 0] 25)
  have gW : w.heap.size < W2.heap.size := by omega
  have Vo : RefD (W2.alloc (.cells #[.slice none 0 0, .slice none 0 0, .int .i64 0, .int .i64 0] 25)) w.heap.size W2.heap.size zdv := var_new (zdv_own _ W2.heap.size) (by omega) (by omega) _
  replace Vd := Vd.below az
  replace Vn := Vn.below az
  replace Ib := Ib.next az
  replace B := bt B az
  have sz : W2.heap.size < (W2.alloc (.cells #[.slice none 0 0, .slice none 0 0, .int .i64 0, .int .i64 0] 25)).heap.size := by simp
  clear az
  generalize W2.alloc (.cells #[.slice none 0 0, .slice none 0 0, .int .i64 0, .int .i64 0] 25) = W4 at *
  have gW4 : w.heap.size < W4.heap.size := by omega
  obtain ⟨Dr, xs, er, hrr⟩ : ∃ D b e, readA d.d a = (D, b, e) := ⟨_, _, _, rfl⟩
  obtain ⟨Dw, ew, hrw⟩ : ∃ D e, writeA d.d a b.l = (D, e) := ⟨_, _, rfl⟩
  obtain ⟨Dl, el, hrl⟩ : ∃ D e, flushA d.d = (D, e) := ⟨_, _, rfl⟩
  obtain ⟨Dc, ec, hrc⟩ : ∃ D e, crashA d.d keep = (D, e) := ⟨_, _, rfl⟩
  obtain ⟨Du, eu, hru⟩ : ∃ D e, faultA d.d kind a fr bit bit = (D, e) := ⟨_, _, rfl⟩
  have Hrr := Lib.hid hrr
  have Hrw := Lib.hid hrw
  have Hrl := Lib.hid hrl
  have Hrc := Lib.hid hrc
  have Hru := Lib.hid hru
  clear hrr hrw hrl hrc hru
  have Hn := Lib.hid hd2
  clear hd2
  obtain ⟨n0, n1, n2, n3, -, -, -, -⟩ := id Vn.r
  have cc3 := read_p y2 a W4 d.d Dr xs er Vn.o.in Hn.out Hrr.out
  try dsimp only at cc3
  go_upto_region 6 with (first | (go_at_call 12; (with_reducible refine cc3.mono ?_); rintro e w3 ⟨⟨y3, ⟨ra3, rc3, rl3⟩, rfl, hd3, hr3, ho3, hi3⟩, hb3⟩; have Z3 := hb3.size; dsimp only at hr3; subst hr3; dsimp only; replace Vd := Vd.below hb3; replace Vn := Vn.below hb3; replace Vo := Vo.below hb3; replace Ib := Ib.next hb3; replace B := bt B hb3))
  clear cc3
  have Vr := var_new (base := w.heap.size) ho3 (by omega) (by omega) 25
  have al3 := bl w3 (.cells #[.slice y3.CA y3.cs.length y3.cc, .slice y3.WA y3.ws.length y3.wc, .int .i64 y3.reqs, .int .i64 y3.left] 25)
  replace Vd := Vd.below al3
  replace Vn := Vn.below al3
  replace Vo := Vo.below al3
  replace Ib := Ib.next al3
  replace B := bt B al3
  have Ir3 := hi3.next al3
  have sz3 : w3.heap.size < (w3.alloc (.cells #[.slice y3.CA y3.cs.length y3.cc, .slice y3.WA y3.ws.length y3.wc, .int .i64 y3.reqs, .int .i64 y3.left] 25)).heap.size := by simp
  clear al3
  generalize w3.alloc (.cells #[.slice y3.CA y3.cs.length y3.cc, .slice y3.WA y3.ws.length y3.wc, .int .i64 y3.reqs, .int .i64 y3.left] 25) = W3 at *
  have Hr := Lib.hid hd3
  have gr : w.heap.size < W3.heap.size := by omega
  clear hd3 ho3 sz3 hb3 Z3
  clear n0 n1 n2 n3
  obtain ⟨n0, n1, n2, n3, -, -, -, -⟩ := id Vn.r
  have cc4 := write_p y2 a b W3 d.d Dw ew Vn.o.in Ib Hn.out Hrw.out
  try dsimp only at cc4
  go_upto_region 7 with (first | (go_at_call 13; (with_reducible refine cc4.mono ?_); rintro e w4 ⟨⟨y4, rfl, hd4, ho4⟩, hb4⟩; have Z4 := hb4.size; replace Vd := Vd.below hb4; replace Vn := Vn.below hb4; replace Vo := Vo.below hb4; replace Vr := Vr.below hb4; replace Ib := Ib.next hb4; replace Ir3 := Ir3.next hb4; replace B := bt B hb4))
  clear cc4
  have Vw := var_new (base := w.heap.size) ho4 (by omega) (by omega) 25
  have al4 := bl w4 (.cells #[.slice y4.CA y4.cs.length y4.cc, .slice y4.WA y4.ws.length y4.wc, .int .i64 y4.reqs, .int .i64 y4.left] 25)
  replace Vd := Vd.below al4
  replace Vn := Vn.below al4
  replace Vo := Vo.below al4
  replace Vr := Vr.below al4
  replace Ib := Ib.next al4
  replace Ir3 := Ir3.next al4
  replace B := bt B al4
  have sz4 : w4.heap.size < (w4.alloc (.cells #[.slice y4.CA y4.cs.length y4.cc, .slice y4.WA y4.ws.length y4.wc, .int .i64 y4.reqs, .int .i64 y4.left] 25)).heap.size := by simp
  clear al4
  generalize w4.alloc (.cells #[.slice y4.CA y4.cs.length y4.cc, .slice y4.WA y4.ws.length y4.wc, .int .i64 y4.reqs, .int .i64 y4.left] 25) = W4 at *
  have Hw := Lib.hid hd4
  have gw : w.heap.size < W4.heap.size := by omega
  clear hd4 ho4 sz4 hb4 Z4
  clear n0 n1 n2 n3
  obtain ⟨n0, n1, n2, n3, -, -, -, -⟩ := id Vn.r
  have cc5 := flush_p y2 W4 d.d Dl el Vn.o.in Hn.out Hrl.out
  try dsimp only at cc5
  go_upto_region 8 with (first | (go_at_call 14; (with_reducible refine cc5.mono ?_); rintro e w5 ⟨⟨y5, rfl, hd5, ho5⟩, hb5⟩; have Z5 := hb5.size; replace Vd := Vd.below hb5; replace Vn := Vn.below hb5; replace Vo := Vo.below hb5; replace Vr := Vr.below hb5; replace Vw := Vw.below hb5; replace Ib := Ib.next hb5; replace Ir3 := Ir3.next hb5; replace B := bt B hb5))
  clear cc5
  have Vl := var_new (base := w.heap.size) ho5 (by omega) (by omega) 25
  have al5 := bl w5 (.cells #[.slice y5.CA y5.cs.length y5.cc, .slice y5.WA y5.ws.length y5.wc, .int .i64 y5.reqs, .int .i64 y5.left] 25)
  replace Vd := Vd.below al5
  replace Vn := Vn.below al5
  replace Vo := Vo.below al5
  replace Vr := Vr.below al5
  replace Vw := Vw.below al5
  replace Ib := Ib.next al5
  replace Ir3 := Ir3.next al5
  replace B := bt B al5
  have sz5 : w5.heap.size < (w5.alloc (.cells #[.slice y5.CA y5.cs.length y5.cc, .slice y5.WA y5.ws.length y5.wc, .int .i64 y5.reqs, .int .i64 y5.left] 25)).heap.size := by simp
  clear al5
  generalize w5.alloc (.cells #[.slice y5.CA y5.cs.length y5.cc, .slice y5.WA y5.ws.length y5.wc, .int .i64 y5.reqs, .int .i64 y5.left] 25) = W5 at *
  have Hl := Lib.hid hd5
  have gl : w.heap.size < W5.heap.size := by omega
  clear hd5 ho5 sz5 hb5 Z5
  clear n0 n1 n2 n3
  obtain ⟨n0, n1, n2, n3, -, -, -, -⟩ := id Vn.r
  have cc6 := crash_p y2 keep W5 d.d Dc ec Vn.o.in hkm Hn.out Hrc.out
  try dsimp only at cc6
  go_upto_region 9 with (first | (go_at_call 15; (with_reducible refine cc6.mono ?_); rintro e w6 ⟨⟨y6, rfl, hd6, ho6⟩, hb6⟩; have Z6 := hb6.size; replace Vd := Vd.below hb6; replace Vn := Vn.below hb6; replace Vo := Vo.below hb6; replace Vr := Vr.below hb6; replace Vw := Vw.below hb6; replace Vl := Vl.below hb6; replace Ib := Ib.next hb6; replace Ir3 := Ir3.next hb6; replace B := bt B hb6))
  clear cc6
  have Vc := var_new (base := w.heap.size) ho6 (by omega) (by omega) 25
  have al6 := bl w6 (.cells #[.slice y6.CA y6.cs.length y6.cc, .slice y6.WA y6.ws.length y6.wc, .int .i64 y6.reqs, .int .i64 y6.left] 25)
  replace Vd := Vd.below al6
  replace Vn := Vn.below al6
  replace Vo := Vo.below al6
  replace Vr := Vr.below al6
  replace Vw := Vw.below al6
  replace Vl := Vl.below al6
  replace Ib := Ib.next al6
  replace Ir3 := Ir3.next al6
  replace B := bt B al6
  have sz6 : w6.heap.size < (w6.alloc (.cells #[.slice y6.CA y6.cs.length y6.cc, .slice y6.WA y6.ws.length y6.wc, .int .i64 y6.reqs, .int .i64 y6.left] 25)).heap.size := by simp
  clear al6
  generalize w6.alloc (.cells #[.slice y6.CA y6.cs.length y6.cc, .slice y6.WA y6.ws.length y6.wc, .int .i64 y6.reqs, .int .i64 y6.left] 25) = W6 at *
  have Hc := Lib.hid hd6
  have gc : w.heap.size < W6.heap.size := by omega
  clear hd6 ho6 sz6 hb6 Z6
  clear n0 n1 n2 n3
  obtain ⟨n0, n1, n2, n3, -, -, -, -⟩ := id Vn.r
  have cc7 := fault_q y2 kind a fr bit bit W6 d.d Du eu Vn.o.in Hn.out Hru.out
  try dsimp only at cc7
  go_upto_region 10 with (first | (go_at_call 16; (with_reducible refine cc7.mono ?_); rintro e w7 ⟨⟨y7, rfl, hd7, ho7⟩, hb7⟩; have Z7 := hb7.size; replace Vd := Vd.below hb7; replace Vn := Vn.below hb7; replace Vo := Vo.below hb7; replace Vr := Vr.below hb7; replace Vw := Vw.below hb7; replace Vl := Vl.below hb7; replace Vc := Vc.below hb7; replace Ib := Ib.next hb7; replace Ir3 := Ir3.next hb7; replace B := bt B hb7))
  clear cc7
  have Vu := var_new (base := w.heap.size) ho7 (by omega) (by omega) 25
  have al7 := bl w7 (.cells #[.slice y7.CA y7.cs.length y7.cc, .slice y7.WA y7.ws.length y7.wc, .int .i64 y7.reqs, .int .i64 y7.left] 25)
  replace Vd := Vd.below al7
  replace Vn := Vn.below al7
  replace Vo := Vo.below al7
  replace Vr := Vr.below al7
  replace Vw := Vw.below al7
  replace Vl := Vl.below al7
  replace Vc := Vc.below al7
  replace Ib := Ib.next al7
  replace Ir3 := Ir3.next al7
  replace B := bt B al7
  have sz7 : w7.heap.size < (w7.alloc (.cells #[.slice y7.CA y7.cs.length y7.cc, .slice y7.WA y7.ws.length y7.wc, .int .i64 y7.reqs, .int .i64 y7.left] 25)).heap.size := by simp
  clear al7
  generalize w7.alloc (.cells #[.slice y7.CA y7.cs.length y7.cc, .slice y7.WA y7.ws.length y7.wc, .int .i64 y7.reqs, .int .i64 y7.left] 25) = W7 at *
  have Hu := Lib.hid hd7
  have gu : w.heap.size < W7.heap.size := by omega
  clear hd7 ho7 sz7 hb7 Z7
  clear n0 n1 n2 n3
  have E : ExS w w.heap.size w2.heap.size W2.heap.size w3.heap.size w4.heap.size w5.heap.size w6.heap.size w7.heap.size d y2 y3 y4 y5 y6 y7 b ⟨ra3, rc3, rl3⟩ W7 := ⟨Vd, Vn, Vo, Vr, Vw, Vl, Vc, Vu, Ib, Ir3, B⟩
  clear Vd Vn Vo Vr Vw Vl Vc Vu Ib B gr gw gl gc gu gW gW4 gz sz sz2
  clear Ir3 hi3
  obtain ⟨gn, hggn⟩ : ∃ g, g = w2.heap.size := ⟨_, rfl⟩
  rw [← hggn] at E ⊢
  clear hggn
  obtain ⟨go, hggo⟩ : ∃ g, g = W2.heap.size := ⟨_, rfl⟩
  rw [← hggo] at E ⊢
  clear hggo
  obtain ⟨gr, hggr⟩ : ∃ g, g = w3.heap.size := ⟨_, rfl⟩
  rw [← hggr] at E ⊢
  clear hggr
  obtain ⟨gw, hggw⟩ : ∃ g, g = w4.heap.size := ⟨_, rfl⟩
  rw [← hggw] at E ⊢
  clear hggw
  obtain ⟨gl, hggl⟩ : ∃ g, g = w5.heap.size := ⟨_, rfl⟩
  rw [← hggl] at E ⊢
  clear hggl
  obtain ⟨gc, hggc⟩ : ∃ g, g = w6.heap.size := ⟨_, rfl⟩
  rw [← hggc] at E ⊢
  clear hggc
  obtain ⟨gu, hggu⟩ : ∃ g, g = w7.heap.size := ⟨_, rfl⟩
  rw [← hggu] at E ⊢
  clear hggu
  have HE := Lib.hid E
  obtain ⟨n0, n1, n2, n3, -, -, -, -⟩ := id E.n.r
  obtain ⟨t0, t1, t2, t3, -, -, -, -⟩ := id E.d.r
  have c10 := disk_f y2 d W7 E.n.o.in E.d.in (by rw [Hn.out]; exact HSm.out) true (decide_eq_true Hn.out)
  clear E
  go_upto_region 12 with (first | (go_at_call 17; (with_reducible refine c10.mono ?_); rintro e x1 ⟨rfl, hb10⟩))
  have E := HE.out.below hb10
  clear n0 n1 n2 n3 t0 t1 t2 t3 c10 hb10 HE
  have HE := Lib.hid E
  obtain ⟨t0, t1, t2, t3, -, -, -, -⟩ := id E.d.r
  by_cases hv : Valid d.d
  rotate_left
  · as_aux_lemma =>
      have cR := right_p d x1 E.d.in false (decide_eq_false hv)
      have qHrr := Hrr.out
      rw [readA, if_pos (fun k => hv k.1)] at qHrr
      simp only [Prod.mk.injEq] at qHrr
      have qHrw := Hrw.out
      rw [writeA, if_pos (fun k => hv k.1)] at qHrw
      simp only [Prod.mk.injEq] at qHrw
      have qHrl := Hrl.out
      rw [flushA, if_pos (hv)] at qHrl
      simp only [Prod.mk.injEq] at qHrl
      have qHrc := Hrc.out
      rw [crashA, if_pos (fun k => hv k.1)] at qHrc
      simp only [Prod.mk.injEq] at qHrc
      have qHru := Hru.out
      rw [faultA, if_pos (fun k => hv k.1)] at qHru
      simp only [Prod.mk.injEq] at qHru
      obtain ⟨rfl, hxl, rfl⟩ := qHrr
      obtain ⟨rfl, rfl⟩ := qHrw
      obtain ⟨rfl, rfl⟩ := qHrl
      obtain ⟨rfl, rfl⟩ := qHrc
      obtain ⟨rfl, rfl⟩ := qHru
      have xl0 : rl3.length = 0 := by rw [← hxl]; rfl
      clear hxl Hrr Hrw Hrl Hrc Hru E
      have he1 : errV d.d = 1 := if_neg hv
      have HV := Lib.hid hv
      have H1 := Lib.hid he1
      clear he1 hv
      go_upto_region 13 with (first | (go_at_call 18; (with_reducible refine cR.mono ?_); rintro e x2 ⟨rfl, hb2⟩))
      have E := HE.out.below hb2
      clear t0 t1 t2 t3 cR hb2 HE
      have HE := Lib.hid E
      obtain ⟨n0, n1, n2, n3, -, -, -, -⟩ := id E.n.r
      clear E
      have cK : ∀ W, Below x2.heap.size x2 W → _ := fun W hb => check_p y2 W (HE.out.below hb).n.o.in 1 (by rw [Hn.out]; exact H1.out)
      have cr : ∀ W, Below x2.heap.size x2 W → _ := fun W hb => disk_f y3 zdv W (HE.out.below hb).r.o.in (zdv_in _ _) (by rw [Hr.out]; exact small_no) true (decide_eq_true Hr.out)
      dsimp only [zdv, List.length_nil] at cr
      have cw : ∀ W, Below x2.heap.size x2 W → _ := fun W hb => disk_f y4 zdv W (HE.out.below hb).w.o.in (zdv_in _ _) (by rw [Hw.out]; exact small_no) true (decide_eq_true Hw.out)
      dsimp only [zdv, List.length_nil] at cw
      have cl : ∀ W, Below x2.heap.size x2 W → _ := fun W hb => disk_f y5 zdv W (HE.out.below hb).l.o.in (zdv_in _ _) (by rw [Hl.out]; exact small_no) true (decide_eq_true Hl.out)
      dsimp only [zdv, List.length_nil] at cl
      have cc : ∀ W, Below x2.heap.size x2 W → _ := fun W hb => disk_f y6 zdv W (HE.out.below hb).c.o.in (zdv_in _ _) (by rw [Hc.out]; exact small_no) true (decide_eq_true Hc.out)
      dsimp only [zdv, List.length_nil] at cc
      have cu : ∀ W, Below x2.heap.size x2 W → _ := fun W hb => disk_f y7 zdv W (HE.out.below hb).u.o.in (zdv_in _ _) (by rw [Hu.out]; exact small_no) true (decide_eq_true Hu.out)
      dsimp only [zdv, List.length_nil] at cu
      go_wp2_with (first | (go_at_call 19; (with_reducible refine (cK _ (Below.refl _ _)).mono ?_); rintro e x3 ⟨rfl, hbX⟩; obtain ⟨o0, o1, o2, o3, -, -, -, -⟩ := id (HE.out.below hbX).z; obtain ⟨r0, r1, r2, r3, -, -, -, -⟩ := id (HE.out.below hbX).r.r) | (go_at_call 17; (with_reducible refine (cr _ hbX).mono ?_); rintro e yrw ⟨rfl, hbY⟩; replace hbX := bt hbX hbY; obtain ⟨o0, o1, o2, o3, -, -, -, -⟩ := id (HE.out.below hbX).z; obtain ⟨r0, r1, r2, r3, -, -, -, -⟩ := id (HE.out.below hbX).w.r) | (go_at_call 17; (with_reducible refine (cw _ hbX).mono ?_); rintro e yww ⟨rfl, hbY⟩; replace hbX := bt hbX hbY; obtain ⟨o0, o1, o2, o3, -, -, -, -⟩ := id (HE.out.below hbX).z; obtain ⟨r0, r1, r2, r3, -, -, -, -⟩ := id (HE.out.below hbX).l.r) | (go_at_call 17; (with_reducible refine (cl _ hbX).mono ?_); rintro e ylw ⟨rfl, hbY⟩; replace hbX := bt hbX hbY; obtain ⟨o0, o1, o2, o3, -, -, -, -⟩ := id (HE.out.below hbX).z; obtain ⟨r0, r1, r2, r3, -, -, -, -⟩ := id (HE.out.below hbX).c.r) | (go_at_call 17; (with_reducible refine (cc _ hbX).mono ?_); rintro e ycw ⟨rfl, hbY⟩; replace hbX := bt hbX hbY; obtain ⟨o0, o1, o2, o3, -, -, -, -⟩ := id (HE.out.below hbX).z; obtain ⟨r0, r1, r2, r3, -, -, -, -⟩ := id (HE.out.below hbX).u.r) | (go_at_call 17; (with_reducible refine (cu _ hbX).mono ?_); rintro e yuw ⟨rfl, hbY⟩; replace hbX := bt hbX hbY) | (go_at_call 20; (with_reducible refine (dwakes _).mono ?_); rintro e w9 ⟨rfl, hb9⟩; replace hbX := bt hbX hb9))
      go_ret
      exact ⟨rfl, bt HE.out.B hbX⟩
  have cR := right_p d x1 E.d.in true (decide_eq_true hv)
  have HV := Lib.hid hv
  have cln : d.d.cells.length = d.cs.length := cds_length _
  have cm : 0 < d.cs.length := by have := hv.1.1.1; omega
  clear hv
  go_upto_region 14 with (first | (go_at_call 18; (with_reducible refine cR.mono ?_); rintro e x2 ⟨rfl, hb2⟩))
  have E := HE.out.below hb2
  clear HE
  have HE := Lib.hid E
  clear t0 t1 t2 t3 cR hb2
  obtain ⟨n0, n1, n2, n3, -, -, -, -⟩ := id E.n.r
  have cK := check_p y2 x2 E.n.o.in 0 (by rw [Hn.out]; exact if_pos HV.out)
  clear E
  go_upto_region 16 with (first | (go_at_call 19; (with_reducible refine cK.mono ?_); rintro e x3 ⟨rfl, hb3⟩))
  have E := HE.out.below hb3
  clear HE
  have HE := Lib.hid E
  clear n0 n1 n2 n3 cK hb3
  obtain ⟨t0, t1, t2, t3, -, -, -, -⟩ := id E.d.r
  clear E
  go_cut [28] from 145 (fun v wc => ∃ i : Bool, v = .bool i ∧ (i = true ↔ HasC d.d a) ∧ wc = x3)
  case first =>
    by_cases h1 : 0 ≤ a
    · by_cases h2 : a < (d.cs.length : Int)
      · have hd := Lib.hid (show HasC d.d a from ⟨h1, by rw [cln]; exact h2⟩)
        go_wp2_with fail
        go_meet
        case rel => exact ⟨true, rfl, ⟨fun _ => hd.out, fun _ => rfl⟩, rfl⟩
      · have hd := Lib.hid (show ¬ HasC d.d a from fun k => h2 (by have := k.2; rwa [cln] at this))
        go_wp2_with fail
        go_meet
        case rel => exact ⟨false, rfl, ⟨fun k => (by cases k), fun k => absurd k hd.out⟩, rfl⟩
    · have hd := Lib.hid (show ¬ HasC d.d a from fun k => h1 k.1)
      go_wp2_with fail
      go_meet
      case rel => exact ⟨false, rfl, ⟨fun k => (by cases k), fun k => absurd k hd.out⟩, rfl⟩
  case rest =>
    obtain ⟨isc, rfl, hiff, hwc⟩ := hcut
    replace hiff := Lib.hid hiff
    subst hwc
    obtain ⟨V0, rfl⟩ : ∃ x, x = wc := ⟨wc, rfl⟩
    clear t0 t1 t2 t3
    obtain ⟨t0, t1, t2, t3, -, -, -, -⟩ := id HE.out.d.r
    have cO := own_p d V0 HE.out.d.in HV.out
    go_upto_if 157 with (first | (go_at_call 21; (with_reducible refine cO.mono ?_); rintro e x5 ⟨⟨yy, gy, rfl, hyd, hy, hyr⟩, C⟩))
    clear cO t0 t1 t2 t3
    have HYd := Lib.hid hyd
    have HY := Lib.hid hy
    have HYr := Lib.hid hyr
    have HC := Lib.hid C
    clear hyd hy hyr C
    go_cut [30] from 158 (fun v wc => Below V0.heap.size V0 wc)
    case first =>
      as_aux_lemma =>
        by_cases hh : HasC d.d a
        rotate_left
        · obtain rfl : isc = false := by cases isc with | false => rfl | true => exact absurd (hiff.out.1 rfl) hh
          have qq := Hrr.out
          rw [readA, if_pos (fun k => hh k.2)] at qq
          simp only [Prod.mk.injEq] at qq
          obtain ⟨rfl, rfl, rfl⟩ := qq
          clear Hrr hh
          have cD := disk_f y3 zdv x5 (HE.out.below HC.out).r.o.in (zdv_in _ _) (by rw [Hr.out]; exact small_no) true (decide_eq_true Hr.out)
          dsimp only [zdv, List.length_nil] at cD
          obtain ⟨o0, o1, o2, o3, -, -, -, -⟩ := id (HE.out.below HC.out).z
          obtain ⟨r0, r1, r2, r3, -, -, -, -⟩ := id (HE.out.below HC.out).r.r
          go_wp2_with (first | (go_at_call 17; (with_reducible refine cD.mono ?_); rintro e x6 ⟨rfl, hb6⟩))
          go_meet
          case rel => exact bt HC.out hb6
        obtain rfl : isc = true := hiff.out.2 hh
        have cZ := rread_p yy a V0.heap.size gy x5 HY.out d.d Dr rl3 er HYd.out HV.out hh Hrr.out
        clear hh
        go_upto_region 22 with (first | (go_at_call 22; (with_reducible refine cZ.mono ?_); rintro e x6 ⟨⟨rq, rfl, hrq, Iq⟩, ⟨z, hz, hzr⟩, hb6⟩; replace hrq := Lib.hid hrq))
        clear cZ
        have X7 := Lib.hid (twoC_new x6 (.int .i64 er) (.slice rq.A rq.l.length rq.c) 43)
        have b7 := bl x6 (.cells #[.int .i64 er, .slice rq.A rq.l.length rq.c] 43)
        have HC7 := Lib.hid (bt (HC.out.trans hb6) b7)
        have hz7 := Lib.hid (hzr.below b7)
        have Iq7 := Lib.hid (Iq.next b7)
        replace hz := Lib.hid hz
        have sx7 : x6.heap.size < (x6.alloc (.cells #[.int .i64 er, .slice rq.A rq.l.length rq.c] 43)).heap.size := by simp
        clear hb6 b7 hzr Iq HY HYd HYr
        generalize x6.alloc (.cells #[.int .i64 er, .slice rq.A rq.l.length rq.c] 43) = x7 at *
        have HF : ∀ W, Below x7.heap.size x7 W → Below x7.heap.size x7 W ∧ W.cell? ⟨gr, 0, none⟩ = some (.slice y3.CA y3.cs.length y3.cc) ∧ W.cell? ⟨gr, 1, none⟩ = some (.slice y3.WA y3.ws.length y3.wc) ∧ W.cell? ⟨gr, 2, none⟩ = some (.int .i64 y3.reqs) ∧ W.cell? ⟨gr, 3, none⟩ = some (.int .i64 y3.left) ∧ W.cell? ⟨gy, 0, none⟩ = some (.slice z.CA z.cs.length z.cc) ∧ W.cell? ⟨gy, 1, none⟩ = some (.slice z.WA z.ws.length z.wc) ∧ W.cell? ⟨gy, 2, none⟩ = some (.int .i64 z.reqs) ∧ W.cell? ⟨gy, 3, none⟩ = some (.int .i64 z.left) ∧ W.cell? ⟨x6.heap.size, 0, none⟩ = some (.int .i64 er) ∧ W.cell? ⟨x6.heap.size, 1, none⟩ = some (.slice rq.A rq.l.length rq.c) := fun W hb => ⟨hb, ((HE.out.below HC7.out).below hb).r.r.c0, ((HE.out.below HC7.out).below hb).r.r.c1, ((HE.out.below HC7.out).below hb).r.r.c2, ((HE.out.below HC7.out).below hb).r.r.c3, (hz7.out.below hb).r.c0, (hz7.out.below hb).r.c1, (hz7.out.below hb).r.c2, (hz7.out.below hb).r.c3, (X7.out.keep hb sx7).c0, (X7.out.keep hb sx7).c1⟩
        have cD : ∀ W, Below x7.heap.size x7 W → _ := fun W hb => disk_f y3 z W ((HE.out.below HC7.out).below hb).r.o.in (hz7.out.below hb).o.in (by rw [Hr.out, show Dr = (readA d.d a).1 by rw [Hrr.out]]; exact small_readA HSm.out a) true (decide_eq_true (Hr.out.trans hz.out.symm))
        have cB : ∀ W, Below x7.heap.size x7 W → _ := fun W hb => keep_rin ⟨ra3, rc3, rl3⟩ rq W ((HE.out.below HC7.out).below hb).x (Iq7.out.next hb) (Nat.le_trans (readA_len HV.out Hrr.out) (by decide))
        dsimp only at cB
        rw [decide_eq_true (show rl3 = rq.l from hrq.out.symm)] at cB
        have HFh := HF
        clear HF
        go_region_held3 (fun W => Below x7.heap.size x7 W ∧ W.cell? ⟨gr, 0, none⟩ = some (.slice y3.CA y3.cs.length y3.cc) ∧ W.cell? ⟨gr, 1, none⟩ = some (.slice y3.WA y3.ws.length y3.wc) ∧ W.cell? ⟨gr, 2, none⟩ = some (.int .i64 y3.reqs) ∧ W.cell? ⟨gr, 3, none⟩ = some (.int .i64 y3.left) ∧ W.cell? ⟨gy, 0, none⟩ = some (.slice z.CA z.cs.length z.cc) ∧ W.cell? ⟨gy, 1, none⟩ = some (.slice z.WA z.ws.length z.wc) ∧ W.cell? ⟨gy, 2, none⟩ = some (.int .i64 z.reqs) ∧ W.cell? ⟨gy, 3, none⟩ = some (.int .i64 z.left) ∧ W.cell? ⟨x6.heap.size, 0, none⟩ = some (.int .i64 er) ∧ W.cell? ⟨x6.heap.size, 1, none⟩ = some (.slice rq.A rq.l.length rq.c))
          ((first | (with_reducible exact HFh _ (by first | (with_reducible assumption) | (with_reducible exact Below.refl _ _) | (with_reducible exact below_dr (Below.refl _ _)))) | fail))
          (first | (go_at_call 17; (with_reducible refine (cD _ (by first | (with_reducible assumption) | (with_reducible exact Below.refl _ _) | (with_reducible exact below_dr (Below.refl _ _)))).mono ?_); rintro e wB ⟨rfl, hbB⟩; have hbX : Below x7.heap.size x7 wB := bt (by first | (with_reducible assumption) | (with_reducible exact Below.refl _ _) | (with_reducible exact below_dr (Below.refl _ _))) hbB) | (go_at_call 23; (with_reducible refine (cB _ (by first | (with_reducible assumption) | (with_reducible exact Below.refl _ _) | (with_reducible exact below_dr (Below.refl _ _)))).mono ?_); rintro e wA ⟨rfl, hbA⟩; have hbX : Below x7.heap.size x7 wA := bt (by first | (with_reducible assumption) | (with_reducible exact Below.refl _ _) | (with_reducible exact below_dr (Below.refl _ _))) hbA) | fail)
        all_goals (go_wp2_with fail; go_meet)
        all_goals exact bt HC7.out hbX
    case rest =>
      obtain ⟨V1, rfl⟩ : ∃ x, x = wc := ⟨wc, rfl⟩
      have E := HE.out.below hcut
      clear HE hcut HC HY HYd HYr
      have HE := Lib.hid E
      clear E
      obtain ⟨t0, t1, t2, t3, -, -, -, -⟩ := id HE.out.d.r
      have cO := own_p d V1 HE.out.d.in HV.out
      go_upto_region 25 with (first | (go_at_call 21; (with_reducible refine cO.mono ?_); rintro e x5 ⟨⟨yy, gy, rfl, hyd, hy, hyr⟩, C⟩))
      clear cO t0 t1 t2 t3
      have HYd := Lib.hid hyd
      have HY := Lib.hid hy
      have HYr := Lib.hid hyr
      have HC := Lib.hid C
      clear hyd hy hyr C
      go_cut [202] from 196 to 201 (fun v wc => ∃ i : Bool, v = .bool i ∧ (i = true ↔ (¬ HasC d.d a ∨ 200 < b.l.length)) ∧ wc = x5)
      case first =>
        by_cases hh : HasC d.d a
        · obtain rfl : isc = true := hiff.out.2 hh
          have hd := Lib.hid hh
          clear hh
          by_cases h2 : 200 < b.l.length
          · have h3 := Lib.hid h2
            have h4 : 200 < (b.l.length : Int) := by omega
            clear h2
            go_wp2_with fail
            go_meet
            case rel => exact ⟨true, rfl, ⟨fun _ => .inr h3.out, fun _ => rfl⟩, rfl⟩
          · have h3 := Lib.hid h2
            have h4 : ¬ (200 < (b.l.length : Int)) := by omega
            clear h2
            go_wp2_with fail
            go_meet
            case rel => exact ⟨false, rfl, ⟨fun k => (by cases k), fun k => (k.elim (fun q => absurd hd.out q) (fun q => absurd q h3.out))⟩, rfl⟩
        · obtain rfl : isc = false := by cases isc with | false => rfl | true => exact absurd (hiff.out.1 rfl) hh
          have hd := Lib.hid hh
          clear hh
          go_wp2_with fail
          go_meet
          case rel => exact ⟨true, rfl, ⟨fun _ => .inl hd.out, fun _ => rfl⟩, rfl⟩
      case rest =>
        obtain ⟨isw, rfl, hifw, hwc⟩ := hcut
        replace hifw := Lib.hid hifw
        subst hwc
        obtain ⟨x5, rfl⟩ : ∃ x, x = wc := ⟨wc, rfl⟩
        go_upto_if 202 with fail
        go_cut [31] from 203 (fun v wc => Below V1.heap.size V1 wc)
        case first =>
          as_aux_lemma =>
            by_cases hh : HasC d.d a ∧ b.l.length ≤ 200
            rotate_left
            · obtain rfl : isw = true := hifw.out.2 (by by_cases q : HasC d.d a; exact .inr (Nat.lt_of_not_le fun k => hh ⟨q, k⟩); exact .inl q)
              have qq := Hrw.out
              rw [writeA, if_pos (fun k => hh k.2)] at qq
              simp only [Prod.mk.injEq] at qq
              obtain ⟨rfl, rfl⟩ := qq
              clear Hrw hh hifw
              have cD := disk_f y4 zdv x5 (HE.out.below HC.out).w.o.in (zdv_in _ _) (by rw [Hw.out]; exact small_no) true (decide_eq_true Hw.out)
              dsimp only [zdv, List.length_nil] at cD
              obtain ⟨o0, o1, o2, o3, -, -, -, -⟩ := id (HE.out.below HC.out).z
              obtain ⟨r0, r1, r2, r3, -, -, -, -⟩ := id (HE.out.below HC.out).w.r
              go_wp2_with (first | (go_at_call 17; (with_reducible refine cD.mono ?_); rintro e x6 ⟨rfl, hb6⟩))
              go_meet
              case rel => exact bt HC.out hb6
            obtain rfl : isw = false := by cases isw with | false => rfl | true => exact absurd (hifw.out.1 rfl) (fun q => q.elim (fun u => u hh.1) (fun u => by have := hh.2; omega))
            have cZ := rwrite_p yy a b V1.heap.size gy x5 HY.out HYr.out (HE.out.b.below HC.out) d.d Dw ew HYd.out HV.out hh.1 hh.2 Hrw.out
            clear hh hifw
            go_upto_region 29 with (first | (go_at_call 24; (with_reducible refine cZ.mono ?_); rintro e x7 ⟨rfl, ⟨z, hz, hzr⟩, hb6⟩))
            clear cZ
            have HC7 := Lib.hid (HC.out.trans hb6)
            have hz7 := Lib.hid hzr
            replace hz := Lib.hid hz
            clear hb6 hzr HY HYd HYr
            have HF : ∀ W, Below x7.heap.size x7 W → Below x7.heap.size x7 W ∧ W.cell? ⟨gw, 0, none⟩ = some (.slice y4.CA y4.cs.length y4.cc) ∧ W.cell? ⟨gw, 1, none⟩ = some (.slice y4.WA y4.ws.length y4.wc) ∧ W.cell? ⟨gw, 2, none⟩ = some (.int .i64 y4.reqs) ∧ W.cell? ⟨gw, 3, none⟩ = some (.int .i64 y4.left) ∧ W.cell? ⟨gy, 0, none⟩ = some (.slice z.CA z.cs.length z.cc) ∧ W.cell? ⟨gy, 1, none⟩ = some (.slice z.WA z.ws.length z.wc) ∧ W.cell? ⟨gy, 2, none⟩ = some (.int .i64 z.reqs) ∧ W.cell? ⟨gy, 3, none⟩ = some (.int .i64 z.left) := fun W hb => ⟨hb, ((HE.out.below HC7.out).below hb).w.r.c0, ((HE.out.below HC7.out).below hb).w.r.c1, ((HE.out.below HC7.out).below hb).w.r.c2, ((HE.out.below HC7.out).below hb).w.r.c3, (hz7.out.below hb).r.c0, (hz7.out.below hb).r.c1, (hz7.out.below hb).r.c2, (hz7.out.below hb).r.c3⟩
            have cD : ∀ W, Below x7.heap.size x7 W → _ := fun W hb => disk_f y4 z W ((HE.out.below HC7.out).below hb).w.o.in (hz7.out.below hb).o.in (by rw [Hw.out, show Dw = (writeA d.d a b.l).1 by rw [Hrw.out]]; exact small_writeA HSm.out a b.l) true (decide_eq_true (Hw.out.trans hz.out.symm))
            have HFh := HF
            clear HF
            go_region_held3 (fun W => Below x7.heap.size x7 W ∧ W.cell? ⟨gw, 0, none⟩ = some (.slice y4.CA y4.cs.length y4.cc) ∧ W.cell? ⟨gw, 1, none⟩ = some (.slice y4.WA y4.ws.length y4.wc) ∧ W.cell? ⟨gw, 2, none⟩ = some (.int .i64 y4.reqs) ∧ W.cell? ⟨gw, 3, none⟩ = some (.int .i64 y4.left) ∧ W.cell? ⟨gy, 0, none⟩ = some (.slice z.CA z.cs.length z.cc) ∧ W.cell? ⟨gy, 1, none⟩ = some (.slice z.WA z.ws.length z.wc) ∧ W.cell? ⟨gy, 2, none⟩ = some (.int .i64 z.reqs) ∧ W.cell? ⟨gy, 3, none⟩ = some (.int .i64 z.left))
              ((first | (with_reducible exact HFh _ (by first | (with_reducible assumption) | (with_reducible exact Below.refl _ _) | (with_reducible exact below_dr (Below.refl _ _)))) | fail))
              (first | (go_at_call 17; (with_reducible refine (cD _ (by first | (with_reducible assumption) | (with_reducible exact Below.refl _ _) | (with_reducible exact below_dr (Below.refl _ _)))).mono ?_); rintro e wB ⟨rfl, hbB⟩; have hbX : Below x7.heap.size x7 wB := bt (by first | (with_reducible assumption) | (with_reducible exact Below.refl _ _) | (with_reducible exact below_dr (Below.refl _ _))) hbB) | fail)
            all_goals (go_wp2_with fail; go_meet)
            all_goals exact bt HC7.out hbX
        case rest =>
          obtain ⟨V2, rfl⟩ : ∃ x, x = wc := ⟨wc, rfl⟩
          have E := HE.out.below hcut
          clear HE hcut HC HY HYd HYr
          have HE := Lib.hid E
          clear E
          clear hifw
          obtain ⟨t0, t1, t2, t3, -, -, -, -⟩ := id HE.out.d.r
          have cO := own_p d V2 HE.out.d.in HV.out
          go_upto_region 32 with (first | (go_at_call 21; (with_reducible refine cO.mono ?_); rintro e x5 ⟨⟨yy, gy, rfl, hyd, hy, hyr⟩, C⟩))
          clear cO t0 t1 t2 t3
          have HYd := Lib.hid hyd
          have HY := Lib.hid hy
          have HYr := Lib.hid hyr
          have HC := Lib.hid C
          clear hyd hy hyr C
          have cZ := rflush_p yy V2.heap.size gy x5 HY.out d.d Dl el HYd.out HV.out Hrl.out
          go_upto_region 33 with (first | (go_at_call 25; (with_reducible refine cZ.mono ?_); rintro e x7 ⟨rfl, ⟨z, hz, hzr⟩, hb6⟩))
          clear cZ
          have HC7 := Lib.hid (HC.out.trans hb6)
          have hz7 := Lib.hid hzr
          replace hz := Lib.hid hz
          clear hb6 hzr HY HYd HYr
          go_cut [242] from 231 to 241 (fun v wc => v = .bool false ∧ Below V2.heap.size V2 wc)
          case first =>
            as_aux_lemma =>
              have HF : ∀ W, Below x7.heap.size x7 W → Below x7.heap.size x7 W ∧ W.cell? ⟨gl, 0, none⟩ = some (.slice y5.CA y5.cs.length y5.cc) ∧ W.cell? ⟨gl, 1, none⟩ = some (.slice y5.WA y5.ws.length y5.wc) ∧ W.cell? ⟨gl, 2, none⟩ = some (.int .i64 y5.reqs) ∧ W.cell? ⟨gl, 3, none⟩ = some (.int .i64 y5.left) ∧ W.cell? ⟨gy, 0, none⟩ = some (.slice z.CA z.cs.length z.cc) ∧ W.cell? ⟨gy, 1, none⟩ = some (.slice z.WA z.ws.length z.wc) ∧ W.cell? ⟨gy, 2, none⟩ = some (.int .i64 z.reqs) ∧ W.cell? ⟨gy, 3, none⟩ = some (.int .i64 z.left) := fun W hb => ⟨hb, ((HE.out.below HC7.out).below hb).l.r.c0, ((HE.out.below HC7.out).below hb).l.r.c1, ((HE.out.below HC7.out).below hb).l.r.c2, ((HE.out.below HC7.out).below hb).l.r.c3, (hz7.out.below hb).r.c0, (hz7.out.below hb).r.c1, (hz7.out.below hb).r.c2, (hz7.out.below hb).r.c3⟩
              have cD : ∀ W, Below x7.heap.size x7 W → _ := fun W hb => disk_f y5 z W ((HE.out.below HC7.out).below hb).l.o.in (hz7.out.below hb).o.in (by rw [Hl.out, show Dl = (flushA d.d).1 by rw [Hrl.out]]; exact small_flushA HSm.out) true (decide_eq_true (Hl.out.trans hz.out.symm))
              have HFh := HF
              clear HF
              go_region_held3 (fun W => Below x7.heap.size x7 W ∧ W.cell? ⟨gl, 0, none⟩ = some (.slice y5.CA y5.cs.length y5.cc) ∧ W.cell? ⟨gl, 1, none⟩ = some (.slice y5.WA y5.ws.length y5.wc) ∧ W.cell? ⟨gl, 2, none⟩ = some (.int .i64 y5.reqs) ∧ W.cell? ⟨gl, 3, none⟩ = some (.int .i64 y5.left) ∧ W.cell? ⟨gy, 0, none⟩ = some (.slice z.CA z.cs.length z.cc) ∧ W.cell? ⟨gy, 1, none⟩ = some (.slice z.WA z.ws.length z.wc) ∧ W.cell? ⟨gy, 2, none⟩ = some (.int .i64 z.reqs) ∧ W.cell? ⟨gy, 3, none⟩ = some (.int .i64 z.left))
                ((first | (with_reducible exact HFh _ (by first | (with_reducible assumption) | (with_reducible exact Below.refl _ _) | (with_reducible exact below_dr (Below.refl _ _)))) | fail))
                (first | (go_at_call 17; (with_reducible refine (cD _ (by first | (with_reducible assumption) | (with_reducible exact Below.refl _ _) | (with_reducible exact below_dr (Below.refl _ _)))).mono ?_); rintro e wB ⟨rfl, hbB⟩; have hbX : Below x7.heap.size x7 wB := bt (by first | (with_reducible assumption) | (with_reducible exact Below.refl _ _) | (with_reducible exact below_dr (Below.refl _ _))) hbB) | fail)
              all_goals (go_wp2_with fail; go_meet)
              all_goals exact ⟨rfl, bt HC7.out hbX⟩
          case rest =>
            obtain ⟨rfl, hcut⟩ := hcut
            clear HC7 hz7 hz
            obtain ⟨V3, rfl⟩ : ∃ x, x = wc := ⟨wc, rfl⟩
            have E := HE.out.below hcut
            clear HE hcut
            have HE := Lib.hid E
            clear E
            clear HC
            go_upto_if 244 with fail
            go_cut [29] from 244 (fun v wc => Below V3.heap.size V3 wc)
            case first =>
              as_aux_lemma =>
                by_cases hk : keep < 0
                · have hk2 := Lib.hid hk
                  have qq := Hrc.out
                  rw [crashA, if_pos (fun k => by have := k.2; have := hk2.out; omega)] at qq
                  simp only [Prod.mk.injEq] at qq
                  obtain ⟨rfl, rfl⟩ := qq
                  clear Hrc
                  have HC := Lib.hid (Below.refl V3.heap.size V3)
                  have cD := disk_f y6 zdv V3 (HE.out.below HC.out).c.o.in (zdv_in _ _) (by rw [Hc.out]; exact small_no) true (decide_eq_true Hc.out)
                  dsimp only [zdv, List.length_nil] at cD
                  obtain ⟨o0, o1, o2, o3, -, -, -, -⟩ := id (HE.out.below HC.out).z
                  obtain ⟨r0, r1, r2, r3, -, -, -, -⟩ := id (HE.out.below HC.out).c.r
                  go_wp2_with (first | (go_at_call 17; (with_reducible refine cD.mono ?_); rintro e x6 ⟨rfl, hb6⟩))
                  go_meet
                  case rel => exact bt HC.out hb6
                · have hk0 : 0 ≤ keep := by omega
                  have e0 : ec = 0 := by
                    have qq := Hrc.out
                    rw [crashA, if_neg (not_not_intro ⟨HV.out, hk0⟩)] at qq
                    simp only [Prod.mk.injEq] at qq
                    exact qq.2.symm
                  subst e0
                  obtain ⟨t0, t1, t2, t3, -, -, -, -⟩ := id HE.out.d.r
                  have cO := own_p d V3 HE.out.d.in HV.out
                  go_upto_region 39 with (first | (go_at_call 21; (with_reducible refine cO.mono ?_); rintro e x5 ⟨⟨yy, gy, rfl, hyd, hy, hyr⟩, C⟩))
                  clear cO t0 t1 t2 t3
                  have HYd := Lib.hid hyd
                  have HY := Lib.hid hy
                  have HYr := Lib.hid hyr
                  have HC := Lib.hid C
                  clear hyd hy hyr C
                  have cZ := rcrash_p yy keep V3.heap.size gy x5 HY.out d.d Dc HYd.out HV.out hk0 hkm Hrc.out
                  go_upto_region 40 with (first | (go_at_call 26; (with_reducible refine cZ.mono ?_); rintro e x7 ⟨rfl, ⟨z, hz, hzr⟩, hb6⟩))
                  clear cZ
                  have HC7 := Lib.hid (HC.out.trans hb6)
                  have hz7 := Lib.hid hzr
                  replace hz := Lib.hid hz
                  clear hb6 hzr HY HYd HYr
                  have HF : ∀ W, Below x7.heap.size x7 W → Below x7.heap.size x7 W ∧ W.cell? ⟨gc, 0, none⟩ = some (.slice y6.CA y6.cs.length y6.cc) ∧ W.cell? ⟨gc, 1, none⟩ = some (.slice y6.WA y6.ws.length y6.wc) ∧ W.cell? ⟨gc, 2, none⟩ = some (.int .i64 y6.reqs) ∧ W.cell? ⟨gc, 3, none⟩ = some (.int .i64 y6.left) ∧ W.cell? ⟨gy, 0, none⟩ = some (.slice z.CA z.cs.length z.cc) ∧ W.cell? ⟨gy, 1, none⟩ = some (.slice z.WA z.ws.length z.wc) ∧ W.cell? ⟨gy, 2, none⟩ = some (.int .i64 z.reqs) ∧ W.cell? ⟨gy, 3, none⟩ = some (.int .i64 z.left) := fun W hb => ⟨hb, ((HE.out.below HC7.out).below hb).c.r.c0, ((HE.out.below HC7.out).below hb).c.r.c1, ((HE.out.below HC7.out).below hb).c.r.c2, ((HE.out.below HC7.out).below hb).c.r.c3, (hz7.out.below hb).r.c0, (hz7.out.below hb).r.c1, (hz7.out.below hb).r.c2, (hz7.out.below hb).r.c3⟩
                  have cD : ∀ W, Below x7.heap.size x7 W → _ := fun W hb => disk_f y6 z W ((HE.out.below HC7.out).below hb).c.o.in (hz7.out.below hb).o.in (by rw [Hc.out, show Dc = (crashA d.d keep).1 by rw [Hrc.out]]; exact small_crashA HSm.out keep) true (decide_eq_true (Hc.out.trans hz.out.symm))
                  have HFh := HF
                  clear HF
                  go_region_held3 (fun W => Below x7.heap.size x7 W ∧ W.cell? ⟨gc, 0, none⟩ = some (.slice y6.CA y6.cs.length y6.cc) ∧ W.cell? ⟨gc, 1, none⟩ = some (.slice y6.WA y6.ws.length y6.wc) ∧ W.cell? ⟨gc, 2, none⟩ = some (.int .i64 y6.reqs) ∧ W.cell? ⟨gc, 3, none⟩ = some (.int .i64 y6.left) ∧ W.cell? ⟨gy, 0, none⟩ = some (.slice z.CA z.cs.length z.cc) ∧ W.cell? ⟨gy, 1, none⟩ = some (.slice z.WA z.ws.length z.wc) ∧ W.cell? ⟨gy, 2, none⟩ = some (.int .i64 z.reqs) ∧ W.cell? ⟨gy, 3, none⟩ = some (.int .i64 z.left))
                    ((first | (with_reducible exact HFh _ (by first | (with_reducible assumption) | (with_reducible exact Below.refl _ _) | (with_reducible exact below_dr (Below.refl _ _)))) | fail))
                    (first | (go_at_call 17; (with_reducible refine (cD _ (by first | (with_reducible assumption) | (with_reducible exact Below.refl _ _) | (with_reducible exact below_dr (Below.refl _ _)))).mono ?_); rintro e wB ⟨rfl, hbB⟩; have hbX : Below x7.heap.size x7 wB := bt (by first | (with_reducible assumption) | (with_reducible exact Below.refl _ _) | (with_reducible exact below_dr (Below.refl _ _))) hbB) | fail)
                  all_goals (go_wp2_with fail; go_meet)
                  all_goals exact bt HC7.out hbX
            case rest =>
              obtain ⟨V4, rfl⟩ : ∃ x, x = wc := ⟨wc, rfl⟩
              have E := HE.out.below hcut
              clear HE hcut
              have HE := Lib.hid E
              clear E
              obtain ⟨t0, t1, t2, t3, -, -, -, -⟩ := id HE.out.d.r
              have cO := own_p d V4 HE.out.d.in HV.out
              go_upto_region 43 with (first | (go_at_call 21; (with_reducible refine cO.mono ?_); rintro e x5 ⟨⟨yy, gy, rfl, hyd, hy, hyr⟩, C⟩))
              clear cO t0 t1 t2 t3
              have HYd := Lib.hid hyd
              have HY := Lib.hid hy
              have HYr := Lib.hid hyr
              have HC := Lib.hid C
              clear hyd hy hyr C
              have cZ := rfault_p yy kind a fr bit bit V4.heap.size gy x5 HY.out d.d Du eu HYd.out HV.out Hru.out
              go_upto_region 44 with (first | (go_at_call 27; (with_reducible refine cZ.mono ?_); rintro e x7 ⟨rfl, ⟨z, hz, hzr⟩, hb6⟩))
              clear cZ
              have HC7 := Lib.hid (HC.out.trans hb6)
              have hz7 := Lib.hid hzr
              replace hz := Lib.hid hz
              clear hb6 hzr HY HYd HYr
              go_cut [303] from 278 to 302 (fun v wc => v = .bool false ∧ Below V4.heap.size V4 wc)
              case first =>
                as_aux_lemma =>
                  by_cases h0 : eu = 0
                  · subst h0
                    replace hz := Lib.hid (hz.out rfl)
                    have HF : ∀ W, Below x7.heap.size x7 W → Below x7.heap.size x7 W ∧ W.cell? ⟨gu, 0, none⟩ = some (.slice y7.CA y7.cs.length y7.cc) ∧ W.cell? ⟨gu, 1, none⟩ = some (.slice y7.WA y7.ws.length y7.wc) ∧ W.cell? ⟨gu, 2, none⟩ = some (.int .i64 y7.reqs) ∧ W.cell? ⟨gu, 3, none⟩ = some (.int .i64 y7.left) ∧ W.cell? ⟨gy, 0, none⟩ = some (.slice z.CA z.cs.length z.cc) ∧ W.cell? ⟨gy, 1, none⟩ = some (.slice z.WA z.ws.length z.wc) ∧ W.cell? ⟨gy, 2, none⟩ = some (.int .i64 z.reqs) ∧ W.cell? ⟨gy, 3, none⟩ = some (.int .i64 z.left) ∧ W.cell? ⟨go, 0, none⟩ = some (.slice none 0 0) ∧ W.cell? ⟨go, 1, none⟩ = some (.slice none 0 0) ∧ W.cell? ⟨go, 2, none⟩ = some (.int .i64 0) ∧ W.cell? ⟨go, 3, none⟩ = some (.int .i64 0) := fun W hb => ⟨hb, ((HE.out.below HC7.out).below hb).u.r.c0, ((HE.out.below HC7.out).below hb).u.r.c1, ((HE.out.below HC7.out).below hb).u.r.c2, ((HE.out.below HC7.out).below hb).u.r.c3, (hz7.out.below hb).r.c0, (hz7.out.below hb).r.c1, (hz7.out.below hb).r.c2, (hz7.out.below hb).r.c3, ((HE.out.below HC7.out).below hb).z.c0, ((HE.out.below HC7.out).below hb).z.c1, ((HE.out.below HC7.out).below hb).z.c2, ((HE.out.below HC7.out).below hb).z.c3⟩
                    have cD : ∀ W, Below x7.heap.size x7 W → _ := fun W hb => disk_f y7 z W ((HE.out.below HC7.out).below hb).u.o.in (hz7.out.below hb).o.in (by rw [Hu.out, show Du = (faultA d.d kind a fr bit bit).1 by rw [Hru.out]]; exact small_faultA HSm.out kind a fr bit bit) true (decide_eq_true (Hu.out.trans hz.out.symm))
                    have HFh := HF
                    clear HF
                    refine wp_region_held_drew (S := fun W => Below x7.heap.size x7 W ∧ W.cell? ⟨gu, 0, none⟩ = some (.slice y7.CA y7.cs.length y7.cc) ∧ W.cell? ⟨gu, 1, none⟩ = some (.slice y7.WA y7.ws.length y7.wc) ∧ W.cell? ⟨gu, 2, none⟩ = some (.int .i64 y7.reqs) ∧ W.cell? ⟨gu, 3, none⟩ = some (.int .i64 y7.left) ∧ W.cell? ⟨gy, 0, none⟩ = some (.slice z.CA z.cs.length z.cc) ∧ W.cell? ⟨gy, 1, none⟩ = some (.slice z.WA z.ws.length z.wc) ∧ W.cell? ⟨gy, 2, none⟩ = some (.int .i64 z.reqs) ∧ W.cell? ⟨gy, 3, none⟩ = some (.int .i64 z.left) ∧ W.cell? ⟨go, 0, none⟩ = some (.slice none 0 0) ∧ W.cell? ⟨go, 1, none⟩ = some (.slice none 0 0) ∧ W.cell? ⟨go, 2, none⟩ = some (.int .i64 0) ∧ W.cell? ⟨go, 3, none⟩ = some (.int .i64 0)) (by kernel_rfl) (HFh _ (below_dr (Below.refl _ _))) (fun hHeld => ?_)
                    (refine wpAnyH_take (i := 0) (v := ?_) rfl (by kernel_rfl) (by kernel_rfl) (by kernel_rfl) (fun _ _ _ h => h) (Or.inl ⟨by rfl, ?_⟩) (by assumption) ?_; rotate_left; (focus (intro w hSw; (try dsimp only at hSw); go_split_ands; go_simp <;> with_reducible rfl)); simp only [List.getElem_toArray, List.getElem_cons_zero, Act.put, List.setIfInBounds_toArray, List.set_cons_zero, List.set_cons_succ])
                    (refine wpAnyH_take (i := 1) (v := ?_) rfl (by kernel_rfl) (by kernel_rfl) (by kernel_rfl) (fun _ _ _ h => h) (Or.inl ⟨by rfl, ?_⟩) (by assumption) ?_; rotate_left; (focus (intro w hSw; (try dsimp only at hSw); go_split_ands; go_simp <;> with_reducible rfl)); simp only [List.getElem_toArray, List.getElem_cons_zero, List.getElem_cons_succ, Act.put, List.setIfInBounds_toArray, List.set_cons_zero, List.set_cons_succ])
                    (refine wpAnyH_take (i := 2) (v := ?_) rfl (by kernel_rfl) (by kernel_rfl) (by kernel_rfl) (fun _ _ _ h => h) (Or.inl ⟨by rfl, ?_⟩) (by assumption) ?_; rotate_left; (focus (intro w hSw; (try dsimp only at hSw); go_split_ands; go_simp <;> with_reducible rfl)); simp only [List.getElem_toArray, List.getElem_cons_zero, List.getElem_cons_succ, Act.put, List.setIfInBounds_toArray, List.set_cons_zero, List.set_cons_succ])
                    (refine wpAnyH_take (i := 3) (v := ?_) rfl (by kernel_rfl) (by kernel_rfl) (by kernel_rfl) (fun _ _ _ h => h) (Or.inl ⟨by rfl, ?_⟩) (by assumption) ?_; rotate_left; (focus (intro w hSw; (try dsimp only at hSw); go_split_ands; go_simp <;> with_reducible rfl)); simp only [List.getElem_toArray, List.getElem_cons_zero, List.getElem_cons_succ, Act.put, List.setIfInBounds_toArray, List.set_cons_zero, List.set_cons_succ])
                    (refine wpAnyH_take (i := 4) (v := ?_) rfl (by kernel_rfl) (by kernel_rfl) (by kernel_rfl) (fun _ _ _ h => h) (Or.inl ⟨by rfl, ?_⟩) (by assumption) ?_; rotate_left; (focus (intro w hSw; (try dsimp only at hSw); go_split_ands; go_simp <;> with_reducible rfl)); simp only [List.getElem_toArray, List.getElem_cons_zero, List.getElem_cons_succ, Act.put, List.setIfInBounds_toArray, List.set_cons_zero, List.set_cons_succ])
                    (refine wpAnyH_take (i := 5) (v := ?_) rfl (by kernel_rfl) (by kernel_rfl) (by kernel_rfl) (fun _ _ _ h => h) (Or.inl ⟨by rfl, ?_⟩) (by assumption) ?_; rotate_left; (focus (intro w hSw; (try dsimp only at hSw); go_split_ands; go_simp <;> with_reducible rfl)); simp only [List.getElem_toArray, List.getElem_cons_zero, List.getElem_cons_succ, Act.put, List.setIfInBounds_toArray, List.set_cons_zero, List.set_cons_succ])
                    (refine wpAnyH_take (i := 6) (v := ?_) rfl (by kernel_rfl) (by kernel_rfl) (by kernel_rfl) (fun _ _ _ h => h) (Or.inl ⟨by rfl, ?_⟩) (by assumption) ?_; rotate_left; (focus (intro w hSw; (try dsimp only at hSw); go_split_ands; go_simp <;> with_reducible rfl)); simp only [List.getElem_toArray, List.getElem_cons_zero, List.getElem_cons_succ, Act.put, List.setIfInBounds_toArray, List.set_cons_zero, List.set_cons_succ])
                    (refine wpAnyH_take (i := 7) (v := ?_) rfl (by kernel_rfl) (by kernel_rfl) (by kernel_rfl) (fun _ _ _ h => h) (Or.inl ⟨by rfl, ?_⟩) (by assumption) ?_; rotate_left; (focus (intro w hSw; (try dsimp only at hSw); go_split_ands; go_simp <;> with_reducible rfl)); simp only [List.getElem_toArray, List.getElem_cons_zero, List.getElem_cons_succ, Act.put, List.setIfInBounds_toArray, List.set_cons_zero, List.set_cons_succ])
                    (refine wpAnyH_take (i := 8) (v := ?_) rfl (by kernel_rfl) (by kernel_rfl) (by kernel_rfl) (fun _ _ _ h => h) (Or.inl ⟨by rfl, ?_⟩) (by assumption) ?_; rotate_left; (focus (intro w hSw; (try dsimp only at hSw); go_split_ands; go_simp <;> with_reducible rfl)); simp only [List.getElem_toArray, List.getElem_cons_zero, List.getElem_cons_succ, Act.put, List.setIfInBounds_toArray, List.set_cons_zero, List.set_cons_succ])
                    (refine wpAnyH_take (i := 9) (v := ?_) rfl (by kernel_rfl) (by kernel_rfl) (by kernel_rfl) (fun _ _ _ h => h) (Or.inl ⟨by rfl, ?_⟩) (by assumption) ?_; rotate_left; (focus (intro w hSw; (try dsimp only at hSw); go_split_ands; go_simp <;> with_reducible rfl)); simp only [List.getElem_toArray, List.getElem_cons_zero, List.getElem_cons_succ, Act.put, List.setIfInBounds_toArray, List.set_cons_zero, List.set_cons_succ])
                    (refine wpAnyH_take (i := 10) (v := ?_) rfl (by kernel_rfl) (by kernel_rfl) (by kernel_rfl) (fun _ _ _ h => h) (Or.inl ⟨by rfl, ?_⟩) (by assumption) ?_; rotate_left; (focus (intro w hSw; (try dsimp only at hSw); go_split_ands; go_simp <;> with_reducible rfl)); simp only [List.getElem_toArray, List.getElem_cons_zero, List.getElem_cons_succ, Act.put, List.setIfInBounds_toArray, List.set_cons_zero, List.set_cons_succ])
                    (refine wpAnyH_take (i := 11) (v := ?_) rfl (by kernel_rfl) (by kernel_rfl) (by kernel_rfl) (fun _ _ _ h => h) (Or.inl ⟨by rfl, ?_⟩) (by assumption) ?_; rotate_left; (focus (intro w hSw; (try dsimp only at hSw); go_split_ands; go_simp <;> with_reducible rfl)); simp only [List.getElem_toArray, List.getElem_cons_zero, List.getElem_cons_succ, Act.put, List.setIfInBounds_toArray, List.set_cons_zero, List.set_cons_succ])
                    refine wpAnyH_ready (rs := [12]) (by kernel_rfl) (by simp) ?_
                    refine AllReadyH.cons rfl (fun K hK => ?_) AllReadyH.nil
                    go_simp
                    (with_reducible refine (cD _ (by first | (with_reducible assumption) | (with_reducible exact Below.refl _ _) | (with_reducible exact below_dr (Below.refl _ _)))).mono ?_)
                    rintro e wB ⟨rfl, hbB⟩
                    have hbX : Below x7.heap.size x7 wB := bt (by first | (with_reducible assumption) | (with_reducible exact Below.refl _ _) | (with_reducible exact below_dr (Below.refl _ _))) hbB
                    refine hK.out _ _ (HFh _ hbX) (fun hS2 => ?_)
                    clear hK K
                    try simp only [Act.put, List.setIfInBounds_toArray, List.set_cons_zero, List.set_cons_succ]
                    (refine wpAnyH_take (i := 13) (v := ?_) rfl (by kernel_rfl) (by kernel_rfl) (by kernel_rfl) (fun _ _ _ h => h) (Or.inl ⟨by rfl, ?_⟩) (by assumption) ?_; rotate_left; (focus (intro w hSw; (try dsimp only at hSw); go_split_ands; go_simp <;> with_reducible rfl)); simp only [List.getElem_toArray, List.getElem_cons_zero, List.getElem_cons_succ, Act.put, List.setIfInBounds_toArray, List.set_cons_zero, List.set_cons_succ])
                    (refine wpAnyH_take (i := 14) (v := ?_) rfl (by kernel_rfl) (by kernel_rfl) (by kernel_rfl) (fun _ _ _ h => h) (Or.inl ⟨by rfl, ?_⟩) (by assumption) ?_; rotate_left; (focus (intro w hSw; (try dsimp only at hSw); go_split_ands; go_simp <;> with_reducible rfl)); simp only [List.getElem_toArray, List.getElem_cons_zero, List.getElem_cons_succ, Act.put, List.setIfInBounds_toArray, List.set_cons_zero, List.set_cons_succ])
                    (refine wpAnyH_take (i := 15) (v := ?_) rfl (by kernel_rfl) (by kernel_rfl) (by kernel_rfl) (fun _ _ _ h => h) (Or.inl ⟨by rfl, ?_⟩) (by assumption) ?_; rotate_left; (focus (intro w hSw; (try dsimp only at hSw); go_split_ands; go_simp <;> with_reducible rfl)); simp only [List.getElem_toArray, List.getElem_cons_zero, List.getElem_cons_succ, Act.put, List.setIfInBounds_toArray, List.set_cons_zero, List.set_cons_succ])
                    (refine wpAnyH_take (i := 16) (v := ?_) rfl (by kernel_rfl) (by kernel_rfl) (by kernel_rfl) (fun _ _ _ h => h) (Or.inl ⟨by rfl, ?_⟩) (by assumption) ?_; rotate_left; (focus (intro w hSw; (try dsimp only at hSw); go_split_ands; go_simp <;> with_reducible rfl)); simp only [List.getElem_toArray, List.getElem_cons_zero, List.getElem_cons_succ, Act.put, List.setIfInBounds_toArray, List.set_cons_zero, List.set_cons_succ])
                    (refine wpAnyH_take (i := 17) (v := ?_) rfl (by kernel_rfl) (by kernel_rfl) (by kernel_rfl) (fun _ _ _ h => h) (Or.inl ⟨by rfl, ?_⟩) (by assumption) ?_; rotate_left; (focus (intro w hSw; (try dsimp only at hSw); go_split_ands; go_simp <;> with_reducible rfl)); simp only [List.getElem_toArray, List.getElem_cons_zero, List.getElem_cons_succ, Act.put, List.setIfInBounds_toArray, List.set_cons_zero, List.set_cons_succ])
                    (refine wpAnyH_take (i := 18) (v := ?_) rfl (by kernel_rfl) (by kernel_rfl) (by kernel_rfl) (fun _ _ _ h => h) (Or.inl ⟨by rfl, ?_⟩) (by assumption) ?_; rotate_left; (focus (intro w hSw; (try dsimp only at hSw); go_split_ands; go_simp <;> with_reducible rfl)); simp only [List.getElem_toArray, List.getElem_cons_zero, List.getElem_cons_succ, Act.put, List.setIfInBounds_toArray, List.set_cons_zero, List.set_cons_succ])
                    (refine wpAnyH_take (i := 19) (v := ?_) rfl (by kernel_rfl) (by kernel_rfl) (by kernel_rfl) (fun _ _ _ h => h) (Or.inl ⟨by rfl, ?_⟩) (by assumption) ?_; rotate_left; (focus (intro w hSw; (try dsimp only at hSw); go_split_ands; go_simp <;> with_reducible rfl)); simp only [List.getElem_toArray, List.getElem_cons_zero, List.getElem_cons_succ, Act.put, List.setIfInBounds_toArray, List.set_cons_zero, List.set_cons_succ])
                    (refine wpAnyH_take (i := 20) (v := undef) rfl (by kernel_rfl) (by kernel_rfl) (by kernel_rfl) (fun _ _ _ h => h) (Or.inr ⟨by rfl, rfl⟩) (by assumption) ?_; simp only [List.getElem_toArray, List.getElem_cons_zero, List.getElem_cons_succ, Act.put, List.setIfInBounds_toArray, List.set_cons_zero, List.set_cons_succ])
                    (refine wpAnyH_take (i := 21) (v := undef) rfl (by kernel_rfl) (by kernel_rfl) (by kernel_rfl) (fun _ _ _ h => h) (Or.inr ⟨by rfl, rfl⟩) (by assumption) ?_; simp only [List.getElem_toArray, List.getElem_cons_zero, List.getElem_cons_succ, Act.put, List.setIfInBounds_toArray, List.set_cons_zero, List.set_cons_succ])
                    (refine wpAnyH_take (i := 22) (v := undef) rfl (by kernel_rfl) (by kernel_rfl) (by kernel_rfl) (fun _ _ _ h => h) (Or.inr ⟨by rfl, rfl⟩) (by assumption) ?_; simp only [List.getElem_toArray, List.getElem_cons_zero, List.getElem_cons_succ, Act.put, List.setIfInBounds_toArray, List.set_cons_zero, List.set_cons_succ])
                    (refine wpAnyH_take (i := 23) (v := undef) rfl (by kernel_rfl) (by kernel_rfl) (by kernel_rfl) (fun _ _ _ h => h) (Or.inr ⟨by rfl, rfl⟩) (by assumption) ?_; simp only [List.getElem_toArray, List.getElem_cons_zero, List.getElem_cons_succ, Act.put, List.setIfInBounds_toArray, List.set_cons_zero, List.set_cons_succ])
                    (refine wpAnyH_take (i := 24) (v := ?_) rfl (by kernel_rfl) (by kernel_rfl) (by kernel_rfl) (fun _ _ _ h => h) (Or.inl ⟨by rfl, ?_⟩) (by assumption) ?_; rotate_left; (focus (intro w hSw; (try dsimp only at hSw); go_split_ands; go_simp <;> with_reducible rfl)); simp only [List.getElem_toArray, List.getElem_cons_zero, List.getElem_cons_succ, Act.put, List.setIfInBounds_toArray, List.set_cons_zero, List.set_cons_succ])
                    (refine wpAnyH_take (i := 25) (v := ?_) rfl (by kernel_rfl) (by kernel_rfl) (by kernel_rfl) (fun _ _ _ h => h) (Or.inl ⟨by rfl, ?_⟩) (by assumption) ?_; rotate_left; (focus (intro w hSw; (try dsimp only at hSw); go_split_ands; go_simp <;> with_reducible rfl)); simp only [List.getElem_toArray, List.getElem_cons_zero, List.getElem_cons_succ, Act.put, List.setIfInBounds_toArray, List.set_cons_zero, List.set_cons_succ])
                    refine wpAnyH_done (by kernel_rfl) ?_ _
                    all_goals (go_wp2_with fail; go_meet)
                    all_goals exact ⟨rfl, bt HC7.out hbX⟩
                  · have n0 : (eu == 0) = false := beq_eq_false_iff_ne.2 h0
                    have n1 : (eu != 0) = true := bne_iff_ne.2 h0
                    have eD := (faultA_no Hru.out).2 h0
                    subst eD
                    clear h0 Hru
                    have HF : ∀ W, Below x7.heap.size x7 W → Below x7.heap.size x7 W ∧ W.cell? ⟨gu, 0, none⟩ = some (.slice y7.CA y7.cs.length y7.cc) ∧ W.cell? ⟨gu, 1, none⟩ = some (.slice y7.WA y7.ws.length y7.wc) ∧ W.cell? ⟨gu, 2, none⟩ = some (.int .i64 y7.reqs) ∧ W.cell? ⟨gu, 3, none⟩ = some (.int .i64 y7.left) ∧ W.cell? ⟨gy, 0, none⟩ = some (.slice z.CA z.cs.length z.cc) ∧ W.cell? ⟨gy, 1, none⟩ = some (.slice z.WA z.ws.length z.wc) ∧ W.cell? ⟨gy, 2, none⟩ = some (.int .i64 z.reqs) ∧ W.cell? ⟨gy, 3, none⟩ = some (.int .i64 z.left) ∧ W.cell? ⟨go, 0, none⟩ = some (.slice none 0 0) ∧ W.cell? ⟨go, 1, none⟩ = some (.slice none 0 0) ∧ W.cell? ⟨go, 2, none⟩ = some (.int .i64 0) ∧ W.cell? ⟨go, 3, none⟩ = some (.int .i64 0) := fun W hb => ⟨hb, ((HE.out.below HC7.out).below hb).u.r.c0, ((HE.out.below HC7.out).below hb).u.r.c1, ((HE.out.below HC7.out).below hb).u.r.c2, ((HE.out.below HC7.out).below hb).u.r.c3, (hz7.out.below hb).r.c0, (hz7.out.below hb).r.c1, (hz7.out.below hb).r.c2, (hz7.out.below hb).r.c3, ((HE.out.below HC7.out).below hb).z.c0, ((HE.out.below HC7.out).below hb).z.c1, ((HE.out.below HC7.out).below hb).z.c2, ((HE.out.below HC7.out).below hb).z.c3⟩
                    have cD : ∀ W, Below x7.heap.size x7 W → _ := fun W hb => disk_f y7 zdv W ((HE.out.below HC7.out).below hb).u.o.in (zdv_in _ _) (by rw [Hu.out]; exact small_no) true (decide_eq_true Hu.out)
                    dsimp only [zdv, List.length_nil] at cD
                    have HFh := HF
                    clear HF
                    refine wp_region_held_drew (S := fun W => Below x7.heap.size x7 W ∧ W.cell? ⟨gu, 0, none⟩ = some (.slice y7.CA y7.cs.length y7.cc) ∧ W.cell? ⟨gu, 1, none⟩ = some (.slice y7.WA y7.ws.length y7.wc) ∧ W.cell? ⟨gu, 2, none⟩ = some (.int .i64 y7.reqs) ∧ W.cell? ⟨gu, 3, none⟩ = some (.int .i64 y7.left) ∧ W.cell? ⟨gy, 0, none⟩ = some (.slice z.CA z.cs.length z.cc) ∧ W.cell? ⟨gy, 1, none⟩ = some (.slice z.WA z.ws.length z.wc) ∧ W.cell? ⟨gy, 2, none⟩ = some (.int .i64 z.reqs) ∧ W.cell? ⟨gy, 3, none⟩ = some (.int .i64 z.left) ∧ W.cell? ⟨go, 0, none⟩ = some (.slice none 0 0) ∧ W.cell? ⟨go, 1, none⟩ = some (.slice none 0 0) ∧ W.cell? ⟨go, 2, none⟩ = some (.int .i64 0) ∧ W.cell? ⟨go, 3, none⟩ = some (.int .i64 0)) (by kernel_rfl) (HFh _ (below_dr (Below.refl _ _))) (fun hHeld => ?_)
                    (refine wpAnyH_take (i := 0) (v := ?_) rfl (by kernel_rfl) (by kernel_rfl) (by kernel_rfl) (fun _ _ _ h => h) (Or.inl ⟨by rfl, ?_⟩) (by assumption) ?_; rotate_left; (focus (intro w hSw; (try dsimp only at hSw); go_split_ands; go_simp <;> with_reducible rfl)); simp only [List.getElem_toArray, List.getElem_cons_zero, Act.put, List.setIfInBounds_toArray, List.set_cons_zero, List.set_cons_succ])
                    (refine wpAnyH_take (i := 1) (v := ?_) rfl (by kernel_rfl) (by kernel_rfl) (by kernel_rfl) (fun _ _ _ h => h) (Or.inl ⟨by rfl, ?_⟩) (by assumption) ?_; rotate_left; (focus (intro w hSw; (try dsimp only at hSw); go_split_ands; go_simp <;> with_reducible rfl)); simp only [List.getElem_toArray, List.getElem_cons_zero, List.getElem_cons_succ, Act.put, List.setIfInBounds_toArray, List.set_cons_zero, List.set_cons_succ])
                    (refine wpAnyH_take (i := 2) (v := ?_) rfl (by kernel_rfl) (by kernel_rfl) (by kernel_rfl) (fun _ _ _ h => h) (Or.inl ⟨by rfl, ?_⟩) (by assumption) ?_; rotate_left; (focus (intro w hSw; (try dsimp only at hSw); go_split_ands; go_simp <;> with_reducible rfl)); simp only [List.getElem_toArray, List.getElem_cons_zero, List.getElem_cons_succ, Act.put, List.setIfInBounds_toArray, List.set_cons_zero, List.set_cons_succ])
                    (refine wpAnyH_take (i := 3) (v := ?_) rfl (by kernel_rfl) (by kernel_rfl) (by kernel_rfl) (fun _ _ _ h => h) (Or.inl ⟨by rfl, ?_⟩) (by assumption) ?_; rotate_left; (focus (intro w hSw; (try dsimp only at hSw); go_split_ands; go_simp <;> with_reducible rfl)); simp only [List.getElem_toArray, List.getElem_cons_zero, List.getElem_cons_succ, Act.put, List.setIfInBounds_toArray, List.set_cons_zero, List.set_cons_succ])
                    (refine wpAnyH_take (i := 4) (v := ?_) rfl (by kernel_rfl) (by kernel_rfl) (by kernel_rfl) (fun _ _ _ h => h) (Or.inl ⟨by rfl, ?_⟩) (by assumption) ?_; rotate_left; (focus (intro w hSw; (try dsimp only at hSw); go_split_ands; go_simp <;> with_reducible rfl)); simp only [List.getElem_toArray, List.getElem_cons_zero, List.getElem_cons_succ, Act.put, List.setIfInBounds_toArray, List.set_cons_zero, List.set_cons_succ])
                    (refine wpAnyH_take (i := 5) (v := ?_) rfl (by kernel_rfl) (by kernel_rfl) (by kernel_rfl) (fun _ _ _ h => h) (Or.inl ⟨by rfl, ?_⟩) (by assumption) ?_; rotate_left; (focus (intro w hSw; (try dsimp only at hSw); go_split_ands; go_simp <;> with_reducible rfl)); simp only [List.getElem_toArray, List.getElem_cons_zero, List.getElem_cons_succ, Act.put, List.setIfInBounds_toArray, List.set_cons_zero, List.set_cons_succ])
                    (refine wpAnyH_take (i := 6) (v := ?_) rfl (by kernel_rfl) (by kernel_rfl) (by kernel_rfl) (fun _ _ _ h => h) (Or.inl ⟨by rfl, ?_⟩) (by assumption) ?_; rotate_left; (focus (intro w hSw; (try dsimp only at hSw); go_split_ands; go_simp <;> with_reducible rfl)); simp only [List.getElem_toArray, List.getElem_cons_zero, List.getElem_cons_succ, Act.put, List.setIfInBounds_toArray, List.set_cons_zero, List.set_cons_succ])
                    (refine wpAnyH_take (i := 7) (v := undef) rfl (by kernel_rfl) (by kernel_rfl) (by kernel_rfl) (fun _ _ _ h => h) (Or.inr ⟨by rfl, rfl⟩) (by assumption) ?_; simp only [List.getElem_toArray, List.getElem_cons_zero, List.getElem_cons_succ, Act.put, List.setIfInBounds_toArray, List.set_cons_zero, List.set_cons_succ])
                    (refine wpAnyH_take (i := 8) (v := undef) rfl (by kernel_rfl) (by kernel_rfl) (by kernel_rfl) (fun _ _ _ h => h) (Or.inr ⟨by rfl, rfl⟩) (by assumption) ?_; simp only [List.getElem_toArray, List.getElem_cons_zero, List.getElem_cons_succ, Act.put, List.setIfInBounds_toArray, List.set_cons_zero, List.set_cons_succ])
                    (refine wpAnyH_take (i := 9) (v := undef) rfl (by kernel_rfl) (by kernel_rfl) (by kernel_rfl) (fun _ _ _ h => h) (Or.inr ⟨by rfl, rfl⟩) (by assumption) ?_; simp only [List.getElem_toArray, List.getElem_cons_zero, List.getElem_cons_succ, Act.put, List.setIfInBounds_toArray, List.set_cons_zero, List.set_cons_succ])
                    (refine wpAnyH_take (i := 10) (v := undef) rfl (by kernel_rfl) (by kernel_rfl) (by kernel_rfl) (fun _ _ _ h => h) (Or.inr ⟨by rfl, rfl⟩) (by assumption) ?_; simp only [List.getElem_toArray, List.getElem_cons_zero, List.getElem_cons_succ, Act.put, List.setIfInBounds_toArray, List.set_cons_zero, List.set_cons_succ])
                    (refine wpAnyH_take (i := 11) (v := undef) rfl (by kernel_rfl) (by kernel_rfl) (by kernel_rfl) (fun _ _ _ h => h) (Or.inr ⟨by rfl, rfl⟩) (by assumption) ?_; simp only [List.getElem_toArray, List.getElem_cons_zero, List.getElem_cons_succ, Act.put, List.setIfInBounds_toArray, List.set_cons_zero, List.set_cons_succ])
                    (refine wpAnyH_take (i := 12) (v := undef) rfl (by kernel_rfl) (by kernel_rfl) (by kernel_rfl) (fun _ _ _ h => h) (Or.inr ⟨by rfl, rfl⟩) (by assumption) ?_; simp only [List.getElem_toArray, List.getElem_cons_zero, List.getElem_cons_succ, Act.put, List.setIfInBounds_toArray, List.set_cons_zero, List.set_cons_succ])
                    (refine wpAnyH_take (i := 13) (v := undef) rfl (by kernel_rfl) (by kernel_rfl) (by kernel_rfl) (fun _ _ _ h => h) (Or.inr ⟨by rfl, rfl⟩) (by assumption) ?_; simp only [List.getElem_toArray, List.getElem_cons_zero, List.getElem_cons_succ, Act.put, List.setIfInBounds_toArray, List.set_cons_zero, List.set_cons_succ])
                    (refine wpAnyH_take (i := 14) (v := ?_) rfl (by kernel_rfl) (by kernel_rfl) (by kernel_rfl) (fun _ _ _ h => h) (Or.inl ⟨by rfl, ?_⟩) (by assumption) ?_; rotate_left; (focus (intro w hSw; (try dsimp only at hSw); go_split_ands; go_simp <;> with_reducible rfl)); simp only [List.getElem_toArray, List.getElem_cons_zero, List.getElem_cons_succ, Act.put, List.setIfInBounds_toArray, List.set_cons_zero, List.set_cons_succ])
                    (refine wpAnyH_take (i := 15) (v := ?_) rfl (by kernel_rfl) (by kernel_rfl) (by kernel_rfl) (fun _ _ _ h => h) (Or.inl ⟨by rfl, ?_⟩) (by assumption) ?_; rotate_left; (focus (intro w hSw; (try dsimp only at hSw); go_split_ands; go_simp <;> with_reducible rfl)); simp only [List.getElem_toArray, List.getElem_cons_zero, List.getElem_cons_succ, Act.put, List.setIfInBounds_toArray, List.set_cons_zero, List.set_cons_succ])
                    (refine wpAnyH_take (i := 16) (v := ?_) rfl (by kernel_rfl) (by kernel_rfl) (by kernel_rfl) (fun _ _ _ h => h) (Or.inl ⟨by rfl, ?_⟩) (by assumption) ?_; rotate_left; (focus (intro w hSw; (try dsimp only at hSw); go_split_ands; go_simp <;> with_reducible rfl)); simp only [List.getElem_toArray, List.getElem_cons_zero, List.getElem_cons_succ, Act.put, List.setIfInBounds_toArray, List.set_cons_zero, List.set_cons_succ])
                    (refine wpAnyH_take (i := 17) (v := ?_) rfl (by kernel_rfl) (by kernel_rfl) (by kernel_rfl) (fun _ _ _ h => h) (Or.inl ⟨by rfl, ?_⟩) (by assumption) ?_; rotate_left; (focus (intro w hSw; (try dsimp only at hSw); go_split_ands; go_simp <;> with_reducible rfl)); simp only [List.getElem_toArray, List.getElem_cons_zero, List.getElem_cons_succ, Act.put, List.setIfInBounds_toArray, List.set_cons_zero, List.set_cons_succ])
                    (refine wpAnyH_take (i := 18) (v := ?_) rfl (by kernel_rfl) (by kernel_rfl) (by kernel_rfl) (fun _ _ _ h => h) (Or.inl ⟨by rfl, ?_⟩) (by assumption) ?_; rotate_left; (focus (intro w hSw; (try dsimp only at hSw); go_split_ands; go_simp <;> with_reducible rfl)); simp only [List.getElem_toArray, List.getElem_cons_zero, List.getElem_cons_succ, Act.put, List.setIfInBounds_toArray, List.set_cons_zero, List.set_cons_succ])
                    (refine wpAnyH_take (i := 19) (v := ?_) rfl (by kernel_rfl) (by kernel_rfl) (by kernel_rfl) (fun _ _ _ h => h) (Or.inl ⟨by rfl, ?_⟩) (by assumption) ?_; rotate_left; (focus (intro w hSw; (try dsimp only at hSw); go_split_ands; go_simp <;> with_reducible rfl)); simp only [List.getElem_toArray, List.getElem_cons_zero, List.getElem_cons_succ, Act.put, List.setIfInBounds_toArray, List.set_cons_zero, List.set_cons_succ])
                    (refine wpAnyH_take (i := 20) (v := ?_) rfl (by kernel_rfl) (by kernel_rfl) (by kernel_rfl) (fun _ _ _ h => h) (Or.inl ⟨by rfl, ?_⟩) (by assumption) ?_; rotate_left; (focus (intro w hSw; (try dsimp only at hSw); go_split_ands; go_simp <;> with_reducible rfl)); simp only [List.getElem_toArray, List.getElem_cons_zero, List.getElem_cons_succ, Act.put, List.setIfInBounds_toArray, List.set_cons_zero, List.set_cons_succ])
                    (refine wpAnyH_take (i := 21) (v := ?_) rfl (by kernel_rfl) (by kernel_rfl) (by kernel_rfl) (fun _ _ _ h => h) (Or.inl ⟨by rfl, ?_⟩) (by assumption) ?_; rotate_left; (focus (intro w hSw; (try dsimp only at hSw); go_split_ands; go_simp <;> with_reducible rfl)); simp only [List.getElem_toArray, List.getElem_cons_zero, List.getElem_cons_succ, Act.put, List.setIfInBounds_toArray, List.set_cons_zero, List.set_cons_succ])
                    refine wpAnyH_ready (rs := [22]) (by kernel_rfl) (by simp) ?_
                    refine AllReadyH.cons rfl (fun K hK => ?_) AllReadyH.nil
                    go_simp
                    (with_reducible refine (cD _ (by first | (with_reducible assumption) | (with_reducible exact Below.refl _ _) | (with_reducible exact below_dr (Below.refl _ _)))).mono ?_)
                    rintro e wB ⟨rfl, hbB⟩
                    have hbX : Below x7.heap.size x7 wB := bt (by first | (with_reducible assumption) | (with_reducible exact Below.refl _ _) | (with_reducible exact below_dr (Below.refl _ _))) hbB
                    refine hK.out _ _ (HFh _ hbX) (fun hS2 => ?_)
                    clear hK K
                    try simp only [Act.put, List.setIfInBounds_toArray, List.set_cons_zero, List.set_cons_succ]
                    (refine wpAnyH_take (i := 23) (v := ?_) rfl (by kernel_rfl) (by kernel_rfl) (by kernel_rfl) (fun _ _ _ h => h) (Or.inl ⟨by rfl, ?_⟩) (by assumption) ?_; rotate_left; (focus (intro w hSw; (try dsimp only at hSw); go_split_ands; go_simp <;> with_reducible rfl)); simp only [List.getElem_toArray, List.getElem_cons_zero, List.getElem_cons_succ, Act.put, List.setIfInBounds_toArray, List.set_cons_zero, List.set_cons_succ])
                    (refine wpAnyH_take (i := 24) (v := ?_) rfl (by kernel_rfl) (by kernel_rfl) (by kernel_rfl) (fun _ _ _ h => h) (Or.inl ⟨by rfl, ?_⟩) (by assumption) ?_; rotate_left; (focus (intro w hSw; (try dsimp only at hSw); go_split_ands; go_simp <;> with_reducible rfl)); simp only [List.getElem_toArray, List.getElem_cons_zero, List.getElem_cons_succ, Act.put, List.setIfInBounds_toArray, List.set_cons_zero, List.set_cons_succ])
                    (refine wpAnyH_take (i := 25) (v := ?_) rfl (by kernel_rfl) (by kernel_rfl) (by kernel_rfl) (fun _ _ _ h => h) (Or.inl ⟨by rfl, ?_⟩) (by assumption) ?_; rotate_left; (focus (intro w hSw; (try dsimp only at hSw); go_split_ands; go_simp <;> with_reducible rfl)); simp only [List.getElem_toArray, List.getElem_cons_zero, List.getElem_cons_succ, Act.put, List.setIfInBounds_toArray, List.set_cons_zero, List.set_cons_succ])
                    refine wpAnyH_done (by kernel_rfl) ?_ _
                    all_goals (go_wp2_with fail; go_meet)
                    all_goals exact ⟨rfl, bt HC7.out hbX⟩
              case rest =>
                obtain ⟨rfl, hcut⟩ := hcut
                obtain ⟨V5, rfl⟩ : ∃ x, x = wc := ⟨wc, rfl⟩
                have HB := Lib.hid (HE.out.below hcut).B
                clear HC7 hz7 hz HE hcut HC
                go_wp2_with (first | (go_at_call 20; (with_reducible refine (dwakes _).mono ?_); rintro e w9 ⟨rfl, hb9⟩))
                go_ret
                exact ⟨rfl, bt HB.out hb9⟩
end Go.Proofs.Ytegcbmimndmfkaa.dsk
