/-
  The law DiskReads, walked. No condition.
-/
import Derived.Test.YtegcbmimndmfkaaDkAw
import Derived.Test.YtegcbmimndmfkaaDkRp
import Derived.Test.YtegcbmimndmfkaaDkS
import Derived.Test.YtegcbmimndmfkaaDkZ
import Derived.Test.YtegcbmimndmfkaaDkRi
namespace Go.Proofs.Ytegcbmimndmfkaa.dsk
open Go.RowKit Go.Lib

set_option maxRecDepth 100000 in
set_option maxHeartbeats 8000000 in
theorem reads_law (d : DV) (a b : Int) (xA : Option Addr) (xc : Nat) (xl : List UInt8) (w : World) (hx : d.In w w.heap.size) (hX : RIn w w.heap.size ⟨xA, xc, xl⟩) :
    Calls Try.prog 8 #[.agg #[.slice d.CA d.cs.length d.cc, .slice d.WA d.ws.length d.wc, .int .i64 d.reqs, .int .i64 d.left], .int .i64 a, .int .i64 b, .slice xA xl.length xc] w fun e w' => e = .returned (.bool true) ∧ Below w.heap.size w w' := by
  have B := Below.refl w.heap.size w
  have Vd := refi_new hx 25
  have Ix := hX
  have B := B.trans (bl w (.cells #[.slice d.CA d.cs.length d.cc, .slice d.WA d.ws.length d.wc, .int .i64 d.reqs, .int .i64 d.left] 25))
  have Ix := Ix.next (bl w (.cells #[.slice d.CA d.cs.length d.cc, .slice d.WA d.ws.length d.wc, .int .i64 d.reqs, .int .i64 d.left] 25))
  have s0 : w.heap.size < (w.alloc (.cells #[.slice d.CA d.cs.length d.cc, .slice d.WA d.ws.length d.wc, .int .i64 d.reqs, .int .i64 d.left] 25)).heap.size := by simp
  obtain ⟨t0, t1, t2, t3, -, -, -, -⟩ := id Vd.r
  go_enter Try.func8, Try.ntmps8
  go_wp2_with fail
  generalize w.alloc (.cells #[.slice d.CA d.cs.length d.cc, .slice d.WA d.ws.length d.wc, .int .i64 d.reqs, .int .i64 d.left] 25) = W0 at *
  have cH := heavy_p d W0 Vd.in
  go_at_call 10
  (with_reducible refine cH.mono ?_)
  rintro e w1 ⟨⟨b, rfl, -⟩, hb1⟩
  dsimp only
  have Z1 := hb1.size
  have Vd := Vd.below hb1
  have Ix := Ix.next hb1
  have B := bt B hb1
  obtain ⟨t0, t1, t2, t3, -, -, -, -⟩ := id Vd.r
  clear cH hb1
  have gz : w.heap.size < w1.heap.size := by omega
  clear s0 Z1
  rcases b with _ | _
  rotate_left
  · go_wp2_with fail
    go_ret
    exact ⟨rfl, B⟩
  by_cases hv : Valid d.d
  rotate_left
  · have cR := right_p d w1 Vd.in false (decide_eq_false hv)
    go_wp2_with (first | (go_at_call 18; (with_reducible refine cR.mono ?_); rintro e w2 ⟨rfl, hb2⟩; have Z2 := hb2.size; have Vd := Vd.below hb2; have Ix := Ix.next hb2; have B := bt B hb2; obtain ⟨t0, t1, t2, t3, -, -, -, -⟩ := id Vd.r))
    go_ret
    exact ⟨rfl, B⟩
  by_cases hxl : 200 < xl.length
  · have cR := right_p d w1 Vd.in true (decide_eq_true hv)
    have hxi : 200 < (xl.length : Int) := by omega
    go_wp2_with (first | (go_at_call 18; (with_reducible refine cR.mono ?_); rintro e w2 ⟨rfl, hb2⟩; have Z2 := hb2.size; have Vd := Vd.below hb2; have Ix := Ix.next hb2; have B := bt B hb2; obtain ⟨t0, t1, t2, t3, -, -, -, -⟩ := id Vd.r))
    go_ret
    exact ⟨rfl, B⟩
  have hxi : ¬ (200 < (xl.length : Int)) := by omega
  by_cases hl : 0 ≤ d.left
  · by_cases hl2 : d.left < 5
    · have cR := right_p d w1 Vd.in true (decide_eq_true hv)
      go_wp2_with (first | (go_at_call 18; (with_reducible refine cR.mono ?_); rintro e w2 ⟨rfl, hb2⟩; have Z2 := hb2.size; have Vd := Vd.below hb2; have Ix := Ix.next hb2; have B := bt B hb2; obtain ⟨t0, t1, t2, t3, -, -, -, -⟩ := id Vd.r))
      go_ret
      exact ⟨rfl, B⟩
    · skip
      by_cases hw : 50 ≤ d.ws.length
      · have hwi : 50 ≤ (d.ws.length : Int) := by omega
        have cR := right_p d w1 Vd.in true (decide_eq_true hv)
        go_wp2_with (first | (go_at_call 18; (with_reducible refine cR.mono ?_); rintro e w2 ⟨rfl, hb2⟩; have Z2 := hb2.size; have Vd := Vd.below hb2; have Ix := Ix.next hb2; have B := bt B hb2; obtain ⟨t0, t1, t2, t3, -, -, -, -⟩ := id Vd.r))
        go_ret
        exact ⟨rfl, B⟩
      have hwi : ¬ (50 ≤ (d.ws.length : Int)) := by omega
      have cR := right_p d w1 Vd.in true (decide_eq_true hv)
      go_upto_region 3 with (first | (go_at_call 18; (with_reducible refine cR.mono ?_); rintro e w2 ⟨rfl, hb2⟩; have Z2 := hb2.size; have Vd := Vd.below hb2; have Ix := Ix.next hb2; have B := bt B hb2; obtain ⟨t0, t1, t2, t3, -, -, -, -⟩ := id Vd.r))
      have gz2 : w.heap.size < w2.heap.size := by omega
      have hf := hv.fit
      have cl : d.d.cells.length = d.cs.length := cds_length _
      have wl : d.d.cache.length = d.ws.length := wds_length _
      have cn : d.cs.length ≤ 300 := by have := hv.1.1.2.1; omega
      have cm : 0 < d.cs.length := by have := hv.1.1.1; omega
      obtain ⟨A, hA, hAm⟩ := wmod a d.cs.length cm
      obtain ⟨Q, hQ, hQm⟩ := wmod b d.cs.length cm
      obtain ⟨C, r1, r2, r3, ⟨Wd', g, U, q1, q2, q3, q4, q5, q6⟩, L, V, p1, p2, p3, p4⟩ := reads_of hv (show d.d.left < 0 ∨ 5 ≤ d.d.left from (by show d.left < 0 ∨ 5 ≤ d.left; omega)) (by omega) A Q (by omega) (by omega) xl (by omega)
      have i3 : ((d.cs.length : Int) == 0) = false := beq_eq_false_iff_ne.2 (by omega)
      have i4 : (d.cs.length == 0) = false := beq_eq_false_iff_ne.2 (by omega)
      have i5 : (0 : Int) < (d.cs.length : Int) := by omega
      have i6 : (A : Int) < (d.cs.length : Int) := by omega
      have i7 : (Q : Int) < (d.cs.length : Int) := by omega
      have HV := Lib.hid hv
      have Hq5 := Lib.hid q5
      have Hq6 := Lib.hid q6
      have Hp4 := Lib.hid p4
      clear Z2 gz cR hb2 hv q5 q6 p4 hl hxi hwi hxl hw wl
      try clear hl2
      go_wp2_with fail
      go_quiet (fail)
      have bq := below_dn (Below.refl w2.heap.size w2) nq
      have Vd := Vd.below bq
      have Ix := Ix.next bq
      have B := bt B bq
      have gz3 : w.heap.size < (w2.drewN nq).heap.size := Vd.hi
      obtain ⟨t0, t1, t2, t3, -, -, -, -⟩ := id Vd.r
      clear bq gz2
      generalize w2.drewN nq = wq2 at *
      go_upto_region 5 with fail
      have cc3 := read_p d A wq2 _ _ _ _ Vd.in rfl r1
      try dsimp only at cc3
      go_upto_region 6 with (first | (go_at_call 12; (with_reducible refine cc3.mono ?_); rintro e w3 ⟨⟨y3, ⟨ra3, rc3, rl3⟩, rfl, hd3, hr3, ho3, hi3⟩, hb3⟩; have Z3 := hb3.size; dsimp only at hr3; subst hr3; dsimp only; have Vd := Vd.below hb3; have Ix := Ix.next hb3; have B := bt B hb3))
      clear cc3
      have Vr := var_new (base := w.heap.size) ho3 (by omega) (by omega) 25
      have al3 := bl w3 (.cells #[.slice y3.CA y3.cs.length y3.cc, .slice y3.WA y3.ws.length y3.wc, .int .i64 y3.reqs, .int .i64 y3.left] 25)
      have Vd := Vd.below al3
      have Ix := Ix.next al3
      have B := bt B al3
      have Ir3 := hi3.next al3
      have sz3 : w3.heap.size < (w3.alloc (.cells #[.slice y3.CA y3.cs.length y3.cc, .slice y3.WA y3.ws.length y3.wc, .int .i64 y3.reqs, .int .i64 y3.left] 25)).heap.size := by simp
      clear al3
      generalize w3.alloc (.cells #[.slice y3.CA y3.cs.length y3.cc, .slice y3.WA y3.ws.length y3.wc, .int .i64 y3.reqs, .int .i64 y3.left] 25) = W3 at *
      obtain ⟨l40, l41, l42, l43, -, -, -, -⟩ := id Vr.r
      clear r1
      have cc5 := read_p y3 A W3 _ _ _ _ Vr.o.in hd3 r2
      try dsimp only at cc5
      go_upto_region 7 with (first | (go_at_call 12; (with_reducible refine cc5.mono ?_); rintro e w5 ⟨⟨y5, ⟨ra5, rc5, rl5⟩, rfl, hd5, hr5, ho5, hi5⟩, hb5⟩; have Z5 := hb5.size; dsimp only at hr5; subst hr5; dsimp only; have Vd := Vd.below hb5; have Vr := Vr.below hb5; have Ix := Ix.next hb5; have Ir3 := Ir3.next hb5; have B := bt B hb5))
      clear cc5
      have Vs := var_new (base := w.heap.size) ho5 (by omega) (by omega) 25
      have al5 := bl w5 (.cells #[.slice y5.CA y5.cs.length y5.cc, .slice y5.WA y5.ws.length y5.wc, .int .i64 y5.reqs, .int .i64 y5.left] 25)
      have Vd := Vd.below al5
      have Vr := Vr.below al5
      have Ix := Ix.next al5
      have Ir3 := Ir3.next al5
      have B := bt B al5
      have Ir5 := hi5.next al5
      have sz5 : w5.heap.size < (w5.alloc (.cells #[.slice y5.CA y5.cs.length y5.cc, .slice y5.WA y5.ws.length y5.wc, .int .i64 y5.reqs, .int .i64 y5.left] 25)).heap.size := by simp
      clear al5
      generalize w5.alloc (.cells #[.slice y5.CA y5.cs.length y5.cc, .slice y5.WA y5.ws.length y5.wc, .int .i64 y5.reqs, .int .i64 y5.left] 25) = W5 at *
      obtain ⟨l60, l61, l62, l63, -, -, -, -⟩ := id Vr.r
      obtain ⟨l70, l71, l72, l73, -, -, -, -⟩ := id Vd.r
      obtain ⟨l80, l81, l82, l83, -, -, -, -⟩ := id Vs.r
      clear r2
      have ne : (C.2 != C.2) = false := bne_self_eq_false _
      have er : cds y3.cs = cds d.cs := congrArg Dsk.cells hd3
      have es : wds y5.ws = wds d.ws := congrArg Dsk.cache hd5
      have lr : y3.cs.length = d.cs.length := by rw [← cds_length, er, cds_length]
      have lw : y5.ws.length = d.ws.length := by rw [← wds_length, es, wds_length]
      have nl : ((y3.cs.length : Int) != (d.cs.length : Int)) = false := by rw [lr]; exact bne_self_eq_false _
      have wsh : WShort 1048576 y5.ws := fun r hr => by obtain ⟨j, hj, e⟩ := List.mem_map.1 (show r.d ∈ wds d.ws by rw [← es]; exact List.mem_map.2 ⟨r, hr, rfl⟩); have := hf.t j hj; rw [show r.b.l = j.b.l from (congrArg Wri.bs e).symm]; exact this
      have cW : ∀ W, Below W5.heap.size W5 W → Calls Try.prog 31 #[.slice y5.WA y5.ws.length y5.wc, .slice d.WA d.ws.length d.wc] W fun e w' => e = .returned (.bool true) ∧ Below W.heap.size W w' := fun W hW => by
        have h := writes_any y5.WA d.WA y5.wc d.wc _ _ y5.ws d.ws W rfl rfl (Vs.o.in.next hW).hw (Vd.in.next hW).hw (Vs.o.in.next hW).wi (Vd.in.next hW).wi (by have := hf.n.2; omega) wsh
        rwa [decide_eq_true es] at h
      clear er es lr lw wsh hd5
      have cc9 := keep_rin ⟨ra3, rc3, C.1⟩ ⟨ra5, rc5, C.1⟩ W5 Ir3 Ir5 (Nat.le_trans r3 (by decide))
      rw [decide_eq_true rfl] at cc9
      try dsimp only at cc9
      go_upto_region 9 with (first | (go_at_call 23; (with_reducible refine cc9.mono ?_); rintro e w9 ⟨rfl, hb9⟩; have Z9 := hb9.size; have Vd := Vd.below hb9; have Vr := Vr.below hb9; have Vs := Vs.below hb9; have Ix := Ix.next hb9; have Ir3 := Ir3.next hb9; have Ir5 := Ir5.next hb9; have B := bt B hb9; obtain ⟨da, db, dc, de, -, -, -, -⟩ := id Vd.r; obtain ⟨ra, rb, rc, re, -, -, -, -⟩ := id Vr.r; obtain ⟨sa, sb, sc, se, -, -, -, -⟩ := id Vs.r) | (go_at_call 31; (with_reducible refine (cW _ hb9).mono ?_); rintro e w10 ⟨rfl, hb10⟩; have Z10 := hb10.size; have Vd := Vd.below hb10; have Vr := Vr.below hb10; have Vs := Vs.below hb10; have Ix := Ix.next hb10; have Ir3 := Ir3.next hb10; have Ir5 := Ir5.next hb10; have B := bt B hb10; obtain ⟨da, db, dc, de, -, -, -, -⟩ := id Vd.r))
      clear cc9 cW hb9 hb10
      have cP := write_p d Q ⟨xA, xc, xl⟩ w10 _ _ _ Vd.in Ix rfl q1
      have cc11 := cP
      try dsimp only at cc11
      go_upto_region 10 with (first | (go_at_call 13; (with_reducible refine cc11.mono ?_); rintro e w11 ⟨⟨y11, rfl, hd11, ho11⟩, hb11⟩; have Z11 := hb11.size; have Vd := Vd.below hb11; have Vr := Vr.below hb11; have Vs := Vs.below hb11; have Ix := Ix.next hb11; have Ir3 := Ir3.next hb11; have Ir5 := Ir5.next hb11; have B := bt B hb11))
      clear cc11
      have Vw := var_new (base := w.heap.size) ho11 (by omega) (by omega) 25
      have al11 := bl w11 (.cells #[.slice y11.CA y11.cs.length y11.cc, .slice y11.WA y11.ws.length y11.wc, .int .i64 y11.reqs, .int .i64 y11.left] 25)
      have Vd := Vd.below al11
      have Vr := Vr.below al11
      have Vs := Vs.below al11
      have Ix := Ix.next al11
      have Ir3 := Ir3.next al11
      have Ir5 := Ir5.next al11
      have B := bt B al11
      have sz11 : w11.heap.size < (w11.alloc (.cells #[.slice y11.CA y11.cs.length y11.cc, .slice y11.WA y11.ws.length y11.wc, .int .i64 y11.reqs, .int .i64 y11.left] 25)).heap.size := by simp
      clear al11
      generalize w11.alloc (.cells #[.slice y11.CA y11.cs.length y11.cc, .slice y11.WA y11.ws.length y11.wc, .int .i64 y11.reqs, .int .i64 y11.left] 25) = W11 at *
      obtain ⟨l120, l121, l122, l123, -, -, -, -⟩ := id Vw.r
      clear cP q1
      have cc13 := read_p y11 A W11 _ _ _ _ Vw.o.in hd11 q2
      try dsimp only at cc13
      go_upto_region 11 with (first | (go_at_call 12; (with_reducible refine cc13.mono ?_); rintro e w13 ⟨⟨y13, ⟨ra13, rc13, rl13⟩, rfl, hd13, hr13, ho13, hi13⟩, hb13⟩; have Z13 := hb13.size; dsimp only at hr13; subst hr13; dsimp only; have Vd := Vd.below hb13; have Vr := Vr.below hb13; have Vs := Vs.below hb13; have Vw := Vw.below hb13; have Ix := Ix.next hb13; have Ir3 := Ir3.next hb13; have Ir5 := Ir5.next hb13; have B := bt B hb13))
      clear cc13
      have Vu := var_new (base := w.heap.size) ho13 (by omega) (by omega) 25
      have al13 := bl w13 (.cells #[.slice y13.CA y13.cs.length y13.cc, .slice y13.WA y13.ws.length y13.wc, .int .i64 y13.reqs, .int .i64 y13.left] 25)
      have Vd := Vd.below al13
      have Vr := Vr.below al13
      have Vs := Vs.below al13
      have Vw := Vw.below al13
      have Ix := Ix.next al13
      have Ir3 := Ir3.next al13
      have Ir5 := Ir5.next al13
      have B := bt B al13
      have Ir13 := hi13.next al13
      have sz13 : w13.heap.size < (w13.alloc (.cells #[.slice y13.CA y13.cs.length y13.cc, .slice y13.WA y13.ws.length y13.wc, .int .i64 y13.reqs, .int .i64 y13.left] 25)).heap.size := by simp
      clear al13
      generalize w13.alloc (.cells #[.slice y13.CA y13.cs.length y13.cc, .slice y13.WA y13.ws.length y13.wc, .int .i64 y13.reqs, .int .i64 y13.left] 25) = W13 at *
      obtain ⟨l140, l141, l142, l143, -, -, -, -⟩ := id Vd.r
      clear q2
      have cc15 := flush_p d W13 _ _ _ Vd.in rfl p1
      try dsimp only at cc15
      go_upto_region 12 with (first | (go_at_call 14; (with_reducible refine cc15.mono ?_); rintro e w15 ⟨⟨y15, rfl, hd15, ho15⟩, hb15⟩; have Z15 := hb15.size; have Vd := Vd.below hb15; have Vr := Vr.below hb15; have Vs := Vs.below hb15; have Vw := Vw.below hb15; have Vu := Vu.below hb15; have Ix := Ix.next hb15; have Ir3 := Ir3.next hb15; have Ir5 := Ir5.next hb15; have Ir13 := Ir13.next hb15; have B := bt B hb15))
      clear cc15
      have Vl := var_new (base := w.heap.size) ho15 (by omega) (by omega) 25
      have al15 := bl w15 (.cells #[.slice y15.CA y15.cs.length y15.cc, .slice y15.WA y15.ws.length y15.wc, .int .i64 y15.reqs, .int .i64 y15.left] 25)
      have Vd := Vd.below al15
      have Vr := Vr.below al15
      have Vs := Vs.below al15
      have Vw := Vw.below al15
      have Vu := Vu.below al15
      have Ix := Ix.next al15
      have Ir3 := Ir3.next al15
      have Ir5 := Ir5.next al15
      have Ir13 := Ir13.next al15
      have B := bt B al15
      have sz15 : w15.heap.size < (w15.alloc (.cells #[.slice y15.CA y15.cs.length y15.cc, .slice y15.WA y15.ws.length y15.wc, .int .i64 y15.reqs, .int .i64 y15.left] 25)).heap.size := by simp
      clear al15
      generalize w15.alloc (.cells #[.slice y15.CA y15.cs.length y15.cc, .slice y15.WA y15.ws.length y15.wc, .int .i64 y15.reqs, .int .i64 y15.left] 25) = W15 at *
      obtain ⟨l160, l161, l162, l163, -, -, -, -⟩ := id Vl.r
      clear p1
      have cc17 := read_p y15 A W15 _ _ _ _ Vl.o.in hd15 p2
      try dsimp only at cc17
      go_upto_region 13 with (first | (go_at_call 12; (with_reducible refine cc17.mono ?_); rintro e w17 ⟨⟨y17, ⟨ra17, rc17, rl17⟩, rfl, hd17, hr17, ho17, hi17⟩, hb17⟩; have Z17 := hb17.size; dsimp only at hr17; subst hr17; dsimp only; have Vd := Vd.below hb17; have Vr := Vr.below hb17; have Vs := Vs.below hb17; have Vw := Vw.below hb17; have Vu := Vu.below hb17; have Vl := Vl.below hb17; have Ix := Ix.next hb17; have Ir3 := Ir3.next hb17; have Ir5 := Ir5.next hb17; have Ir13 := Ir13.next hb17; have B := bt B hb17))
      clear cc17
      have Vv := var_new (base := w.heap.size) ho17 (by omega) (by omega) 25
      have al17 := bl w17 (.cells #[.slice y17.CA y17.cs.length y17.cc, .slice y17.WA y17.ws.length y17.wc, .int .i64 y17.reqs, .int .i64 y17.left] 25)
      have Vd := Vd.below al17
      have Vr := Vr.below al17
      have Vs := Vs.below al17
      have Vw := Vw.below al17
      have Vu := Vu.below al17
      have Vl := Vl.below al17
      have Ix := Ix.next al17
      have Ir3 := Ir3.next al17
      have Ir5 := Ir5.next al17
      have Ir13 := Ir13.next al17
      have B := bt B al17
      have Ir17 := hi17.next al17
      have sz17 : w17.heap.size < (w17.alloc (.cells #[.slice y17.CA y17.cs.length y17.cc, .slice y17.WA y17.ws.length y17.wc, .int .i64 y17.reqs, .int .i64 y17.left] 25)).heap.size := by simp
      clear al17
      generalize w17.alloc (.cells #[.slice y17.CA y17.cs.length y17.cc, .slice y17.WA y17.ws.length y17.wc, .int .i64 y17.reqs, .int .i64 y17.left] 25) = W17 at *
      clear p2
      obtain ⟨da, db, dc, de, -, -, -, -⟩ := id Vd.r
      obtain ⟨b0, f0, u0, e0, hb0, c0, -, -, -, -, -, z0, z1⟩ := cell_at Vd.in.hc Vd.in.ci hA
      rw [e0] at da
      have hV : C.2 = 0 → u0.st ≠ 2 → V = C := fun h h2 => Hp4.out h u0.d z1 h2
      have HVV := Lib.hid hV
      clear e0 z0 z1 hV hd3 hd11 hd15
      clear t0 t1 t2 t3 cl hAm hQm db dc de
      clear Vr
      clear Vs
      clear Vw
      clear Vu
      clear Vl
      clear Vv
      have gd : w.heap.size < W17.heap.size := Vd.hi
      by_cases hAQ : A = Q
      · have f1 : ((A : Int) != (Q : Int)) = false := by rw [hAQ]; exact bne_self_eq_false _
        have f2 : ((A : Int) == (Q : Int)) = true := by rw [hAQ]; exact beq_self_eq_true _
        rcases q4 with rfl | rfl
        · have eU := Hq6.out hAQ rfl
          have u1 : U.1 = xl := by rw [eU]
          have u2 : (U.2 != 0) = false := by rw [eU]; rfl
          have cU := keep_rin ⟨ra13, rc13, U.1⟩ ⟨xA, xc, xl⟩ W17 Ir13 Ix (Nat.le_trans q3 (by decide))
          rw [decide_eq_true u1] at cU
          try dsimp only at cU
          clear eU u1 hAQ
          go_upto_region 17 with (first | (go_at_call 23; (with_reducible refine cU.mono ?_); rintro e w7 ⟨rfl, hb7⟩; have B := bt B hb7; have Ix := Ix.next hb7; have Ir3 := Ir3.next hb7; have Ir5 := Ir5.next hb7; have Ir13 := Ir13.next hb7; have Ir17 := Ir17.next hb7; have Vd := Vd.below hb7; have c0 := kst hb7 hb0 c0; have da := kst hb7 gd da))
          by_cases he : C.2 = 0
          · have he1 : (C.2 == 0) = true := by rw [he]; rfl
            by_cases hs : u0.st = 2
            · have hs1 : (u0.st != 2) = false := by rw [hs]; rfl
              go_wp2_with (first | (go_at_call 20; (with_reducible refine (dwakes _).mono ?_); rintro e w9 ⟨rfl, hb9⟩; have B := bt B hb9))
              go_ret
              exact ⟨rfl, B⟩
            · have hs1 : (u0.st != 2) = true := bne_iff_ne.2 hs
              have eV := HVV.out he hs
              have ev1 : V.1 = C.1 := by rw [eV]
              have ev2 : (V.2 == 0) = true := by rw [eV, he]; rfl
              have cV := keep_rin ⟨ra17, rc17, V.1⟩ ⟨ra3, rc3, C.1⟩ w7 Ir17 Ir3 (Nat.le_trans p3 (by decide))
              rw [decide_eq_true ev1] at cV
              try dsimp only at cV
              clear eV ev1 hs he
              go_wp2_with (first | (go_at_call 23; (with_reducible refine cV.mono ?_); rintro e w8 ⟨rfl, hb8⟩; have B := bt B hb8) | (go_at_call 20; (with_reducible refine (dwakes _).mono ?_); rintro e w9 ⟨rfl, hb9⟩; have B := bt B hb9))
              go_ret
              exact ⟨rfl, B⟩
          · have he1 : (C.2 == 0) = false := beq_eq_false_iff_ne.2 he
            clear he
            go_wp2_with (first | (go_at_call 20; (with_reducible refine (dwakes _).mono ?_); rintro e w9 ⟨rfl, hb9⟩; have B := bt B hb9))
            go_ret
            exact ⟨rfl, B⟩
        · clear hAQ
          go_upto_region 17 with fail
          by_cases he : C.2 = 0
          · have he1 : (C.2 == 0) = true := by rw [he]; rfl
            by_cases hs : u0.st = 2
            · have hs1 : (u0.st != 2) = false := by rw [hs]; rfl
              go_wp2_with (first | (go_at_call 20; (with_reducible refine (dwakes _).mono ?_); rintro e w9 ⟨rfl, hb9⟩; have B := bt B hb9))
              go_ret
              exact ⟨rfl, B⟩
            · have hs1 : (u0.st != 2) = true := bne_iff_ne.2 hs
              have eV := HVV.out he hs
              have ev1 : V.1 = C.1 := by rw [eV]
              have ev2 : (V.2 == 0) = true := by rw [eV, he]; rfl
              have cV := keep_rin ⟨ra17, rc17, V.1⟩ ⟨ra3, rc3, C.1⟩ W17 Ir17 Ir3 (Nat.le_trans p3 (by decide))
              rw [decide_eq_true ev1] at cV
              try dsimp only at cV
              clear eV ev1 hs he
              go_wp2_with (first | (go_at_call 23; (with_reducible refine cV.mono ?_); rintro e w8 ⟨rfl, hb8⟩; have B := bt B hb8) | (go_at_call 20; (with_reducible refine (dwakes _).mono ?_); rintro e w9 ⟨rfl, hb9⟩; have B := bt B hb9))
              go_ret
              exact ⟨rfl, B⟩
          · have he1 : (C.2 == 0) = false := beq_eq_false_iff_ne.2 he
            clear he
            go_wp2_with (first | (go_at_call 20; (with_reducible refine (dwakes _).mono ?_); rintro e w9 ⟨rfl, hb9⟩; have B := bt B hb9))
            go_ret
            exact ⟨rfl, B⟩
      · have f1 : ((A : Int) != (Q : Int)) = true := bne_iff_ne.2 (by omega)
        have f2 : ((A : Int) == (Q : Int)) = false := beq_eq_false_iff_ne.2 (by omega)
        have eU := Hq5.out hAQ
        have u1 : U.1 = C.1 := by rw [eU]
        have u2 : (U.2 != C.2) = false := by rw [eU]; exact bne_self_eq_false _
        have cU := keep_rin ⟨ra13, rc13, U.1⟩ ⟨ra3, rc3, C.1⟩ W17 Ir13 Ir3 (Nat.le_trans q3 (by decide))
        rw [decide_eq_true u1] at cU
        try dsimp only at cU
        clear eU u1 hAQ
        rcases q4 with rfl | rfl
        · go_upto_region 17 with (first | (go_at_call 23; (with_reducible refine cU.mono ?_); rintro e w7 ⟨rfl, hb7⟩; have B := bt B hb7; have Ix := Ix.next hb7; have Ir3 := Ir3.next hb7; have Ir5 := Ir5.next hb7; have Ir13 := Ir13.next hb7; have Ir17 := Ir17.next hb7; have Vd := Vd.below hb7; have c0 := kst hb7 hb0 c0; have da := kst hb7 gd da))
          by_cases he : C.2 = 0
          · have he1 : (C.2 == 0) = true := by rw [he]; rfl
            by_cases hs : u0.st = 2
            · have hs1 : (u0.st != 2) = false := by rw [hs]; rfl
              go_wp2_with (first | (go_at_call 20; (with_reducible refine (dwakes _).mono ?_); rintro e w9 ⟨rfl, hb9⟩; have B := bt B hb9))
              go_ret
              exact ⟨rfl, B⟩
            · have hs1 : (u0.st != 2) = true := bne_iff_ne.2 hs
              have eV := HVV.out he hs
              have ev1 : V.1 = C.1 := by rw [eV]
              have ev2 : (V.2 == 0) = true := by rw [eV, he]; rfl
              have cV := keep_rin ⟨ra17, rc17, V.1⟩ ⟨ra3, rc3, C.1⟩ w7 Ir17 Ir3 (Nat.le_trans p3 (by decide))
              rw [decide_eq_true ev1] at cV
              try dsimp only at cV
              clear eV ev1 hs he
              go_wp2_with (first | (go_at_call 23; (with_reducible refine cV.mono ?_); rintro e w8 ⟨rfl, hb8⟩; have B := bt B hb8) | (go_at_call 20; (with_reducible refine (dwakes _).mono ?_); rintro e w9 ⟨rfl, hb9⟩; have B := bt B hb9))
              go_ret
              exact ⟨rfl, B⟩
          · have he1 : (C.2 == 0) = false := beq_eq_false_iff_ne.2 he
            clear he
            go_wp2_with (first | (go_at_call 20; (with_reducible refine (dwakes _).mono ?_); rintro e w9 ⟨rfl, hb9⟩; have B := bt B hb9))
            go_ret
            exact ⟨rfl, B⟩
        · go_upto_region 17 with (first | (go_at_call 23; (with_reducible refine cU.mono ?_); rintro e w7 ⟨rfl, hb7⟩; have B := bt B hb7; have Ix := Ix.next hb7; have Ir3 := Ir3.next hb7; have Ir5 := Ir5.next hb7; have Ir13 := Ir13.next hb7; have Ir17 := Ir17.next hb7; have Vd := Vd.below hb7; have c0 := kst hb7 hb0 c0; have da := kst hb7 gd da))
          by_cases he : C.2 = 0
          · have he1 : (C.2 == 0) = true := by rw [he]; rfl
            by_cases hs : u0.st = 2
            · have hs1 : (u0.st != 2) = false := by rw [hs]; rfl
              go_wp2_with (first | (go_at_call 20; (with_reducible refine (dwakes _).mono ?_); rintro e w9 ⟨rfl, hb9⟩; have B := bt B hb9))
              go_ret
              exact ⟨rfl, B⟩
            · have hs1 : (u0.st != 2) = true := bne_iff_ne.2 hs
              have eV := HVV.out he hs
              have ev1 : V.1 = C.1 := by rw [eV]
              have ev2 : (V.2 == 0) = true := by rw [eV, he]; rfl
              have cV := keep_rin ⟨ra17, rc17, V.1⟩ ⟨ra3, rc3, C.1⟩ w7 Ir17 Ir3 (Nat.le_trans p3 (by decide))
              rw [decide_eq_true ev1] at cV
              try dsimp only at cV
              clear eV ev1 hs he
              go_wp2_with (first | (go_at_call 23; (with_reducible refine cV.mono ?_); rintro e w8 ⟨rfl, hb8⟩; have B := bt B hb8) | (go_at_call 20; (with_reducible refine (dwakes _).mono ?_); rintro e w9 ⟨rfl, hb9⟩; have B := bt B hb9))
              go_ret
              exact ⟨rfl, B⟩
          · have he1 : (C.2 == 0) = false := beq_eq_false_iff_ne.2 he
            clear he
            go_wp2_with (first | (go_at_call 20; (with_reducible refine (dwakes _).mono ?_); rintro e w9 ⟨rfl, hb9⟩; have B := bt B hb9))
            go_ret
            exact ⟨rfl, B⟩
  · skip
    by_cases hw : 50 ≤ d.ws.length
    · have hwi : 50 ≤ (d.ws.length : Int) := by omega
      have cR := right_p d w1 Vd.in true (decide_eq_true hv)
      go_wp2_with (first | (go_at_call 18; (with_reducible refine cR.mono ?_); rintro e w2 ⟨rfl, hb2⟩; have Z2 := hb2.size; have Vd := Vd.below hb2; have Ix := Ix.next hb2; have B := bt B hb2; obtain ⟨t0, t1, t2, t3, -, -, -, -⟩ := id Vd.r))
      go_ret
      exact ⟨rfl, B⟩
    have hwi : ¬ (50 ≤ (d.ws.length : Int)) := by omega
    have cR := right_p d w1 Vd.in true (decide_eq_true hv)
    go_upto_region 3 with (first | (go_at_call 18; (with_reducible refine cR.mono ?_); rintro e w2 ⟨rfl, hb2⟩; have Z2 := hb2.size; have Vd := Vd.below hb2; have Ix := Ix.next hb2; have B := bt B hb2; obtain ⟨t0, t1, t2, t3, -, -, -, -⟩ := id Vd.r))
    have gz2 : w.heap.size < w2.heap.size := by omega
    have hf := hv.fit
    have cl : d.d.cells.length = d.cs.length := cds_length _
    have wl : d.d.cache.length = d.ws.length := wds_length _
    have cn : d.cs.length ≤ 300 := by have := hv.1.1.2.1; omega
    have cm : 0 < d.cs.length := by have := hv.1.1.1; omega
    obtain ⟨A, hA, hAm⟩ := wmod a d.cs.length cm
    obtain ⟨Q, hQ, hQm⟩ := wmod b d.cs.length cm
    obtain ⟨C, r1, r2, r3, ⟨Wd', g, U, q1, q2, q3, q4, q5, q6⟩, L, V, p1, p2, p3, p4⟩ := reads_of hv (show d.d.left < 0 ∨ 5 ≤ d.d.left from (by show d.left < 0 ∨ 5 ≤ d.left; omega)) (by omega) A Q (by omega) (by omega) xl (by omega)
    have i3 : ((d.cs.length : Int) == 0) = false := beq_eq_false_iff_ne.2 (by omega)
    have i4 : (d.cs.length == 0) = false := beq_eq_false_iff_ne.2 (by omega)
    have i5 : (0 : Int) < (d.cs.length : Int) := by omega
    have i6 : (A : Int) < (d.cs.length : Int) := by omega
    have i7 : (Q : Int) < (d.cs.length : Int) := by omega
    have HV := Lib.hid hv
    have Hq5 := Lib.hid q5
    have Hq6 := Lib.hid q6
    have Hp4 := Lib.hid p4
    clear Z2 gz cR hb2 hv q5 q6 p4 hl hxi hwi hxl hw wl
    try clear hl2
    go_wp2_with fail
    go_quiet (fail)
    have bq := below_dn (Below.refl w2.heap.size w2) nq
    have Vd := Vd.below bq
    have Ix := Ix.next bq
    have B := bt B bq
    have gz3 : w.heap.size < (w2.drewN nq).heap.size := Vd.hi
    obtain ⟨t0, t1, t2, t3, -, -, -, -⟩ := id Vd.r
    clear bq gz2
    generalize w2.drewN nq = wq2 at *
    go_upto_region 5 with fail
    have cc3 := read_p d A wq2 _ _ _ _ Vd.in rfl r1
    try dsimp only at cc3
    go_upto_region 6 with (first | (go_at_call 12; (with_reducible refine cc3.mono ?_); rintro e w3 ⟨⟨y3, ⟨ra3, rc3, rl3⟩, rfl, hd3, hr3, ho3, hi3⟩, hb3⟩; have Z3 := hb3.size; dsimp only at hr3; subst hr3; dsimp only; have Vd := Vd.below hb3; have Ix := Ix.next hb3; have B := bt B hb3))
    clear cc3
    have Vr := var_new (base := w.heap.size) ho3 (by omega) (by omega) 25
    have al3 := bl w3 (.cells #[.slice y3.CA y3.cs.length y3.cc, .slice y3.WA y3.ws.length y3.wc, .int .i64 y3.reqs, .int .i64 y3.left] 25)
    have Vd := Vd.below al3
    have Ix := Ix.next al3
    have B := bt B al3
    have Ir3 := hi3.next al3
    have sz3 : w3.heap.size < (w3.alloc (.cells #[.slice y3.CA y3.cs.length y3.cc, .slice y3.WA y3.ws.length y3.wc, .int .i64 y3.reqs, .int .i64 y3.left] 25)).heap.size := by simp
    clear al3
    generalize w3.alloc (.cells #[.slice y3.CA y3.cs.length y3.cc, .slice y3.WA y3.ws.length y3.wc, .int .i64 y3.reqs, .int .i64 y3.left] 25) = W3 at *
    obtain ⟨l40, l41, l42, l43, -, -, -, -⟩ := id Vr.r
    clear r1
    have cc5 := read_p y3 A W3 _ _ _ _ Vr.o.in hd3 r2
    try dsimp only at cc5
    go_upto_region 7 with (first | (go_at_call 12; (with_reducible refine cc5.mono ?_); rintro e w5 ⟨⟨y5, ⟨ra5, rc5, rl5⟩, rfl, hd5, hr5, ho5, hi5⟩, hb5⟩; have Z5 := hb5.size; dsimp only at hr5; subst hr5; dsimp only; have Vd := Vd.below hb5; have Vr := Vr.below hb5; have Ix := Ix.next hb5; have Ir3 := Ir3.next hb5; have B := bt B hb5))
    clear cc5
    have Vs := var_new (base := w.heap.size) ho5 (by omega) (by omega) 25
    have al5 := bl w5 (.cells #[.slice y5.CA y5.cs.length y5.cc, .slice y5.WA y5.ws.length y5.wc, .int .i64 y5.reqs, .int .i64 y5.left] 25)
    have Vd := Vd.below al5
    have Vr := Vr.below al5
    have Ix := Ix.next al5
    have Ir3 := Ir3.next al5
    have B := bt B al5
    have Ir5 := hi5.next al5
    have sz5 : w5.heap.size < (w5.alloc (.cells #[.slice y5.CA y5.cs.length y5.cc, .slice y5.WA y5.ws.length y5.wc, .int .i64 y5.reqs, .int .i64 y5.left] 25)).heap.size := by simp
    clear al5
    generalize w5.alloc (.cells #[.slice y5.CA y5.cs.length y5.cc, .slice y5.WA y5.ws.length y5.wc, .int .i64 y5.reqs, .int .i64 y5.left] 25) = W5 at *
    obtain ⟨l60, l61, l62, l63, -, -, -, -⟩ := id Vr.r
    obtain ⟨l70, l71, l72, l73, -, -, -, -⟩ := id Vd.r
    obtain ⟨l80, l81, l82, l83, -, -, -, -⟩ := id Vs.r
    clear r2
    have ne : (C.2 != C.2) = false := bne_self_eq_false _
    have er : cds y3.cs = cds d.cs := congrArg Dsk.cells hd3
    have es : wds y5.ws = wds d.ws := congrArg Dsk.cache hd5
    have lr : y3.cs.length = d.cs.length := by rw [← cds_length, er, cds_length]
    have lw : y5.ws.length = d.ws.length := by rw [← wds_length, es, wds_length]
    have nl : ((y3.cs.length : Int) != (d.cs.length : Int)) = false := by rw [lr]; exact bne_self_eq_false _
    have wsh : WShort 1048576 y5.ws := fun r hr => by obtain ⟨j, hj, e⟩ := List.mem_map.1 (show r.d ∈ wds d.ws by rw [← es]; exact List.mem_map.2 ⟨r, hr, rfl⟩); have := hf.t j hj; rw [show r.b.l = j.b.l from (congrArg Wri.bs e).symm]; exact this
    have cW : ∀ W, Below W5.heap.size W5 W → Calls Try.prog 31 #[.slice y5.WA y5.ws.length y5.wc, .slice d.WA d.ws.length d.wc] W fun e w' => e = .returned (.bool true) ∧ Below W.heap.size W w' := fun W hW => by
      have h := writes_any y5.WA d.WA y5.wc d.wc _ _ y5.ws d.ws W rfl rfl (Vs.o.in.next hW).hw (Vd.in.next hW).hw (Vs.o.in.next hW).wi (Vd.in.next hW).wi (by have := hf.n.2; omega) wsh
      rwa [decide_eq_true es] at h
    clear er es lr lw wsh hd5
    have cc9 := keep_rin ⟨ra3, rc3, C.1⟩ ⟨ra5, rc5, C.1⟩ W5 Ir3 Ir5 (Nat.le_trans r3 (by decide))
    rw [decide_eq_true rfl] at cc9
    try dsimp only at cc9
    go_upto_region 9 with (first | (go_at_call 23; (with_reducible refine cc9.mono ?_); rintro e w9 ⟨rfl, hb9⟩; have Z9 := hb9.size; have Vd := Vd.below hb9; have Vr := Vr.below hb9; have Vs := Vs.below hb9; have Ix := Ix.next hb9; have Ir3 := Ir3.next hb9; have Ir5 := Ir5.next hb9; have B := bt B hb9; obtain ⟨da, db, dc, de, -, -, -, -⟩ := id Vd.r; obtain ⟨ra, rb, rc, re, -, -, -, -⟩ := id Vr.r; obtain ⟨sa, sb, sc, se, -, -, -, -⟩ := id Vs.r) | (go_at_call 31; (with_reducible refine (cW _ hb9).mono ?_); rintro e w10 ⟨rfl, hb10⟩; have Z10 := hb10.size; have Vd := Vd.below hb10; have Vr := Vr.below hb10; have Vs := Vs.below hb10; have Ix := Ix.next hb10; have Ir3 := Ir3.next hb10; have Ir5 := Ir5.next hb10; have B := bt B hb10; obtain ⟨da, db, dc, de, -, -, -, -⟩ := id Vd.r))
    clear cc9 cW hb9 hb10
    have cP := write_p d Q ⟨xA, xc, xl⟩ w10 _ _ _ Vd.in Ix rfl q1
    have cc11 := cP
    try dsimp only at cc11
    go_upto_region 10 with (first | (go_at_call 13; (with_reducible refine cc11.mono ?_); rintro e w11 ⟨⟨y11, rfl, hd11, ho11⟩, hb11⟩; have Z11 := hb11.size; have Vd := Vd.below hb11; have Vr := Vr.below hb11; have Vs := Vs.below hb11; have Ix := Ix.next hb11; have Ir3 := Ir3.next hb11; have Ir5 := Ir5.next hb11; have B := bt B hb11))
    clear cc11
    have Vw := var_new (base := w.heap.size) ho11 (by omega) (by omega) 25
    have al11 := bl w11 (.cells #[.slice y11.CA y11.cs.length y11.cc, .slice y11.WA y11.ws.length y11.wc, .int .i64 y11.reqs, .int .i64 y11.left] 25)
    have Vd := Vd.below al11
    have Vr := Vr.below al11
    have Vs := Vs.below al11
    have Ix := Ix.next al11
    have Ir3 := Ir3.next al11
    have Ir5 := Ir5.next al11
    have B := bt B al11
    have sz11 : w11.heap.size < (w11.alloc (.cells #[.slice y11.CA y11.cs.length y11.cc, .slice y11.WA y11.ws.length y11.wc, .int .i64 y11.reqs, .int .i64 y11.left] 25)).heap.size := by simp
    clear al11
    generalize w11.alloc (.cells #[.slice y11.CA y11.cs.length y11.cc, .slice y11.WA y11.ws.length y11.wc, .int .i64 y11.reqs, .int .i64 y11.left] 25) = W11 at *
    obtain ⟨l120, l121, l122, l123, -, -, -, -⟩ := id Vw.r
    clear cP q1
    have cc13 := read_p y11 A W11 _ _ _ _ Vw.o.in hd11 q2
    try dsimp only at cc13
    go_upto_region 11 with (first | (go_at_call 12; (with_reducible refine cc13.mono ?_); rintro e w13 ⟨⟨y13, ⟨ra13, rc13, rl13⟩, rfl, hd13, hr13, ho13, hi13⟩, hb13⟩; have Z13 := hb13.size; dsimp only at hr13; subst hr13; dsimp only; have Vd := Vd.below hb13; have Vr := Vr.below hb13; have Vs := Vs.below hb13; have Vw := Vw.below hb13; have Ix := Ix.next hb13; have Ir3 := Ir3.next hb13; have Ir5 := Ir5.next hb13; have B := bt B hb13))
    clear cc13
    have Vu := var_new (base := w.heap.size) ho13 (by omega) (by omega) 25
    have al13 := bl w13 (.cells #[.slice y13.CA y13.cs.length y13.cc, .slice y13.WA y13.ws.length y13.wc, .int .i64 y13.reqs, .int .i64 y13.left] 25)
    have Vd := Vd.below al13
    have Vr := Vr.below al13
    have Vs := Vs.below al13
    have Vw := Vw.below al13
    have Ix := Ix.next al13
    have Ir3 := Ir3.next al13
    have Ir5 := Ir5.next al13
    have B := bt B al13
    have Ir13 := hi13.next al13
    have sz13 : w13.heap.size < (w13.alloc (.cells #[.slice y13.CA y13.cs.length y13.cc, .slice y13.WA y13.ws.length y13.wc, .int .i64 y13.reqs, .int .i64 y13.left] 25)).heap.size := by simp
    clear al13
    generalize w13.alloc (.cells #[.slice y13.CA y13.cs.length y13.cc, .slice y13.WA y13.ws.length y13.wc, .int .i64 y13.reqs, .int .i64 y13.left] 25) = W13 at *
    obtain ⟨l140, l141, l142, l143, -, -, -, -⟩ := id Vd.r
    clear q2
    have cc15 := flush_p d W13 _ _ _ Vd.in rfl p1
    try dsimp only at cc15
    go_upto_region 12 with (first | (go_at_call 14; (with_reducible refine cc15.mono ?_); rintro e w15 ⟨⟨y15, rfl, hd15, ho15⟩, hb15⟩; have Z15 := hb15.size; have Vd := Vd.below hb15; have Vr := Vr.below hb15; have Vs := Vs.below hb15; have Vw := Vw.below hb15; have Vu := Vu.below hb15; have Ix := Ix.next hb15; have Ir3 := Ir3.next hb15; have Ir5 := Ir5.next hb15; have Ir13 := Ir13.next hb15; have B := bt B hb15))
    clear cc15
    have Vl := var_new (base := w.heap.size) ho15 (by omega) (by omega) 25
    have al15 := bl w15 (.cells #[.slice y15.CA y15.cs.length y15.cc, .slice y15.WA y15.ws.length y15.wc, .int .i64 y15.reqs, .int .i64 y15.left] 25)
    have Vd := Vd.below al15
    have Vr := Vr.below al15
    have Vs := Vs.below al15
    have Vw := Vw.below al15
    have Vu := Vu.below al15
    have Ix := Ix.next al15
    have Ir3 := Ir3.next al15
    have Ir5 := Ir5.next al15
    have Ir13 := Ir13.next al15
    have B := bt B al15
    have sz15 : w15.heap.size < (w15.alloc (.cells #[.slice y15.CA y15.cs.length y15.cc, .slice y15.WA y15.ws.length y15.wc, .int .i64 y15.reqs, .int .i64 y15.left] 25)).heap.size := by simp
    clear al15
    generalize w15.alloc (.cells #[.slice y15.CA y15.cs.length y15.cc, .slice y15.WA y15.ws.length y15.wc, .int .i64 y15.reqs, .int .i64 y15.left] 25) = W15 at *
    obtain ⟨l160, l161, l162, l163, -, -, -, -⟩ := id Vl.r
    clear p1
    have cc17 := read_p y15 A W15 _ _ _ _ Vl.o.in hd15 p2
    try dsimp only at cc17
    go_upto_region 13 with (first | (go_at_call 12; (with_reducible refine cc17.mono ?_); rintro e w17 ⟨⟨y17, ⟨ra17, rc17, rl17⟩, rfl, hd17, hr17, ho17, hi17⟩, hb17⟩; have Z17 := hb17.size; dsimp only at hr17; subst hr17; dsimp only; have Vd := Vd.below hb17; have Vr := Vr.below hb17; have Vs := Vs.below hb17; have Vw := Vw.below hb17; have Vu := Vu.below hb17; have Vl := Vl.below hb17; have Ix := Ix.next hb17; have Ir3 := Ir3.next hb17; have Ir5 := Ir5.next hb17; have Ir13 := Ir13.next hb17; have B := bt B hb17))
    clear cc17
    have Vv := var_new (base := w.heap.size) ho17 (by omega) (by omega) 25
    have al17 := bl w17 (.cells #[.slice y17.CA y17.cs.length y17.cc, .slice y17.WA y17.ws.length y17.wc, .int .i64 y17.reqs, .int .i64 y17.left] 25)
    have Vd := Vd.below al17
    have Vr := Vr.below al17
    have Vs := Vs.below al17
    have Vw := Vw.below al17
    have Vu := Vu.below al17
    have Vl := Vl.below al17
    have Ix := Ix.next al17
    have Ir3 := Ir3.next al17
    have Ir5 := Ir5.next al17
    have Ir13 := Ir13.next al17
    have B := bt B al17
    have Ir17 := hi17.next al17
    have sz17 : w17.heap.size < (w17.alloc (.cells #[.slice y17.CA y17.cs.length y17.cc, .slice y17.WA y17.ws.length y17.wc, .int .i64 y17.reqs, .int .i64 y17.left] 25)).heap.size := by simp
    clear al17
    generalize w17.alloc (.cells #[.slice y17.CA y17.cs.length y17.cc, .slice y17.WA y17.ws.length y17.wc, .int .i64 y17.reqs, .int .i64 y17.left] 25) = W17 at *
    clear p2
    obtain ⟨da, db, dc, de, -, -, -, -⟩ := id Vd.r
    obtain ⟨b0, f0, u0, e0, hb0, c0, -, -, -, -, -, z0, z1⟩ := cell_at Vd.in.hc Vd.in.ci hA
    rw [e0] at da
    have hV : C.2 = 0 → u0.st ≠ 2 → V = C := fun h h2 => Hp4.out h u0.d z1 h2
    have HVV := Lib.hid hV
    clear e0 z0 z1 hV hd3 hd11 hd15
    clear t0 t1 t2 t3 cl hAm hQm db dc de
    clear Vr
    clear Vs
    clear Vw
    clear Vu
    clear Vl
    clear Vv
    have gd : w.heap.size < W17.heap.size := Vd.hi
    by_cases hAQ : A = Q
    · have f1 : ((A : Int) != (Q : Int)) = false := by rw [hAQ]; exact bne_self_eq_false _
      have f2 : ((A : Int) == (Q : Int)) = true := by rw [hAQ]; exact beq_self_eq_true _
      rcases q4 with rfl | rfl
      · have eU := Hq6.out hAQ rfl
        have u1 : U.1 = xl := by rw [eU]
        have u2 : (U.2 != 0) = false := by rw [eU]; rfl
        have cU := keep_rin ⟨ra13, rc13, U.1⟩ ⟨xA, xc, xl⟩ W17 Ir13 Ix (Nat.le_trans q3 (by decide))
        rw [decide_eq_true u1] at cU
        try dsimp only at cU
        clear eU u1 hAQ
        go_upto_region 17 with (first | (go_at_call 23; (with_reducible refine cU.mono ?_); rintro e w7 ⟨rfl, hb7⟩; have B := bt B hb7; have Ix := Ix.next hb7; have Ir3 := Ir3.next hb7; have Ir5 := Ir5.next hb7; have Ir13 := Ir13.next hb7; have Ir17 := Ir17.next hb7; have Vd := Vd.below hb7; have c0 := kst hb7 hb0 c0; have da := kst hb7 gd da))
        by_cases he : C.2 = 0
        · have he1 : (C.2 == 0) = true := by rw [he]; rfl
          by_cases hs : u0.st = 2
          · have hs1 : (u0.st != 2) = false := by rw [hs]; rfl
            go_wp2_with (first | (go_at_call 20; (with_reducible refine (dwakes _).mono ?_); rintro e w9 ⟨rfl, hb9⟩; have B := bt B hb9))
            go_ret
            exact ⟨rfl, B⟩
          · have hs1 : (u0.st != 2) = true := bne_iff_ne.2 hs
            have eV := HVV.out he hs
            have ev1 : V.1 = C.1 := by rw [eV]
            have ev2 : (V.2 == 0) = true := by rw [eV, he]; rfl
            have cV := keep_rin ⟨ra17, rc17, V.1⟩ ⟨ra3, rc3, C.1⟩ w7 Ir17 Ir3 (Nat.le_trans p3 (by decide))
            rw [decide_eq_true ev1] at cV
            try dsimp only at cV
            clear eV ev1 hs he
            go_wp2_with (first | (go_at_call 23; (with_reducible refine cV.mono ?_); rintro e w8 ⟨rfl, hb8⟩; have B := bt B hb8) | (go_at_call 20; (with_reducible refine (dwakes _).mono ?_); rintro e w9 ⟨rfl, hb9⟩; have B := bt B hb9))
            go_ret
            exact ⟨rfl, B⟩
        · have he1 : (C.2 == 0) = false := beq_eq_false_iff_ne.2 he
          clear he
          go_wp2_with (first | (go_at_call 20; (with_reducible refine (dwakes _).mono ?_); rintro e w9 ⟨rfl, hb9⟩; have B := bt B hb9))
          go_ret
          exact ⟨rfl, B⟩
      · clear hAQ
        go_upto_region 17 with fail
        by_cases he : C.2 = 0
        · have he1 : (C.2 == 0) = true := by rw [he]; rfl
          by_cases hs : u0.st = 2
          · have hs1 : (u0.st != 2) = false := by rw [hs]; rfl
            go_wp2_with (first | (go_at_call 20; (with_reducible refine (dwakes _).mono ?_); rintro e w9 ⟨rfl, hb9⟩; have B := bt B hb9))
            go_ret
            exact ⟨rfl, B⟩
          · have hs1 : (u0.st != 2) = true := bne_iff_ne.2 hs
            have eV := HVV.out he hs
            have ev1 : V.1 = C.1 := by rw [eV]
            have ev2 : (V.2 == 0) = true := by rw [eV, he]; rfl
            have cV := keep_rin ⟨ra17, rc17, V.1⟩ ⟨ra3, rc3, C.1⟩ W17 Ir17 Ir3 (Nat.le_trans p3 (by decide))
            rw [decide_eq_true ev1] at cV
            try dsimp only at cV
            clear eV ev1 hs he
            go_wp2_with (first | (go_at_call 23; (with_reducible refine cV.mono ?_); rintro e w8 ⟨rfl, hb8⟩; have B := bt B hb8) | (go_at_call 20; (with_reducible refine (dwakes _).mono ?_); rintro e w9 ⟨rfl, hb9⟩; have B := bt B hb9))
            go_ret
            exact ⟨rfl, B⟩
        · have he1 : (C.2 == 0) = false := beq_eq_false_iff_ne.2 he
          clear he
          go_wp2_with (first | (go_at_call 20; (with_reducible refine (dwakes _).mono ?_); rintro e w9 ⟨rfl, hb9⟩; have B := bt B hb9))
          go_ret
          exact ⟨rfl, B⟩
    · have f1 : ((A : Int) != (Q : Int)) = true := bne_iff_ne.2 (by omega)
      have f2 : ((A : Int) == (Q : Int)) = false := beq_eq_false_iff_ne.2 (by omega)
      have eU := Hq5.out hAQ
      have u1 : U.1 = C.1 := by rw [eU]
      have u2 : (U.2 != C.2) = false := by rw [eU]; exact bne_self_eq_false _
      have cU := keep_rin ⟨ra13, rc13, U.1⟩ ⟨ra3, rc3, C.1⟩ W17 Ir13 Ir3 (Nat.le_trans q3 (by decide))
      rw [decide_eq_true u1] at cU
      try dsimp only at cU
      clear eU u1 hAQ
      rcases q4 with rfl | rfl
      · go_upto_region 17 with (first | (go_at_call 23; (with_reducible refine cU.mono ?_); rintro e w7 ⟨rfl, hb7⟩; have B := bt B hb7; have Ix := Ix.next hb7; have Ir3 := Ir3.next hb7; have Ir5 := Ir5.next hb7; have Ir13 := Ir13.next hb7; have Ir17 := Ir17.next hb7; have Vd := Vd.below hb7; have c0 := kst hb7 hb0 c0; have da := kst hb7 gd da))
        by_cases he : C.2 = 0
        · have he1 : (C.2 == 0) = true := by rw [he]; rfl
          by_cases hs : u0.st = 2
          · have hs1 : (u0.st != 2) = false := by rw [hs]; rfl
            go_wp2_with (first | (go_at_call 20; (with_reducible refine (dwakes _).mono ?_); rintro e w9 ⟨rfl, hb9⟩; have B := bt B hb9))
            go_ret
            exact ⟨rfl, B⟩
          · have hs1 : (u0.st != 2) = true := bne_iff_ne.2 hs
            have eV := HVV.out he hs
            have ev1 : V.1 = C.1 := by rw [eV]
            have ev2 : (V.2 == 0) = true := by rw [eV, he]; rfl
            have cV := keep_rin ⟨ra17, rc17, V.1⟩ ⟨ra3, rc3, C.1⟩ w7 Ir17 Ir3 (Nat.le_trans p3 (by decide))
            rw [decide_eq_true ev1] at cV
            try dsimp only at cV
            clear eV ev1 hs he
            go_wp2_with (first | (go_at_call 23; (with_reducible refine cV.mono ?_); rintro e w8 ⟨rfl, hb8⟩; have B := bt B hb8) | (go_at_call 20; (with_reducible refine (dwakes _).mono ?_); rintro e w9 ⟨rfl, hb9⟩; have B := bt B hb9))
            go_ret
            exact ⟨rfl, B⟩
        · have he1 : (C.2 == 0) = false := beq_eq_false_iff_ne.2 he
          clear he
          go_wp2_with (first | (go_at_call 20; (with_reducible refine (dwakes _).mono ?_); rintro e w9 ⟨rfl, hb9⟩; have B := bt B hb9))
          go_ret
          exact ⟨rfl, B⟩
      · go_upto_region 17 with (first | (go_at_call 23; (with_reducible refine cU.mono ?_); rintro e w7 ⟨rfl, hb7⟩; have B := bt B hb7; have Ix := Ix.next hb7; have Ir3 := Ir3.next hb7; have Ir5 := Ir5.next hb7; have Ir13 := Ir13.next hb7; have Ir17 := Ir17.next hb7; have Vd := Vd.below hb7; have c0 := kst hb7 hb0 c0; have da := kst hb7 gd da))
        by_cases he : C.2 = 0
        · have he1 : (C.2 == 0) = true := by rw [he]; rfl
          by_cases hs : u0.st = 2
          · have hs1 : (u0.st != 2) = false := by rw [hs]; rfl
            go_wp2_with (first | (go_at_call 20; (with_reducible refine (dwakes _).mono ?_); rintro e w9 ⟨rfl, hb9⟩; have B := bt B hb9))
            go_ret
            exact ⟨rfl, B⟩
          · have hs1 : (u0.st != 2) = true := bne_iff_ne.2 hs
            have eV := HVV.out he hs
            have ev1 : V.1 = C.1 := by rw [eV]
            have ev2 : (V.2 == 0) = true := by rw [eV, he]; rfl
            have cV := keep_rin ⟨ra17, rc17, V.1⟩ ⟨ra3, rc3, C.1⟩ w7 Ir17 Ir3 (Nat.le_trans p3 (by decide))
            rw [decide_eq_true ev1] at cV
            try dsimp only at cV
            clear eV ev1 hs he
            go_wp2_with (first | (go_at_call 23; (with_reducible refine cV.mono ?_); rintro e w8 ⟨rfl, hb8⟩; have B := bt B hb8) | (go_at_call 20; (with_reducible refine (dwakes _).mono ?_); rintro e w9 ⟨rfl, hb9⟩; have B := bt B hb9))
            go_ret
            exact ⟨rfl, B⟩
        · have he1 : (C.2 == 0) = false := beq_eq_false_iff_ne.2 he
          clear he
          go_wp2_with (first | (go_at_call 20; (with_reducible refine (dwakes _).mono ?_); rintro e w9 ⟨rfl, hb9⟩; have B := bt B hb9))
          go_ret
          exact ⟨rfl, B⟩
end Go.Proofs.Ytegcbmimndmfkaa.dsk
