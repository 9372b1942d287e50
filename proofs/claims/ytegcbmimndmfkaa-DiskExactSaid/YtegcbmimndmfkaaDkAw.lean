/-
  The law's wakes: written, flushed, read. No condition.
-/
import Derived.Test.YtegcbmimndmfkaaDkY
namespace Go.Proofs.Ytegcbmimndmfkaa.dsk
open Go.RowKit Go.Lib

set_option maxHeartbeats 4000000 in
theorem dwakes (w : World) : Calls Try.prog 20 #[] w fun e w' => e = .returned (.bool true) ∧ Below w.heap.size w w' := by
  have B := Below.refl w.heap.size w
  go_enter Try.func20, Try.ntmps20
  go_upto_region 2 with (first | (go_at_call 28; (with_reducible refine (new_p 2 _ _ _ wk_new).mono ?_); rintro e w1 ⟨⟨y1, rfl, hd1, ho1⟩, hb1⟩; have Z1 := hb1.size; have B := bt B hb1))
  have Vd := var_new (base := w.heap.size) ho1 (by omega) (by omega) 25
  have al1 := bl w1 (.cells #[.slice y1.CA y1.cs.length y1.cc, .slice y1.WA y1.ws.length y1.wc, .int .i64 y1.reqs, .int .i64 y1.left] 25)
  have B := bt B al1
  have sz1 : w1.heap.size < (w1.alloc (.cells #[.slice y1.CA y1.cs.length y1.cc, .slice y1.WA y1.ws.length y1.wc, .int .i64 y1.reqs, .int .i64 y1.left] 25)).heap.size := by simp
  clear al1
  generalize w1.alloc (.cells #[.slice y1.CA y1.cs.length y1.cc, .slice y1.WA y1.ws.length y1.wc, .int .i64 y1.reqs, .int .i64 y1.left] 25) = W1 at *
  obtain ⟨l20, l21, l22, l23, -, -, -, -⟩ := id Vd.r
  have hb7 := bl W1 (.cells #[.int .u8 7] 5)
  have I7 : RIn (W1.alloc (.cells #[.int .u8 7] 5)) (W1.alloc (.cells #[.int .u8 7] 5)).heap.size ⟨some ⟨W1.heap.size, 0, none⟩, 1, [7]⟩ := ⟨Sl.of_block (heap_alloc_new _ _) rfl (by simp), Nat.le_refl 1, by show 1 ≤ maxLen; decide⟩
  have s7 : W1.heap.size < (W1.alloc (.cells #[.int .u8 7] 5)).heap.size := by simp
  have V8 := Vd.below hb7
  have cW := write_p y1 1 ⟨some ⟨W1.heap.size, 0, none⟩, 1, [7]⟩ _ _ _ _ V8.o.in I7 hd1 wk_write
  simp only [List.length_cons, List.length_nil, Nat.zero_add] at cW
  go_upto_region 3 with (first | (go_at_call 13; (with_reducible refine (cW).mono ?_); rintro e w3 ⟨⟨y3, rfl, hd3, ho3⟩, hb3⟩; have Z3 := hb3.size; have hb3 := bt hb7 hb3; have Z3 := hb3.size; have Vd := Vd.below hb3; obtain ⟨a30, a31, a32, a33, b30, b31, b32, b33⟩ := id Vd.r; have B := bt B hb3))
  obtain ⟨VV, b', s', i', o'⟩ := var_set Vd ho3 (by omega) (by have := Vd.hi; omega)
  have Vd := VV
  have B := B.trans b'
  have sz3 := Nat.le_of_eq s'.symm
  clear VV b' o' i' s' a30 a31 a32 a33 b30 b31 b32 b33
  generalize (((w3.setCell ⟨w1.heap.size, 0, none⟩ (.slice y3.CA y3.cs.length y3.cc)).setCell ⟨w1.heap.size, 1, none⟩ (.slice y3.WA y3.ws.length y3.wc)).setCell ⟨w1.heap.size, 2, none⟩ (.int .i64 y3.reqs)).setCell ⟨w1.heap.size, 3, none⟩ (.int .i64 y3.left) = W3 at *
  obtain ⟨l40, l41, l42, l43, -, -, -, -⟩ := id Vd.r
  go_upto_region 4 with (first | (go_at_call 12; (with_reducible refine (read_p y3 1 _ _ _ _ _ Vd.o.in hd3 wk_read).mono ?_); rintro e w5 ⟨⟨y5, ⟨ra5, rc5, rl5⟩, rfl, hd5, hr5, ho5, hi5⟩, hb5⟩; have Z5 := hb5.size; dsimp only at hr5; subst hr5; dsimp only; have Vd := Vd.below hb5; obtain ⟨a50, a51, a52, a53, b50, b51, b52, b53⟩ := id Vd.r; have B := bt B hb5))
  obtain ⟨VV, b', s', i', o'⟩ := var_set Vd ho5 (by omega) (by have := Vd.hi; omega)
  have Ir5 := i' _ hi5; rw [← s'] at Ir5
  have Vd := VV
  have B := B.trans b'
  have sz5 := Nat.le_of_eq s'.symm
  clear VV b' o' i' s' a50 a51 a52 a53 b50 b51 b52 b53
  generalize (((w5.setCell ⟨w1.heap.size, 0, none⟩ (.slice y5.CA y5.cs.length y5.cc)).setCell ⟨w1.heap.size, 1, none⟩ (.slice y5.WA y5.ws.length y5.wc)).setCell ⟨w1.heap.size, 2, none⟩ (.int .i64 y5.reqs)).setCell ⟨w1.heap.size, 3, none⟩ (.int .i64 y5.left) = W5 at *
  obtain ⟨l60, l61, l62, l63, -, -, -, -⟩ := id Vd.r
  go_upto_region 5 with (first | (go_at_call 15; (with_reducible refine (crash_p y5 0 _ _ _ _ Vd.o.in (by decide) hd5 wk_crash).mono ?_); rintro e w7 ⟨⟨y7, rfl, hd7, ho7⟩, hb7⟩; have Z7 := hb7.size; have Vd := Vd.below hb7; have Ir5 := Ir5.next hb7; have B := bt B hb7))
  have Vx := var_new (base := w.heap.size) ho7 (by omega) (by omega) 25
  have al7 := bl w7 (.cells #[.slice y7.CA y7.cs.length y7.cc, .slice y7.WA y7.ws.length y7.wc, .int .i64 y7.reqs, .int .i64 y7.left] 25)
  have Vd := Vd.below al7
  have Ir5 := Ir5.next al7
  have B := bt B al7
  have sz7 : w7.heap.size < (w7.alloc (.cells #[.slice y7.CA y7.cs.length y7.cc, .slice y7.WA y7.ws.length y7.wc, .int .i64 y7.reqs, .int .i64 y7.left] 25)).heap.size := by simp
  clear al7
  generalize w7.alloc (.cells #[.slice y7.CA y7.cs.length y7.cc, .slice y7.WA y7.ws.length y7.wc, .int .i64 y7.reqs, .int .i64 y7.left] 25) = W7 at *
  obtain ⟨l80, l81, l82, l83, -, -, -, -⟩ := id Vd.r
  go_upto_region 6 with (first | (go_at_call 14; (with_reducible refine (flush_p y5 _ _ _ _ Vd.o.in hd5 wk_flush).mono ?_); rintro e w9 ⟨⟨y9, rfl, hd9, ho9⟩, hb9⟩; have Z9 := hb9.size; have Vd := Vd.below hb9; have Vx := Vx.below hb9; have Ir5 := Ir5.next hb9; have B := bt B hb9))
  have Vy := var_new (base := w.heap.size) ho9 (by omega) (by omega) 25
  have al9 := bl w9 (.cells #[.slice y9.CA y9.cs.length y9.cc, .slice y9.WA y9.ws.length y9.wc, .int .i64 y9.reqs, .int .i64 y9.left] 25)
  have Vd := Vd.below al9
  have Vx := Vx.below al9
  have Ir5 := Ir5.next al9
  have B := bt B al9
  have sz9 : w9.heap.size < (w9.alloc (.cells #[.slice y9.CA y9.cs.length y9.cc, .slice y9.WA y9.ws.length y9.wc, .int .i64 y9.reqs, .int .i64 y9.left] 25)).heap.size := by simp
  clear al9
  generalize w9.alloc (.cells #[.slice y9.CA y9.cs.length y9.cc, .slice y9.WA y9.ws.length y9.wc, .int .i64 y9.reqs, .int .i64 y9.left] 25) = W9 at *
  obtain ⟨l100, l101, l102, l103, -, -, -, -⟩ := id Vx.r
  go_upto_region 7 with (first | (go_at_call 12; (with_reducible refine (read_p y7 1 _ _ _ _ _ Vx.o.in hd7 wk_read2).mono ?_); rintro e w11 ⟨⟨y11, ⟨ra11, rc11, rl11⟩, rfl, hd11, hr11, ho11, hi11⟩, hb11⟩; have Z11 := hb11.size; dsimp only at hr11; subst hr11; dsimp only; have Vd := Vd.below hb11; have Vx := Vx.below hb11; have Vy := Vy.below hb11; have Ir5 := Ir5.next hb11; have B := bt B hb11))
  have Vz := var_new (base := w.heap.size) ho11 (by omega) (by omega) 25
  have al11 := bl w11 (.cells #[.slice y11.CA y11.cs.length y11.cc, .slice y11.WA y11.ws.length y11.wc, .int .i64 y11.reqs, .int .i64 y11.left] 25)
  have Vd := Vd.below al11
  have Vx := Vx.below al11
  have Vy := Vy.below al11
  have Ir5 := Ir5.next al11
  have B := bt B al11
  have Ir11 := hi11.next al11
  have sz11 : w11.heap.size < (w11.alloc (.cells #[.slice y11.CA y11.cs.length y11.cc, .slice y11.WA y11.ws.length y11.wc, .int .i64 y11.reqs, .int .i64 y11.left] 25)).heap.size := by simp
  clear al11
  generalize w11.alloc (.cells #[.slice y11.CA y11.cs.length y11.cc, .slice y11.WA y11.ws.length y11.wc, .int .i64 y11.reqs, .int .i64 y11.left] 25) = W11 at *
  obtain ⟨b7, o7, e7, -, c7⟩ := Ir5.1 Nat.zero_lt_one
  dsimp only at e7
  subst e7
  have d7 : W11.cell? ⟨b7, o7, none⟩ = some (.int .u8 7) := c7 0 Nat.zero_lt_one
  have f1 : y9.cs.length = 2 := by have := congrArg (fun x => x.cells.length) hd9; simpa [DV.d, cds, wk4] using this
  have f2 : y9.ws.length = 0 := by have := congrArg (fun x => x.cache.length) hd9; simpa [DV.d, wds, wk4] using this
  obtain ⟨b8, o8, u8, e8, -, -, m8, -, -, -, -, -, eu8⟩ := cell_at Vy.o.in.hc Vy.o.in.ci (show 1 < y9.cs.length by omega)
  have l8 : u8.b.l.length = 1 := by rw [show cds y9.cs = wk4.cells from congrArg Dsk.cells hd9] at eu8; have h := Option.some.inj eu8; have h2 := congrArg (fun x => x.bs.length) h; exact h2.symm
  obtain ⟨l0, l1, l2, l3, -, -, -, -⟩ := id Vy.r
  rw [e8] at l0
  clear eu8 c7
  have m9 : W11.cell? ⟨b8, o8 + 3 + 1, none⟩ = some (.slice u8.b.A u8.b.l.length u8.b.c) := m8
  go_wp2_with fail
  go_ret
  exact ⟨rfl, B⟩
end Go.Proofs.Ytegcbmimndmfkaa.dsk
