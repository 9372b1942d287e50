/-
  The law DiskFaults, walked. No condition.
-/
import Derived.Test.YtegcbmimndmfkaaDkAw
namespace Go.Proofs.Ytegcbmimndmfkaa.dsk
open Go.RowKit Go.Lib
open Go.Proofs.Ytegcbmimndmfkaa.crc (TurnedAll)
open Go.Proofs.Ytegcbmimndmfkaa.sel (place maskOf turned_twice)

/-- What is turned twice is as it was. -/
theorem flipd_turned (w : World) (l : List UInt8) (bit bits : Int) (hl : l.length ≤ 1048576) : TurnedAll l (flipd l bit bits) (place bit l.length) (maskOf bits) ∧ (flipd l bit bits).length = l.length := by
  have hI : RIn (w.alloc (.cells (cells8 l).toArray 5)) (w.alloc (.cells (cells8 l).toArray 5)).heap.size ⟨some ⟨w.heap.size, 0, none⟩, l.length, l⟩ := ⟨Sl.of_block (heap_alloc_new _ _) (by simp) (by simp), Nat.le_refl _, by unfold maxLen; show l.length ≤ _; omega⟩
  obtain ⟨e, w', fr, ⟨⟨r, -, h1, h2, -, h3⟩, -⟩, -⟩ := flip_c ⟨some ⟨w.heap.size, 0, none⟩, l.length, l⟩ bit bits _ hI hl []
  dsimp only at h1 h2 h3
  rw [h1] at h2 h3
  exact ⟨h3, h2⟩
theorem flipd_twice (w : World) (l : List UInt8) (bit bits : Int) (hl : l.length ≤ 1048576) : flipd (flipd l bit bits) bit bits = l := by
  obtain ⟨h1, h2⟩ := flipd_turned w l bit bits hl
  obtain ⟨h3, h4⟩ := flipd_turned w (flipd l bit bits) bit bits (by omega)
  rw [h2] at h3
  exact turned_twice h1 h3
theorem two_valid (c0 c1 : Cel) (ws : List Wri) (q : Int) (h0 : OkCel c0) (h1 : OkCel c1) (hw : ∀ x ∈ ws, OkWri 2 x) (hl : ws.length ≤ 2000) (q0 : 0 ≤ q) (q1 : q ≤ 1048576) : Valid ⟨[c0, c1], ws, q, -1⟩ := by
  refine ⟨⟨⟨by show 1 ≤ 2; decide, by show 2 ≤ 300; decide, hl⟩, q0, q1, by show (-1 : Int) ≤ -1; decide, by show (-1 : Int) ≤ 1048576; decide⟩, fun c hc => ?_, hw⟩
  simp only [List.mem_cons, List.not_mem_nil, or_false] at hc
  rcases hc with rfl | rfl
  · exact h0
  · exact h1
theorem has0 (c0 c1 : Cel) (ws : List Wri) (q : Int) : HasC ⟨[c0, c1], ws, q, -1⟩ 0 := ⟨by decide, by show (0 : Int) < 2; decide⟩
theorem has1 (c0 c1 : Cel) (ws : List Wri) (q : Int) : HasC ⟨[c0, c1], ws, q, -1⟩ 1 := ⟨by decide, by show (1 : Int) < 2; decide⟩
section
variable (a b : List UInt8) (ha : a.length ≤ 100) (hb : b.length ≤ 100)
theorem okc (st : Int) (x y : List UInt8) (h0 : 0 ≤ st) (h1 : st ≤ 2) (hx : x.length ≤ 100) (hy : y.length ≤ 100) : OkCel ⟨st, x, y⟩ := ⟨h0, h1, by show x.length ≤ 200; omega, by show y.length ≤ 200; omega⟩
theorem okw (x : List UInt8) (hx : x.length ≤ 100) : ∀ z ∈ [(⟨0, x⟩ : Wri)], OkWri 2 z := fun z hz => by
  obtain rfl := List.mem_singleton.1 hz
  exact ⟨by show (0 : Int) ≤ 0; decide, by show (0 : Int) < 2; decide, by show x.length ≤ 200; omega⟩
theorem okn : ∀ z ∈ ([] : List Wri), OkWri 2 z := fun z hz => by cases hz
/-- A write at 0, a flush of one, a read, of two cells. -/
theorem p_write (c0 c1 : Cel) (q : Int) (x : List UInt8) (h0 : OkCel c0) (h1 : OkCel c1) (q0 : 0 ≤ q) (q1 : q < 1048576) (hx : x.length ≤ 100) (hs : c0.st ≠ 2) : writeA ⟨[c0, c1], [], q, -1⟩ 0 x = (⟨[c0, c1], [⟨0, x⟩], q + 1, -1⟩, 0) := by
  unfold writeA
  rw [if_neg (not_not_intro ⟨two_valid c0 c1 [] q h0 h1 okn (by decide) q0 (by omega), has0 c0 c1 [] q, by omega⟩), if_neg (by show ¬ ((-1 : Int) = 0); decide), if_neg (fun h => by
    rcases h with h | h
    · have : some c0.st = some 2 := h
      exact hs (Option.some.inj this)
    · exact absurd h (by show ¬ (0 = 2000); decide))]
  show ((⟨[c0, c1], [⟨0, x⟩], min (q + 1) 1048576, -1⟩ : Dsk), (0 : Int)) = _
  rw [Int.min_eq_left (by omega)]
theorem p_flush (c0 c1 : Cel) (q : Int) (x : List UInt8) (h0 : OkCel c0) (h1 : OkCel c1) (q0 : 0 ≤ q) (q1 : q < 1048576) (hx : x.length ≤ 100) (hs : c0.st ≠ 2) : flushA ⟨[c0, c1], [⟨0, x⟩], q, -1⟩ = (⟨[⟨0, x, c0.bs⟩, c1], [], q + 1, -1⟩, 0) := by
  unfold flushA
  rw [if_neg (not_not_intro (two_valid c0 c1 _ q h0 h1 (okw x hx) (by show 1 ≤ 2000; decide) q0 (by omega))), if_neg (by show ¬ ((-1 : Int) = 0); decide)]
  show ((⟨[onto x c0, c1], [], min (q + 1) 1048576, -1⟩ : Dsk), (0 : Int)) = _
  rw [Int.min_eq_left (by omega), onto, if_neg hs]
theorem p_read (c0 c1 : Cel) (q : Int) (h0 : OkCel c0) (h1 : OkCel c1) (q0 : 0 ≤ q) (q1 : q < 1048576) : readA ⟨[c0, c1], [], q, -1⟩ 0 = (⟨[c0, c1], [], q + 1, -1⟩, if c0.st = 0 then (c0.bs, 0) else ([], 6)) := by
  unfold readA
  rw [if_neg (not_not_intro ⟨two_valid c0 c1 [] q h0 h1 okn (by decide) q0 (by omega), has0 c0 c1 [] q⟩), if_neg (by show ¬ ((-1 : Int) = 0); decide)]
  show ((⟨[c0, c1], [], min (q + 1) 1048576, -1⟩ : Dsk), content ⟨[c0, c1], [], q, -1⟩ 0) = _
  rw [Int.min_eq_left (by omega)]
  rfl
theorem p_read1 (c0 c1 : Cel) (q : Int) (h0 : OkCel c0) (h1 : OkCel c1) (q0 : 0 ≤ q) (q1 : q < 1048576) : readA ⟨[c0, c1], [], q, -1⟩ 1 = (⟨[c0, c1], [], q + 1, -1⟩, if c1.st = 0 then (c1.bs, 0) else ([], 6)) := by
  unfold readA
  rw [if_neg (not_not_intro ⟨two_valid c0 c1 [] q h0 h1 okn (by decide) q0 (by omega), has1 c0 c1 [] q⟩), if_neg (by show ¬ ((-1 : Int) = 0); decide)]
  show ((⟨[c0, c1], [], min (q + 1) 1048576, -1⟩ : Dsk), content ⟨[c0, c1], [], q, -1⟩ 1) = _
  rw [Int.min_eq_left (by omega)]
  rfl
theorem p_sticky (c1 : Cel) (x y z : List UInt8) (q : Int) (h0 : OkCel ⟨2, y, z⟩) (h1 : OkCel c1) (q0 : 0 ≤ q) (q1 : q < 1048576) (hx : x.length ≤ 100) : writeA ⟨[⟨2, y, z⟩, c1], [], q, -1⟩ 0 x = (⟨[⟨2, y, z⟩, c1], [], q + 1, -1⟩, 7) := by
  unfold writeA
  rw [if_neg (not_not_intro ⟨two_valid _ c1 [] q h0 h1 okn (by decide) q0 (by omega), has0 _ c1 [] q, by omega⟩), if_neg (by show ¬ ((-1 : Int) = 0); decide), if_pos (show bad _ 0 from Or.inl rfl)]
  show ((⟨[_, c1], [], min (q + 1) 1048576, -1⟩ : Dsk), (7 : Int)) = _
  rw [Int.min_eq_left (by omega)]
theorem p_fault (c0 c1 : Cel) (q kind fr bit bits : Int) (f : Cel → Cel) (h0 : OkCel c0) (h1 : OkCel c1) (q0 : 0 ≤ q) (q1 : q < 1048576) (hf : faultF ⟨[c0, c1], [], q, -1⟩ kind fr bit bits = some f) : faultA ⟨[c0, c1], [], q, -1⟩ kind 0 fr bit bits = (⟨[f c0, c1], [], q, -1⟩, 0) := by
  unfold faultA
  rw [if_neg (not_not_intro ⟨two_valid c0 c1 [] q h0 h1 okn (by decide) q0 (by omega), has0 c0 c1 [] q⟩), if_neg (by simp), hf]
  rfl
theorem p_lat (x y : List UInt8) (c1 : Cel) (q : Int) (h0 : OkCel ⟨0, x, y⟩) (h1 : OkCel c1) (q0 : 0 ≤ q) (q1 : q < 1048576) : faultA ⟨[⟨0, x, y⟩, c1], [], q, -1⟩ 11 0 0 0 0 = (⟨[⟨1, x, y⟩, c1], [], q, -1⟩, 0) :=
  p_fault _ _ q 11 0 0 0 _ h0 h1 q0 q1 (if_pos rfl)
theorem p_sti (x y : List UInt8) (c1 : Cel) (q : Int) (h0 : OkCel ⟨0, x, y⟩) (h1 : OkCel c1) (q0 : 0 ≤ q) (q1 : q < 1048576) : faultA ⟨[⟨0, x, y⟩, c1], [], q, -1⟩ 12 0 0 0 0 = (⟨[⟨2, x, y⟩, c1], [], q, -1⟩, 0) :=
  p_fault _ _ q 12 0 0 0 _ h0 h1 q0 q1 (by unfold faultF; rw [if_neg (by decide), if_pos rfl])
theorem p_sta (x y : List UInt8) (c1 : Cel) (q : Int) (h0 : OkCel ⟨0, x, y⟩) (h1 : OkCel c1) (q0 : 0 ≤ q) (q1 : q < 1048576) : faultA ⟨[⟨0, x, y⟩, c1], [], q, -1⟩ 14 0 0 0 0 = (⟨[⟨0, y, y⟩, c1], [], q, -1⟩, 0) :=
  p_fault _ _ q 14 0 0 0 _ h0 h1 q0 q1 (by unfold faultF; rw [if_neg (by decide), if_neg (by decide), if_neg (fun k => absurd k.1 (by decide)), if_pos rfl])
theorem p_flip (x y : List UInt8) (c1 : Cel) (q bit bits : Int) (h0 : OkCel ⟨0, x, y⟩) (h1 : OkCel c1) (q0 : 0 ≤ q) (q1 : q < 1048576) (hb0 : 0 ≤ bit) (hb1 : 0 ≤ bits) : faultA ⟨[⟨0, x, y⟩, c1], [], q, -1⟩ 13 0 0 bit bits = (⟨[⟨0, flipd x bit bits, y⟩, c1], [], q, -1⟩, 0) :=
  p_fault _ _ q 13 0 bit bits _ h0 h1 q0 q1 (by unfold faultF; rw [if_neg (by decide), if_neg (by decide), if_pos ⟨rfl, hb0, hb1⟩])
theorem p_mov (x y : List UInt8) (q : Int) (h0 : OkCel ⟨0, x, y⟩) (h1 : OkCel ⟨0, [], []⟩) (q0 : 0 ≤ q) (q1 : q < 1048576) : faultA ⟨[⟨0, x, y⟩, ⟨0, [], []⟩], [], q, -1⟩ 15 1 0 0 0 = (⟨[⟨0, x, y⟩, ⟨0, x, []⟩], [], q, -1⟩, 0) := by
  unfold faultA
  rw [if_neg (not_not_intro ⟨two_valid _ _ [] q h0 h1 okn (by decide) q0 (by omega), has1 _ _ [] q⟩), if_neg (by simp)]
  unfold faultF
  rw [if_neg (by decide), if_neg (by decide), if_neg (fun k => absurd k.1 (by decide)), if_neg (by decide), if_pos ⟨rfl, has0 _ _ [] q⟩]
  rfl
end
set_option maxRecDepth 100000 in
set_option maxHeartbeats 8000000 in
theorem faults_go (a b : Row) (bit bits : Int) (w : World) (Ia : RIn w w.heap.size a) (Ib : RIn w w.heap.size b) (ha : a.l.length ≤ 100) (hb : b.l.length ≤ 100) (h0 : 0 ≤ bit) (h1 : 0 ≤ bits) :
    Calls Try.prog 7 #[.slice a.A a.l.length a.c, .slice b.A b.l.length b.c, .int .i64 bit, .int .i64 bits] w fun e w' => e = .returned (.bool true) ∧ Below w.heap.size w w' := by
  have i1 : ¬ (100 < (a.l.length : Int)) := by omega
  have i2 : ¬ (100 < (b.l.length : Int)) := by omega
  have i3 : ¬ (bit < 0) := by omega
  have i4 : ¬ (bits < 0) := by omega
  have B := Below.refl w.heap.size w
  go_enter Try.func7, Try.ntmps7
  go_upto_region 3 with fail
  have cc1 := new_p 2 w _ _ wk_new
  try dsimp only at cc1
  go_upto_region 4 with (first | (go_at_call 28; (with_reducible refine cc1.mono ?_); rintro e w1 ⟨⟨y1, rfl, hd1, ho1⟩, hb1⟩; have Z1 := hb1.size; have Ia := Ia.next hb1; have Ib := Ib.next hb1; have B := bt B hb1))
  clear cc1
  have Vd := var_new (base := w.heap.size) ho1 (by omega) (by omega) 25
  have al1 := bl w1 (.cells #[.slice y1.CA y1.cs.length y1.cc, .slice y1.WA y1.ws.length y1.wc, .int .i64 y1.reqs, .int .i64 y1.left] 25)
  have Ia := Ia.next al1
  have Ib := Ib.next al1
  have B := bt B al1
  have sz1 : w1.heap.size < (w1.alloc (.cells #[.slice y1.CA y1.cs.length y1.cc, .slice y1.WA y1.ws.length y1.wc, .int .i64 y1.reqs, .int .i64 y1.left] 25)).heap.size := by simp
  clear al1
  generalize w1.alloc (.cells #[.slice y1.CA y1.cs.length y1.cc, .slice y1.WA y1.ws.length y1.wc, .int .i64 y1.reqs, .int .i64 y1.left] 25) = W1 at *
  obtain ⟨l20, l21, l22, l23, -, -, -, -⟩ := id Vd.r
  have cc3 := write_p y1 0 a W1 _ _ _ Vd.o.in Ia hd1 (p_write ⟨0, [], []⟩ ⟨0, [], []⟩ 0 a.l (okc 0 [] [] (by decide) (by decide) (by decide) (by decide)) (okc 0 [] [] (by decide) (by decide) (by decide) (by decide)) (by decide) (by decide) ha (by show (0 : Int) ≠ 2; decide))
  try dsimp only at cc3
  go_upto_region 5 with (first | (go_at_call 13; (with_reducible refine cc3.mono ?_); rintro e w3 ⟨⟨y3, rfl, hd3, ho3⟩, hb3⟩; have Z3 := hb3.size; have Vd := Vd.below hb3; have Ia := Ia.next hb3; have Ib := Ib.next hb3; obtain ⟨a30, a31, a32, a33, b30, b31, b32, b33⟩ := id Vd.r; have B := bt B hb3))
  clear cc3
  obtain ⟨VV, b', s', i', o'⟩ := var_set Vd ho3 (by omega) (by have := Vd.hi; omega)
  have Ia := i' _ Ia; rw [← s'] at Ia
  have Ib := i' _ Ib; rw [← s'] at Ib
  have Vd := VV
  have B := B.trans b'
  have sz3 := Nat.le_of_eq s'.symm
  clear VV b' o' i' s' a30 a31 a32 a33 b30 b31 b32 b33
  generalize (((w3.setCell ⟨w1.heap.size, 0, none⟩ (.slice y3.CA y3.cs.length y3.cc)).setCell ⟨w1.heap.size, 1, none⟩ (.slice y3.WA y3.ws.length y3.wc)).setCell ⟨w1.heap.size, 2, none⟩ (.int .i64 y3.reqs)).setCell ⟨w1.heap.size, 3, none⟩ (.int .i64 y3.left) = W3 at *
  obtain ⟨l40, l41, l42, l43, -, -, -, -⟩ := id Vd.r
  have cc5 := flush_p y3 W3 _ _ _ Vd.o.in hd3 (p_flush ⟨0, [], []⟩ ⟨0, [], []⟩ 1 a.l (okc 0 [] [] (by decide) (by decide) (by decide) (by decide)) (okc 0 [] [] (by decide) (by decide) (by decide) (by decide)) (by decide) (by decide) ha (by show (0 : Int) ≠ 2; decide))
  try dsimp only at cc5
  go_upto_region 6 with (first | (go_at_call 14; (with_reducible refine cc5.mono ?_); rintro e w5 ⟨⟨y5, rfl, hd5, ho5⟩, hb5⟩; have Z5 := hb5.size; have Vd := Vd.below hb5; have Ia := Ia.next hb5; have Ib := Ib.next hb5; obtain ⟨a50, a51, a52, a53, b50, b51, b52, b53⟩ := id Vd.r; have B := bt B hb5))
  clear cc5
  obtain ⟨VV, b', s', i', o'⟩ := var_set Vd ho5 (by omega) (by have := Vd.hi; omega)
  have Ia := i' _ Ia; rw [← s'] at Ia
  have Ib := i' _ Ib; rw [← s'] at Ib
  have Vd := VV
  have B := B.trans b'
  have sz5 := Nat.le_of_eq s'.symm
  clear VV b' o' i' s' a50 a51 a52 a53 b50 b51 b52 b53
  generalize (((w5.setCell ⟨w1.heap.size, 0, none⟩ (.slice y5.CA y5.cs.length y5.cc)).setCell ⟨w1.heap.size, 1, none⟩ (.slice y5.WA y5.ws.length y5.wc)).setCell ⟨w1.heap.size, 2, none⟩ (.int .i64 y5.reqs)).setCell ⟨w1.heap.size, 3, none⟩ (.int .i64 y5.left) = W5 at *
  obtain ⟨l60, l61, l62, l63, -, -, -, -⟩ := id Vd.r
  have cc7 := write_p y5 0 b W5 _ _ _ Vd.o.in Ib hd5 (p_write ⟨0, a.l, []⟩ ⟨0, [], []⟩ 2 b.l (okc 0 a.l [] (by decide) (by decide) ha (by decide)) (okc 0 [] [] (by decide) (by decide) (by decide) (by decide)) (by decide) (by decide) hb (by show (0 : Int) ≠ 2; decide))
  try dsimp only at cc7
  go_upto_region 7 with (first | (go_at_call 13; (with_reducible refine cc7.mono ?_); rintro e w7 ⟨⟨y7, rfl, hd7, ho7⟩, hb7⟩; have Z7 := hb7.size; have Vd := Vd.below hb7; have Ia := Ia.next hb7; have Ib := Ib.next hb7; obtain ⟨a70, a71, a72, a73, b70, b71, b72, b73⟩ := id Vd.r; have B := bt B hb7))
  clear cc7
  obtain ⟨VV, b', s', i', o'⟩ := var_set Vd ho7 (by omega) (by have := Vd.hi; omega)
  have Ia := i' _ Ia; rw [← s'] at Ia
  have Ib := i' _ Ib; rw [← s'] at Ib
  have Vd := VV
  have B := B.trans b'
  have sz7 := Nat.le_of_eq s'.symm
  clear VV b' o' i' s' a70 a71 a72 a73 b70 b71 b72 b73
  generalize (((w7.setCell ⟨w1.heap.size, 0, none⟩ (.slice y7.CA y7.cs.length y7.cc)).setCell ⟨w1.heap.size, 1, none⟩ (.slice y7.WA y7.ws.length y7.wc)).setCell ⟨w1.heap.size, 2, none⟩ (.int .i64 y7.reqs)).setCell ⟨w1.heap.size, 3, none⟩ (.int .i64 y7.left) = W7 at *
  obtain ⟨l80, l81, l82, l83, -, -, -, -⟩ := id Vd.r
  have cc9 := flush_p y7 W7 _ _ _ Vd.o.in hd7 (p_flush ⟨0, a.l, []⟩ ⟨0, [], []⟩ 3 b.l (okc 0 a.l [] (by decide) (by decide) ha (by decide)) (okc 0 [] [] (by decide) (by decide) (by decide) (by decide)) (by decide) (by decide) hb (by show (0 : Int) ≠ 2; decide))
  try dsimp only at cc9
  go_upto_region 8 with (first | (go_at_call 14; (with_reducible refine cc9.mono ?_); rintro e w9 ⟨⟨y9, rfl, hd9, ho9⟩, hb9⟩; have Z9 := hb9.size; have Vd := Vd.below hb9; have Ia := Ia.next hb9; have Ib := Ib.next hb9; obtain ⟨a90, a91, a92, a93, b90, b91, b92, b93⟩ := id Vd.r; have B := bt B hb9))
  clear cc9
  obtain ⟨VV, b', s', i', o'⟩ := var_set Vd ho9 (by omega) (by have := Vd.hi; omega)
  have Ia := i' _ Ia; rw [← s'] at Ia
  have Ib := i' _ Ib; rw [← s'] at Ib
  have Vd := VV
  have B := B.trans b'
  have sz9 := Nat.le_of_eq s'.symm
  clear VV b' o' i' s' a90 a91 a92 a93 b90 b91 b92 b93
  generalize (((w9.setCell ⟨w1.heap.size, 0, none⟩ (.slice y9.CA y9.cs.length y9.cc)).setCell ⟨w1.heap.size, 1, none⟩ (.slice y9.WA y9.ws.length y9.wc)).setCell ⟨w1.heap.size, 2, none⟩ (.int .i64 y9.reqs)).setCell ⟨w1.heap.size, 3, none⟩ (.int .i64 y9.left) = W9 at *
  go_upto_region 10 with fail
  have LD : (∀ q, (Value.slice y9.CA y9.cs.length y9.cc).ownBlock = some q → q < W9.heap.size) ∧ ∀ q, (Value.slice y9.WA y9.ws.length y9.wc).ownBlock = some q → q < W9.heap.size := ⟨fun q e => (World.ownsRow.lt Vd.o.oc q e).2, fun q e => (World.ownsRow.lt Vd.o.ow q e).2⟩
  have zd : w1.heap.size < W9.heap.size := Vd.hi
  obtain ⟨l100, l101, l102, l103, -, -, -, -⟩ := id Vd.r
  have cc11 := fault_p y9 11 0 0 0 0 W9 _ _ _ Vd.o.in hd9 (p_lat b.l a.l ⟨0, [], []⟩ 4 (okc 0 b.l a.l (by decide) (by decide) hb ha) (okc 0 [] [] (by decide) (by decide) (by decide) (by decide)) (by decide) (by decide))
  try dsimp only at cc11
  go_upto_region 11 with (first | (go_at_call 16; (with_reducible refine cc11.mono ?_); rintro e w11 ⟨⟨y11, rfl, hd11, ho11⟩, hb11⟩; have Z11 := hb11.size; have Vd := Vd.below hb11; have Ia := Ia.next hb11; have Ib := Ib.next hb11; have B := bt B hb11))
  clear cc11
  have Vt := var_new (base := w.heap.size) ho11 (by omega) (by omega) 25
  have al11 := bl w11 (.cells #[.slice y11.CA y11.cs.length y11.cc, .slice y11.WA y11.ws.length y11.wc, .int .i64 y11.reqs, .int .i64 y11.left] 25)
  have Vd := Vd.below al11
  have Ia := Ia.next al11
  have Ib := Ib.next al11
  have B := bt B al11
  have sz11 : w11.heap.size < (w11.alloc (.cells #[.slice y11.CA y11.cs.length y11.cc, .slice y11.WA y11.ws.length y11.wc, .int .i64 y11.reqs, .int .i64 y11.left] 25)).heap.size := by simp
  clear al11
  generalize w11.alloc (.cells #[.slice y11.CA y11.cs.length y11.cc, .slice y11.WA y11.ws.length y11.wc, .int .i64 y11.reqs, .int .i64 y11.left] 25) = W11 at *
  have nc_d_t : (Value.slice y9.CA y9.cs.length y9.cc).ownBlock ≠ some (w11.heap.size) := fun e => by have := LD.1 _ e; omega
  have nw_d_t : (Value.slice y9.WA y9.ws.length y9.wc).ownBlock ≠ some (w11.heap.size) := fun e => by have := LD.2 _ e; omega
  obtain ⟨l120, l121, l122, l123, -, -, -, -⟩ := id Vt.r
  have cc13 := read_p y11 0 W11 _ _ _ _ Vt.o.in hd11 (p_read ⟨1, b.l, a.l⟩ ⟨0, [], []⟩ 4 (okc 1 b.l a.l (by decide) (by decide) hb ha) (okc 0 [] [] (by decide) (by decide) (by decide) (by decide)) (by decide) (by decide))
  try dsimp only at cc13
  go_upto_region 12 with (first | (go_at_call 12; (with_reducible refine cc13.mono ?_); rintro e w13 ⟨⟨y13, ⟨ra13, rc13, rl13⟩, rfl, hd13, hr13, ho13, hi13⟩, hb13⟩; have Z13 := hb13.size; dsimp only at hr13; subst hr13; dsimp only; have Vd := Vd.below hb13; have Vt := Vt.below hb13; have Ia := Ia.next hb13; have Ib := Ib.next hb13; have B := bt B hb13))
  clear cc13
  have Ir13 := hi13
  obtain ⟨l140, l141, l142, l143, -, -, -, -⟩ := id Vt.r
  have cc15 := write_p y11 0 a w13 _ _ _ Vt.o.in Ia hd11 (p_write ⟨1, b.l, a.l⟩ ⟨0, [], []⟩ 4 a.l (okc 1 b.l a.l (by decide) (by decide) hb ha) (okc 0 [] [] (by decide) (by decide) (by decide) (by decide)) (by decide) (by decide) ha (by show (1 : Int) ≠ 2; decide))
  try dsimp only at cc15
  go_upto_region 13 with (first | (go_at_call 13; (with_reducible refine cc15.mono ?_); rintro e w15 ⟨⟨y15, rfl, hd15, ho15⟩, hb15⟩; have Z15 := hb15.size; have Vd := Vd.below hb15; have Vt := Vt.below hb15; have Ia := Ia.next hb15; have Ib := Ib.next hb15; obtain ⟨a150, a151, a152, a153, b150, b151, b152, b153⟩ := id Vt.r; have B := bt B hb15))
  clear cc15
  obtain ⟨VV, b', s', i', o'⟩ := var_set Vt ho15 (by omega) (by have := Vt.hi; omega)
  have Vd := o' _ _ _ Vd (by omega) nc_d_t nw_d_t
  have Ia := i' _ Ia; rw [← s'] at Ia
  have Ib := i' _ Ib; rw [← s'] at Ib
  have Vt := VV
  have B := B.trans b'
  have sz15 := Nat.le_of_eq s'.symm
  clear VV b' o' i' s' a150 a151 a152 a153 b150 b151 b152 b153
  generalize (((w15.setCell ⟨w11.heap.size, 0, none⟩ (.slice y15.CA y15.cs.length y15.cc)).setCell ⟨w11.heap.size, 1, none⟩ (.slice y15.WA y15.ws.length y15.wc)).setCell ⟨w11.heap.size, 2, none⟩ (.int .i64 y15.reqs)).setCell ⟨w11.heap.size, 3, none⟩ (.int .i64 y15.left) = W15 at *
  obtain ⟨l160, l161, l162, l163, -, -, -, -⟩ := id Vt.r
  have cc17 := flush_p y15 W15 _ _ _ Vt.o.in hd15 (p_flush ⟨1, b.l, a.l⟩ ⟨0, [], []⟩ 5 a.l (okc 1 b.l a.l (by decide) (by decide) hb ha) (okc 0 [] [] (by decide) (by decide) (by decide) (by decide)) (by decide) (by decide) ha (by show (1 : Int) ≠ 2; decide))
  try dsimp only at cc17
  go_upto_region 14 with (first | (go_at_call 14; (with_reducible refine cc17.mono ?_); rintro e w17 ⟨⟨y17, rfl, hd17, ho17⟩, hb17⟩; have Z17 := hb17.size; have Vd := Vd.below hb17; have Vt := Vt.below hb17; have Ia := Ia.next hb17; have Ib := Ib.next hb17; obtain ⟨a170, a171, a172, a173, b170, b171, b172, b173⟩ := id Vt.r; have B := bt B hb17))
  clear cc17
  obtain ⟨VV, b', s', i', o'⟩ := var_set Vt ho17 (by omega) (by have := Vt.hi; omega)
  have Vd := o' _ _ _ Vd (by omega) nc_d_t nw_d_t
  have Ia := i' _ Ia; rw [← s'] at Ia
  have Ib := i' _ Ib; rw [← s'] at Ib
  have Vt := VV
  have B := B.trans b'
  have sz17 := Nat.le_of_eq s'.symm
  clear VV b' o' i' s' a170 a171 a172 a173 b170 b171 b172 b173
  generalize (((w17.setCell ⟨w11.heap.size, 0, none⟩ (.slice y17.CA y17.cs.length y17.cc)).setCell ⟨w11.heap.size, 1, none⟩ (.slice y17.WA y17.ws.length y17.wc)).setCell ⟨w11.heap.size, 2, none⟩ (.int .i64 y17.reqs)).setCell ⟨w11.heap.size, 3, none⟩ (.int .i64 y17.left) = W17 at *
  obtain ⟨l180, l181, l182, l183, -, -, -, -⟩ := id Vt.r
  have cc19 := read_p y17 0 W17 _ _ _ _ Vt.o.in hd17 (p_read ⟨0, a.l, b.l⟩ ⟨0, [], []⟩ 6 (okc 0 a.l b.l (by decide) (by decide) ha hb) (okc 0 [] [] (by decide) (by decide) (by decide) (by decide)) (by decide) (by decide))
  try dsimp only at cc19
  go_upto_region 15 with (first | (go_at_call 12; (with_reducible refine cc19.mono ?_); rintro e w19 ⟨⟨y19, ⟨ra19, rc19, rl19⟩, rfl, hd19, hr19, ho19, hi19⟩, hb19⟩; have Z19 := hb19.size; dsimp only at hr19; subst hr19; dsimp only; have Vd := Vd.below hb19; have Vt := Vt.below hb19; have Ia := Ia.next hb19; have Ib := Ib.next hb19; have B := bt B hb19))
  clear cc19
  have Vu := var_new (base := w.heap.size) ho19 (by omega) (by omega) 25
  have al19 := bl w19 (.cells #[.slice y19.CA y19.cs.length y19.cc, .slice y19.WA y19.ws.length y19.wc, .int .i64 y19.reqs, .int .i64 y19.left] 25)
  have Vd := Vd.below al19
  have Vt := Vt.below al19
  have Ia := Ia.next al19
  have Ib := Ib.next al19
  have B := bt B al19
  have Ir19 := hi19.next al19
  have sz19 : w19.heap.size < (w19.alloc (.cells #[.slice y19.CA y19.cs.length y19.cc, .slice y19.WA y19.ws.length y19.wc, .int .i64 y19.reqs, .int .i64 y19.left] 25)).heap.size := by simp
  clear al19
  generalize w19.alloc (.cells #[.slice y19.CA y19.cs.length y19.cc, .slice y19.WA y19.ws.length y19.wc, .int .i64 y19.reqs, .int .i64 y19.left] 25) = W19 at *
  have cc20 := keep_rin ⟨ra19, rc19, a.l⟩ a W19 Ir19 Ia (by show a.l.length ≤ _; omega)
  rw [decide_eq_true (rfl)] at cc20
  try dsimp only at cc20
  go_upto_region 17 with (first | (go_at_call 23; (with_reducible refine (cc20).mono ?_); rintro e w20 ⟨rfl, hb20⟩; have Z20 := hb20.size; have Vd := Vd.below hb20; have Vt := Vt.below hb20; have Vu := Vu.below hb20; have Ia := Ia.next hb20; have Ib := Ib.next hb20; have Ir19 := Ir19.next hb20; have B := bt B hb20))
  clear cc20
  obtain ⟨l210, l211, l212, l213, -, -, -, -⟩ := id Vd.r
  have cc22 := fault_p y9 12 0 0 0 0 w20 _ _ _ Vd.o.in hd9 (p_sti b.l a.l ⟨0, [], []⟩ 4 (okc 0 b.l a.l (by decide) (by decide) hb ha) (okc 0 [] [] (by decide) (by decide) (by decide) (by decide)) (by decide) (by decide))
  try dsimp only at cc22
  go_upto_region 18 with (first | (go_at_call 16; (with_reducible refine cc22.mono ?_); rintro e w22 ⟨⟨y22, rfl, hd22, ho22⟩, hb22⟩; have Z22 := hb22.size; have Vd := Vd.below hb22; have Ia := Ia.next hb22; have Ib := Ib.next hb22; have B := bt B hb22))
  clear cc22
  have Vs := var_new (base := w.heap.size) ho22 (by omega) (by omega) 25
  have al22 := bl w22 (.cells #[.slice y22.CA y22.cs.length y22.cc, .slice y22.WA y22.ws.length y22.wc, .int .i64 y22.reqs, .int .i64 y22.left] 25)
  have Vd := Vd.below al22
  have Ia := Ia.next al22
  have Ib := Ib.next al22
  have B := bt B al22
  have sz22 : w22.heap.size < (w22.alloc (.cells #[.slice y22.CA y22.cs.length y22.cc, .slice y22.WA y22.ws.length y22.wc, .int .i64 y22.reqs, .int .i64 y22.left] 25)).heap.size := by simp
  clear al22
  generalize w22.alloc (.cells #[.slice y22.CA y22.cs.length y22.cc, .slice y22.WA y22.ws.length y22.wc, .int .i64 y22.reqs, .int .i64 y22.left] 25) = W22 at *
  obtain ⟨l230, l231, l232, l233, -, -, -, -⟩ := id Vs.r
  have cc24 := read_p y22 0 W22 _ _ _ _ Vs.o.in hd22 (p_read ⟨2, b.l, a.l⟩ ⟨0, [], []⟩ 4 (okc 2 b.l a.l (by decide) (by decide) hb ha) (okc 0 [] [] (by decide) (by decide) (by decide) (by decide)) (by decide) (by decide))
  try dsimp only at cc24
  go_upto_region 19 with (first | (go_at_call 12; (with_reducible refine cc24.mono ?_); rintro e w24 ⟨⟨y24, ⟨ra24, rc24, rl24⟩, rfl, hd24, hr24, ho24, hi24⟩, hb24⟩; have Z24 := hb24.size; dsimp only at hr24; subst hr24; dsimp only; have Vd := Vd.below hb24; have Vs := Vs.below hb24; have Ia := Ia.next hb24; have Ib := Ib.next hb24; have B := bt B hb24))
  clear cc24
  have Ir24 := hi24
  obtain ⟨l250, l251, l252, l253, -, -, -, -⟩ := id Vs.r
  have cc26 := write_p y22 0 a w24 _ _ _ Vs.o.in Ia hd22 (p_sticky ⟨0, [], []⟩ a.l b.l a.l 4 (okc 2 b.l a.l (by decide) (by decide) hb ha) (okc 0 [] [] (by decide) (by decide) (by decide) (by decide)) (by decide) (by decide) ha)
  try dsimp only at cc26
  go_upto_region 20 with (first | (go_at_call 13; (with_reducible refine cc26.mono ?_); rintro e w26 ⟨⟨y26, rfl, hd26, ho26⟩, hb26⟩; have Z26 := hb26.size; have Vd := Vd.below hb26; have Vs := Vs.below hb26; have Ia := Ia.next hb26; have Ib := Ib.next hb26; have B := bt B hb26))
  clear cc26
  obtain ⟨l270, l271, l272, l273, -, -, -, -⟩ := id Vd.r
  have cc28 := fault_p y9 14 0 0 0 0 w26 _ _ _ Vd.o.in hd9 (p_sta b.l a.l ⟨0, [], []⟩ 4 (okc 0 b.l a.l (by decide) (by decide) hb ha) (okc 0 [] [] (by decide) (by decide) (by decide) (by decide)) (by decide) (by decide))
  try dsimp only at cc28
  go_upto_region 21 with (first | (go_at_call 16; (with_reducible refine cc28.mono ?_); rintro e w28 ⟨⟨y28, rfl, hd28, ho28⟩, hb28⟩; have Z28 := hb28.size; have Vd := Vd.below hb28; have Ia := Ia.next hb28; have Ib := Ib.next hb28; have B := bt B hb28))
  clear cc28
  have Vo := var_new (base := w.heap.size) ho28 (by omega) (by omega) 25
  have al28 := bl w28 (.cells #[.slice y28.CA y28.cs.length y28.cc, .slice y28.WA y28.ws.length y28.wc, .int .i64 y28.reqs, .int .i64 y28.left] 25)
  have Vd := Vd.below al28
  have Ia := Ia.next al28
  have Ib := Ib.next al28
  have B := bt B al28
  have sz28 : w28.heap.size < (w28.alloc (.cells #[.slice y28.CA y28.cs.length y28.cc, .slice y28.WA y28.ws.length y28.wc, .int .i64 y28.reqs, .int .i64 y28.left] 25)).heap.size := by simp
  clear al28
  generalize w28.alloc (.cells #[.slice y28.CA y28.cs.length y28.cc, .slice y28.WA y28.ws.length y28.wc, .int .i64 y28.reqs, .int .i64 y28.left] 25) = W28 at *
  obtain ⟨l290, l291, l292, l293, -, -, -, -⟩ := id Vo.r
  have cc30 := read_p y28 0 W28 _ _ _ _ Vo.o.in hd28 (p_read ⟨0, a.l, a.l⟩ ⟨0, [], []⟩ 4 (okc 0 a.l a.l (by decide) (by decide) ha ha) (okc 0 [] [] (by decide) (by decide) (by decide) (by decide)) (by decide) (by decide))
  try dsimp only at cc30
  go_upto_region 22 with (first | (go_at_call 12; (with_reducible refine cc30.mono ?_); rintro e w30 ⟨⟨y30, ⟨ra30, rc30, rl30⟩, rfl, hd30, hr30, ho30, hi30⟩, hb30⟩; have Z30 := hb30.size; dsimp only at hr30; subst hr30; dsimp only; have Vd := Vd.below hb30; have Vo := Vo.below hb30; have Ia := Ia.next hb30; have Ib := Ib.next hb30; have B := bt B hb30))
  clear cc30
  have Vv := var_new (base := w.heap.size) ho30 (by omega) (by omega) 25
  have al30 := bl w30 (.cells #[.slice y30.CA y30.cs.length y30.cc, .slice y30.WA y30.ws.length y30.wc, .int .i64 y30.reqs, .int .i64 y30.left] 25)
  have Vd := Vd.below al30
  have Vo := Vo.below al30
  have Ia := Ia.next al30
  have Ib := Ib.next al30
  have B := bt B al30
  have Ir30 := hi30.next al30
  have sz30 : w30.heap.size < (w30.alloc (.cells #[.slice y30.CA y30.cs.length y30.cc, .slice y30.WA y30.ws.length y30.wc, .int .i64 y30.reqs, .int .i64 y30.left] 25)).heap.size := by simp
  clear al30
  generalize w30.alloc (.cells #[.slice y30.CA y30.cs.length y30.cc, .slice y30.WA y30.ws.length y30.wc, .int .i64 y30.reqs, .int .i64 y30.left] 25) = W30 at *
  have cc31 := keep_rin ⟨ra30, rc30, a.l⟩ a W30 Ir30 Ia (by show a.l.length ≤ _; omega)
  rw [decide_eq_true (rfl)] at cc31
  try dsimp only at cc31
  go_upto_region 24 with (first | (go_at_call 23; (with_reducible refine (cc31).mono ?_); rintro e w31 ⟨rfl, hb31⟩; have Z31 := hb31.size; have Vd := Vd.below hb31; have Vo := Vo.below hb31; have Vv := Vv.below hb31; have Ia := Ia.next hb31; have Ib := Ib.next hb31; have Ir30 := Ir30.next hb31; have B := bt B hb31))
  clear cc31
  obtain ⟨l320, l321, l322, l323, -, -, -, -⟩ := id Vd.r
  have fl := flipd_turned w b.l bit bits (by omega)
  have fm := (fl.2 : (flipd b.l bit bits).length = b.l.length)
  have cc33 := fault_p y9 13 0 0 bit bits w31 _ _ _ Vd.o.in hd9 (p_flip b.l a.l ⟨0, [], []⟩ 4 bit bits (okc 0 b.l a.l (by decide) (by decide) hb ha) (okc 0 [] [] (by decide) (by decide) (by decide) (by decide)) (by decide) (by decide) h0 h1)
  try dsimp only at cc33
  go_upto_region 25 with (first | (go_at_call 16; (with_reducible refine cc33.mono ?_); rintro e w33 ⟨⟨y33, rfl, hd33, ho33⟩, hb33⟩; have Z33 := hb33.size; have Vd := Vd.below hb33; have Ia := Ia.next hb33; have Ib := Ib.next hb33; have B := bt B hb33))
  clear cc33
  have Vp := var_new (base := w.heap.size) ho33 (by omega) (by omega) 25
  have al33 := bl w33 (.cells #[.slice y33.CA y33.cs.length y33.cc, .slice y33.WA y33.ws.length y33.wc, .int .i64 y33.reqs, .int .i64 y33.left] 25)
  have Vd := Vd.below al33
  have Ia := Ia.next al33
  have Ib := Ib.next al33
  have B := bt B al33
  have sz33 : w33.heap.size < (w33.alloc (.cells #[.slice y33.CA y33.cs.length y33.cc, .slice y33.WA y33.ws.length y33.wc, .int .i64 y33.reqs, .int .i64 y33.left] 25)).heap.size := by simp
  clear al33
  generalize w33.alloc (.cells #[.slice y33.CA y33.cs.length y33.cc, .slice y33.WA y33.ws.length y33.wc, .int .i64 y33.reqs, .int .i64 y33.left] 25) = W33 at *
  obtain ⟨l340, l341, l342, l343, -, -, -, -⟩ := id Vp.r
  have pf := p_flip (flipd b.l bit bits) a.l ⟨0, [], []⟩ 4 bit bits (okc 0 (flipd b.l bit bits) a.l (by decide) (by decide) (by omega) ha) (okc 0 [] [] (by decide) (by decide) (by decide) (by decide)) (by decide) (by decide) h0 h1
  rw [flipd_twice w b.l bit bits (by omega)] at pf
  have cc35 := fault_p y33 13 0 0 bit bits W33 _ _ _ Vp.o.in hd33 (pf)
  try dsimp only at cc35
  go_upto_region 26 with (first | (go_at_call 16; (with_reducible refine cc35.mono ?_); rintro e w35 ⟨⟨y35, rfl, hd35, ho35⟩, hb35⟩; have Z35 := hb35.size; have Vd := Vd.below hb35; have Vp := Vp.below hb35; have Ia := Ia.next hb35; have Ib := Ib.next hb35; have B := bt B hb35))
  clear cc35
  have Vq := var_new (base := w.heap.size) ho35 (by omega) (by omega) 25
  have al35 := bl w35 (.cells #[.slice y35.CA y35.cs.length y35.cc, .slice y35.WA y35.ws.length y35.wc, .int .i64 y35.reqs, .int .i64 y35.left] 25)
  have Vd := Vd.below al35
  have Vp := Vp.below al35
  have Ia := Ia.next al35
  have Ib := Ib.next al35
  have B := bt B al35
  have sz35 : w35.heap.size < (w35.alloc (.cells #[.slice y35.CA y35.cs.length y35.cc, .slice y35.WA y35.ws.length y35.wc, .int .i64 y35.reqs, .int .i64 y35.left] 25)).heap.size := by simp
  clear al35
  generalize w35.alloc (.cells #[.slice y35.CA y35.cs.length y35.cc, .slice y35.WA y35.ws.length y35.wc, .int .i64 y35.reqs, .int .i64 y35.left] 25) = W35 at *
  obtain ⟨l360, l361, l362, l363, -, -, -, -⟩ := id Vd.r
  have cc37 := fault_p y9 15 1 0 0 0 W35 _ _ _ Vd.o.in hd9 (p_mov b.l a.l 4 (okc 0 b.l a.l (by decide) (by decide) hb ha) (okc 0 [] [] (by decide) (by decide) (by decide) (by decide)) (by decide) (by decide))
  try dsimp only at cc37
  go_upto_region 27 with (first | (go_at_call 16; (with_reducible refine cc37.mono ?_); rintro e w37 ⟨⟨y37, rfl, hd37, ho37⟩, hb37⟩; have Z37 := hb37.size; have Vd := Vd.below hb37; have Vp := Vp.below hb37; have Vq := Vq.below hb37; have Ia := Ia.next hb37; have Ib := Ib.next hb37; have B := bt B hb37))
  clear cc37
  have Vm := var_new (base := w.heap.size) ho37 (by omega) (by omega) 25
  have al37 := bl w37 (.cells #[.slice y37.CA y37.cs.length y37.cc, .slice y37.WA y37.ws.length y37.wc, .int .i64 y37.reqs, .int .i64 y37.left] 25)
  have Vd := Vd.below al37
  have Vp := Vp.below al37
  have Vq := Vq.below al37
  have Ia := Ia.next al37
  have Ib := Ib.next al37
  have B := bt B al37
  have sz37 : w37.heap.size < (w37.alloc (.cells #[.slice y37.CA y37.cs.length y37.cc, .slice y37.WA y37.ws.length y37.wc, .int .i64 y37.reqs, .int .i64 y37.left] 25)).heap.size := by simp
  clear al37
  generalize w37.alloc (.cells #[.slice y37.CA y37.cs.length y37.cc, .slice y37.WA y37.ws.length y37.wc, .int .i64 y37.reqs, .int .i64 y37.left] 25) = W37 at *
  obtain ⟨l380, l381, l382, l383, -, -, -, -⟩ := id Vq.r
  have cc39 := read_p y35 0 W37 _ _ _ _ Vq.o.in hd35 (p_read ⟨0, b.l, a.l⟩ ⟨0, [], []⟩ 4 (okc 0 b.l a.l (by decide) (by decide) hb ha) (okc 0 [] [] (by decide) (by decide) (by decide) (by decide)) (by decide) (by decide))
  try dsimp only at cc39
  go_upto_region 28 with (first | (go_at_call 12; (with_reducible refine cc39.mono ?_); rintro e w39 ⟨⟨y39, ⟨ra39, rc39, rl39⟩, rfl, hd39, hr39, ho39, hi39⟩, hb39⟩; have Z39 := hb39.size; dsimp only at hr39; subst hr39; dsimp only; have Vd := Vd.below hb39; have Vp := Vp.below hb39; have Vq := Vq.below hb39; have Vm := Vm.below hb39; have Ia := Ia.next hb39; have Ib := Ib.next hb39; have B := bt B hb39))
  clear cc39
  have Vz := var_new (base := w.heap.size) ho39 (by omega) (by omega) 25
  have al39 := bl w39 (.cells #[.slice y39.CA y39.cs.length y39.cc, .slice y39.WA y39.ws.length y39.wc, .int .i64 y39.reqs, .int .i64 y39.left] 25)
  have Vd := Vd.below al39
  have Vp := Vp.below al39
  have Vq := Vq.below al39
  have Vm := Vm.below al39
  have Ia := Ia.next al39
  have Ib := Ib.next al39
  have B := bt B al39
  have Ir39 := hi39.next al39
  have sz39 : w39.heap.size < (w39.alloc (.cells #[.slice y39.CA y39.cs.length y39.cc, .slice y39.WA y39.ws.length y39.wc, .int .i64 y39.reqs, .int .i64 y39.left] 25)).heap.size := by simp
  clear al39
  generalize w39.alloc (.cells #[.slice y39.CA y39.cs.length y39.cc, .slice y39.WA y39.ws.length y39.wc, .int .i64 y39.reqs, .int .i64 y39.left] 25) = W39 at *
  obtain ⟨l400, l401, l402, l403, -, -, -, -⟩ := id Vm.r
  have cc41 := read_p y37 1 W39 _ _ _ _ Vm.o.in hd37 (p_read1 ⟨0, b.l, a.l⟩ ⟨0, b.l, []⟩ 4 (okc 0 b.l a.l (by decide) (by decide) hb ha) (okc 0 b.l [] (by decide) (by decide) hb (by decide)) (by decide) (by decide))
  try dsimp only at cc41
  go_upto_region 29 with (first | (go_at_call 12; (with_reducible refine cc41.mono ?_); rintro e w41 ⟨⟨y41, ⟨ra41, rc41, rl41⟩, rfl, hd41, hr41, ho41, hi41⟩, hb41⟩; have Z41 := hb41.size; dsimp only at hr41; subst hr41; dsimp only; have Vd := Vd.below hb41; have Vp := Vp.below hb41; have Vq := Vq.below hb41; have Vm := Vm.below hb41; have Vz := Vz.below hb41; have Ia := Ia.next hb41; have Ib := Ib.next hb41; have Ir39 := Ir39.next hb41; have B := bt B hb41))
  clear cc41
  have Vx := var_new (base := w.heap.size) ho41 (by omega) (by omega) 25
  have al41 := bl w41 (.cells #[.slice y41.CA y41.cs.length y41.cc, .slice y41.WA y41.ws.length y41.wc, .int .i64 y41.reqs, .int .i64 y41.left] 25)
  have Vd := Vd.below al41
  have Vp := Vp.below al41
  have Vq := Vq.below al41
  have Vm := Vm.below al41
  have Vz := Vz.below al41
  have Ia := Ia.next al41
  have Ib := Ib.next al41
  have Ir39 := Ir39.next al41
  have B := bt B al41
  have Ir41 := hi41.next al41
  have sz41 : w41.heap.size < (w41.alloc (.cells #[.slice y41.CA y41.cs.length y41.cc, .slice y41.WA y41.ws.length y41.wc, .int .i64 y41.reqs, .int .i64 y41.left] 25)).heap.size := by simp
  clear al41
  generalize w41.alloc (.cells #[.slice y41.CA y41.cs.length y41.cc, .slice y41.WA y41.ws.length y41.wc, .int .i64 y41.reqs, .int .i64 y41.left] 25) = W41 at *
  have c1 := fun (W : World) (hW : Below W41.heap.size W41 W) => keep_rin ⟨ra39, rc39, b.l⟩ b W (Ir39.next hW) (Ib.next hW) (by show b.l.length ≤ _; omega)
  have c2 := fun (W : World) (hW : Below W41.heap.size W41 W) => keep_rin ⟨ra41, rc41, b.l⟩ b W (Ir41.next hW) (Ib.next hW) (by show b.l.length ≤ _; omega)
  dsimp only at c1 c2
  rw [decide_eq_true rfl] at c1 c2
  go_wp2_with (first | (go_at_call 23; (with_reducible refine (c1 _ (Below.refl _ _)).mono ?_); rintro e u1 ⟨rfl, hu1⟩) | (go_at_call 23; (with_reducible refine (c2 _ hu1).mono ?_); rintro e u2 ⟨rfl, hu2⟩) | (go_at_call 20; (with_reducible refine (dwakes _).mono ?_); rintro e u3 ⟨rfl, hu3⟩))
  go_ret
  exact ⟨rfl, bt B (bt hu1 (bt hu2 hu3))⟩
set_option maxRecDepth 100000 in
theorem faults_out (a b : Row) (bit bits : Int) (w : World) (h : 100 < a.l.length ∨ (a.l.length ≤ 100 ∧ 100 < b.l.length) ∨ (a.l.length ≤ 100 ∧ b.l.length ≤ 100 ∧ bit < 0) ∨ (a.l.length ≤ 100 ∧ b.l.length ≤ 100 ∧ 0 ≤ bit ∧ bits < 0)) :
    Calls Try.prog 7 #[.slice a.A a.l.length a.c, .slice b.A b.l.length b.c, .int .i64 bit, .int .i64 bits] w fun e w' => e = .returned (.bool true) ∧ Below w.heap.size w w' := by
  rcases h with h | ⟨h1, h⟩ | ⟨h1, h2, h⟩ | ⟨h1, h2, h3, h⟩
  · have i1 : 100 < (a.l.length : Int) := by omega
    go_enter Try.func7, Try.ntmps7
    go_wp2
    go_ret
    exact ⟨rfl, Below.refl _ _⟩
  · have i1 : ¬ (100 < (a.l.length : Int)) := by omega
    have i2 : 100 < (b.l.length : Int) := by omega
    go_enter Try.func7, Try.ntmps7
    go_wp2
    go_ret
    exact ⟨rfl, Below.refl _ _⟩
  · have i1 : ¬ (100 < (a.l.length : Int)) := by omega
    have i2 : ¬ (100 < (b.l.length : Int)) := by omega
    go_enter Try.func7, Try.ntmps7
    go_wp2
    go_ret
    exact ⟨rfl, Below.refl _ _⟩
  · have i1 : ¬ (100 < (a.l.length : Int)) := by omega
    have i2 : ¬ (100 < (b.l.length : Int)) := by omega
    have i3 : ¬ (bit < 0) := by omega
    go_enter Try.func7, Try.ntmps7
    go_wp2
    go_ret
    exact ⟨rfl, Below.refl _ _⟩
theorem faults_law (aA bA : Option Addr) (ac bc : Nat) (al bl : List UInt8) (bit bits : Int) (w : World) (h1 : al.length ≤ ac) (h2 : ac ≤ maxLen) (h3 : Sl w w.heap.size aA al) (h4 : bl.length ≤ bc) (h5 : bc ≤ maxLen) (h6 : Sl w w.heap.size bA bl) :
    Calls Try.prog 7 #[.slice aA al.length ac, .slice bA bl.length bc, .int .i64 bit, .int .i64 bits] w fun e w' => e = .returned (.bool true) ∧ Below w.heap.size w w' := by
  by_cases h : al.length ≤ 100 ∧ bl.length ≤ 100 ∧ 0 ≤ bit ∧ 0 ≤ bits
  · exact faults_go ⟨aA, ac, al⟩ ⟨bA, bc, bl⟩ bit bits w ⟨h3, h1, h2⟩ ⟨h6, h4, h5⟩ h.1 h.2.1 h.2.2.1 h.2.2.2
  · exact faults_out ⟨aA, ac, al⟩ ⟨bA, bc, bl⟩ bit bits w (by show 100 < al.length ∨ (al.length ≤ 100 ∧ 100 < bl.length) ∨ (al.length ≤ 100 ∧ bl.length ≤ 100 ∧ bit < 0) ∨ (al.length ≤ 100 ∧ bl.length ≤ 100 ∧ 0 ≤ bit ∧ bits < 0); omega)
end Go.Proofs.Ytegcbmimndmfkaa.dsk
