/-
  The law DiskSame, walked. No condition.
-/
import Derived.Test.YtegcbmimndmfkaaDkAw
import Derived.Test.YtegcbmimndmfkaaDkS
import Derived.Test.YtegcbmimndmfkaaDkZ
namespace Go.Proofs.Ytegcbmimndmfkaa.dsk
open Go.RowKit Go.Lib

/-- A variable with a disk that is only read. -/
structure RefI (w : World) (base g : Nat) (y : DV) : Prop where
  r : Four w g (.slice y.CA y.cs.length y.cc) (.slice y.WA y.ws.length y.wc) (.int .i64 y.reqs) (.int .i64 y.left)
  i : y.In w base
  lo : base ≤ g
  hi : g < w.heap.size
theorem RefI.below {w w' : World} {base g : Nat} {y : DV} (h : RefI w base g y) (hb : Below w.heap.size w w') : RefI w' base g y :=
  ⟨h.r.keep hb h.hi, h.i.below (hb.mono (Nat.le_of_lt (Nat.lt_of_le_of_lt h.lo h.hi))), h.lo, Nat.lt_of_lt_of_le h.hi hb.size⟩
theorem RefI.in {w : World} {base g : Nat} {y : DV} (h : RefI w base g y) : y.In w w.heap.size := h.i.more (Nat.le_of_lt (Nat.lt_of_le_of_lt h.lo h.hi))
theorem refi_new {w : World} {y : DV} (h : y.In w w.heap.size) (t : TypeId) : RefI (w.alloc (.cells #[.slice y.CA y.cs.length y.cc, .slice y.WA y.ws.length y.wc, .int .i64 y.reqs, .int .i64 y.left] t)) w.heap.size w.heap.size y :=
  ⟨four_new w _ _ _ _ t, h.below (bl w _), Nat.le_refl _, by simp⟩
theorem heavy_p (d : DV) (w : World) (hd : d.In w w.heap.size) :
    Calls Try.prog 10 #[.agg #[.slice d.CA d.cs.length d.cc, .slice d.WA d.ws.length d.wc, .int .i64 d.reqs, .int .i64 d.left]] w fun e w' => (∃ b, e = .returned (.bool b) ∧ (b = false → Light d)) ∧ Below w.heap.size w w' := heavy_at d w hd
theorem right_p (d : DV) (w : World) (hd : d.In w w.heap.size) (b : Bool) (hb : decide (Valid d.d) = b) :
    Calls Try.prog 18 #[.agg #[.slice d.CA d.cs.length d.cc, .slice d.WA d.ws.length d.wc, .int .i64 d.reqs, .int .i64 d.left]] w fun e w' => e = .returned (.bool b) ∧ Below w.heap.size w w' := by
  subst hb
  exact right_at d w hd
theorem onto_ok {x : Wri} {n : Nat} (hx : OkWri n x) (c : Cel) (hc : OkCel c) : OkCel (onto x.bs c) := by
  unfold onto
  split
  · exact hc
  · exact ⟨by show (0 : Int) ≤ 0; omega, by show (0 : Int) ≤ 2; omega, hx.2.2, hc.2.2.1⟩
theorem play_valid {D : Dsk} (h : Valid D) (f : Nat → Bool) : Valid ⟨play f 0 D.cells D.cache, [], D.reqs, -1⟩ := by
  obtain ⟨⟨⟨h1, h2, -⟩, h4, h5, -, -⟩, hc, hw⟩ := h
  refine ⟨⟨⟨?_, ?_, by show (0 : Nat) ≤ 2000; omega⟩, h4, h5, by show (-1 : Int) ≤ -1; omega, by show (-1 : Int) ≤ 1048576; omega⟩, play_all OkCel _ _ _ _ hc fun x hx c k => onto_ok (hw x hx) c k, fun x hx => by cases hx⟩
  · show 1 ≤ (play f 0 D.cells D.cache).length; rw [play_length]; exact h1
  · show (play f 0 D.cells D.cache).length ≤ 300; rw [play_length]; exact h2
theorem play_off (f : Nat → Bool) (hf : ∀ i, f i = false) : ∀ (ws : List Wri) (i : Nat) (cs : List Cel), play f i cs ws = cs
  | [], _, _ => rfl
  | x :: ws, i, cs => by
    rw [play, hf i]
    exact play_off f hf ws (i + 1) cs
theorem pick_all : pick 2147483647 = fun _ => true := by
  funext i
  show Nat.testBit (2 ^ 31 - 1) (i % 31) = true
  rw [Nat.testBit_two_pow_sub_one]
  exact decide_eq_true (Nat.mod_lt i (by decide))
theorem pick_zero (i : Nat) : pick 0 i = false := by
  show Nat.testBit 0 (i % 31) = false
  exact Nat.zero_testBit _
theorem crashA_ok {D : Dsk} (h : Valid D) (keep : Int) (hk : 0 ≤ keep) : crashA D keep = (⟨play (pick keep) 0 D.cells D.cache, [], D.reqs, -1⟩, 0) := if_neg (not_not_intro ⟨h, hk⟩)
theorem flushA_ok {D : Dsk} (h : Valid D) (hl : ¬ D.left = 0) : flushA D = (⟨play (fun _ => true) 0 D.cells D.cache, [], (req D).reqs, (req D).left⟩, 0) := by
  unfold flushA
  rw [if_neg (not_not_intro h), if_neg hl]
/-- What the law needs of the disks: a, b, c; x and y are the same. -/
structure Same (d a b c x y : DV) : Prop where
  ab : cds a.cs = cds b.cs
  cd : cds c.cs = cds d.cs
  la : a.cs.length = d.cs.length
  lb : b.cs.length = d.cs.length
  lc : c.cs.length = d.cs.length
  oa : ∀ u ∈ cds a.cs, OkCel u
  oc : ∀ u ∈ cds c.cs, OkCel u
  vx : Valid x.d
  xy : x.d = y.d
  left : a.left = -1
theorem same_of {d a b c x y : DV} {keep : Int} (h : Valid d.d) (ha : a.d = ⟨play (pick 2147483647) 0 d.d.cells d.d.cache, [], d.d.reqs, -1⟩)
    (hb : b.d = ⟨play (fun _ => true) 0 d.d.cells d.d.cache, [], (req d.d).reqs, (req d.d).left⟩) (hc : c.d = ⟨play (pick 0) 0 d.d.cells d.d.cache, [], d.d.reqs, -1⟩)
    (hx : x.d = ⟨play (pick keep) 0 d.d.cells d.d.cache, [], d.d.reqs, -1⟩) (hy : y.d = ⟨play (pick keep) 0 x.d.cells x.d.cache, [], x.d.reqs, -1⟩) : Same d a b c x y := by
  have a1 : cds a.cs = play (pick 2147483647) 0 d.d.cells d.d.cache := congrArg Dsk.cells ha
  have b1 : cds b.cs = play (fun _ => true) 0 d.d.cells d.d.cache := congrArg Dsk.cells hb
  have c1 : cds c.cs = play (pick 0) 0 d.d.cells d.d.cache := congrArg Dsk.cells hc
  rw [play_off _ pick_zero] at c1
  refine ⟨by rw [a1, b1, pick_all], c1, ?_, ?_, ?_, ?_, ?_, ?_, ?_, congrArg Dsk.left ha⟩
  · rw [← cds_length a.cs, a1, play_length]; exact cds_length d.cs
  · rw [← cds_length b.cs, b1, play_length]; exact cds_length d.cs
  · rw [← cds_length c.cs, c1]; exact cds_length d.cs
  · rw [a1]; exact (play_valid h (pick 2147483647)).2.1
  · rw [c1]; exact h.2.1
  · rw [hx]; exact play_valid h (pick keep)
  · rw [hy, hx]; rfl
set_option maxRecDepth 100000 in
set_option maxHeartbeats 8000000 in
theorem same_law (d : DV) (keep : Int) (w : World) (hx : d.In w w.heap.size) (hkm : keep ≤ 9223372036854775807) :
    Calls Try.prog 9 #[.agg #[.slice d.CA d.cs.length d.cc, .slice d.WA d.ws.length d.wc, .int .i64 d.reqs, .int .i64 d.left], .int .i64 keep] w fun e w' => e = .returned (.bool true) ∧ Below w.heap.size w w' := by
  have B := Below.refl w.heap.size w
  have Vd := refi_new hx 25
  have B := B.trans (bl w (.cells #[.slice d.CA d.cs.length d.cc, .slice d.WA d.ws.length d.wc, .int .i64 d.reqs, .int .i64 d.left] 25))
  have s0 : w.heap.size < (w.alloc (.cells #[.slice d.CA d.cs.length d.cc, .slice d.WA d.ws.length d.wc, .int .i64 d.reqs, .int .i64 d.left] 25)).heap.size := by simp
  obtain ⟨t0, t1, t2, t3, -, -, -, -⟩ := id Vd.r
  go_enter Try.func9, Try.ntmps9
  go_wp2_with fail
  generalize w.alloc (.cells #[.slice d.CA d.cs.length d.cc, .slice d.WA d.ws.length d.wc, .int .i64 d.reqs, .int .i64 d.left] 25) = W0 at *
  have cH := heavy_p d W0 Vd.in
  go_at_call 10
  (with_reducible refine cH.mono ?_)
  rintro e w1 ⟨⟨b, rfl, -⟩, hb1⟩
  dsimp only
  have Z1 := hb1.size
  have Vd := Vd.below hb1
  have B := bt B hb1
  obtain ⟨t0, t1, t2, t3, -, -, -, -⟩ := id Vd.r
  clear cH hb1
  have gz : w.heap.size < w1.heap.size := by omega
  clear s0 Z1
  rcases b with _ | _
  rotate_left
  · go_wp2_with fail
    go_ret
    exact ⟨rfl, B⟩
  by_cases hv : Valid d.d
  rotate_left
  · have cR := right_p d w1 Vd.in false (decide_eq_false hv)
    go_wp2_with (first | (go_at_call 18; (with_reducible refine cR.mono ?_); rintro e w2 ⟨rfl, hb2⟩; have Z2 := hb2.size; have Vd := Vd.below hb2; have B := bt B hb2; obtain ⟨t0, t1, t2, t3, -, -, -, -⟩ := id Vd.r))
    go_ret
    exact ⟨rfl, B⟩
  by_cases hk : keep < 0
  · have cR := right_p d w1 Vd.in true (decide_eq_true hv)
    go_wp2_with (first | (go_at_call 18; (with_reducible refine cR.mono ?_); rintro e w2 ⟨rfl, hb2⟩; have Z2 := hb2.size; have Vd := Vd.below hb2; have B := bt B hb2; obtain ⟨t0, t1, t2, t3, -, -, -, -⟩ := id Vd.r))
    go_ret
    exact ⟨rfl, B⟩
  by_cases hl : 0 ≤ d.left
  · by_cases hl2 : d.left < 2
    · have cR := right_p d w1 Vd.in true (decide_eq_true hv)
      go_wp2_with (first | (go_at_call 18; (with_reducible refine cR.mono ?_); rintro e w2 ⟨rfl, hb2⟩; have Z2 := hb2.size; have Vd := Vd.below hb2; have B := bt B hb2; obtain ⟨t0, t1, t2, t3, -, -, -, -⟩ := id Vd.r))
      go_ret
      exact ⟨rfl, B⟩
    · skip
      have cR := right_p d w1 Vd.in true (decide_eq_true hv)
      go_upto_region 3 with (first | (go_at_call 18; (with_reducible refine cR.mono ?_); rintro e w2 ⟨rfl, hb2⟩; have Z2 := hb2.size; have Vd := Vd.below hb2; have B := bt B hb2; obtain ⟨t0, t1, t2, t3, -, -, -, -⟩ := id Vd.r))
      have hl0 : ¬ d.d.left = 0 := by show ¬ d.left = 0; omega
      have gz2 : w.heap.size < w2.heap.size := by omega
      clear Z2 gz cR hb2
      have HL := Lib.hid hl0
      clear hl0
      have cc3 := crash_p d 2147483647 w2 _ _ _ Vd.in (by decide) rfl (crashA_ok hv 2147483647 (by decide))
      try dsimp only at cc3
      go_upto_region 4 with (first | (go_at_call 15; (with_reducible refine cc3.mono ?_); rintro e w3 ⟨⟨y3, rfl, hd3, ho3⟩, hb3⟩; have Z3 := hb3.size; have Vd := Vd.below hb3; have B := bt B hb3; obtain ⟨t0, t1, t2, t3, -, -, -, -⟩ := id Vd.r))
      clear cc3
      have Va := var_new (base := w.heap.size) ho3 (by omega) (by omega) 25
      have al3 := bl w3 (.cells #[.slice y3.CA y3.cs.length y3.cc, .slice y3.WA y3.ws.length y3.wc, .int .i64 y3.reqs, .int .i64 y3.left] 25)
      have Vd := Vd.below al3
      have B := bt B al3
      have sz3 : w3.heap.size < (w3.alloc (.cells #[.slice y3.CA y3.cs.length y3.cc, .slice y3.WA y3.ws.length y3.wc, .int .i64 y3.reqs, .int .i64 y3.left] 25)).heap.size := by simp
      clear al3
      generalize w3.alloc (.cells #[.slice y3.CA y3.cs.length y3.cc, .slice y3.WA y3.ws.length y3.wc, .int .i64 y3.reqs, .int .i64 y3.left] 25) = W3 at *
      obtain ⟨l40, l41, l42, l43, -, -, -, -⟩ := id Vd.r
      have cc5 := flush_p d W3 _ _ _ Vd.in rfl (flushA_ok hv HL.out)
      try dsimp only at cc5
      go_upto_region 5 with (first | (go_at_call 14; (with_reducible refine cc5.mono ?_); rintro e w5 ⟨⟨y5, rfl, hd5, ho5⟩, hb5⟩; have Z5 := hb5.size; have Vd := Vd.below hb5; have Va := Va.below hb5; have B := bt B hb5))
      clear cc5
      have Vb := var_new (base := w.heap.size) ho5 (by omega) (by omega) 25
      have al5 := bl w5 (.cells #[.slice y5.CA y5.cs.length y5.cc, .slice y5.WA y5.ws.length y5.wc, .int .i64 y5.reqs, .int .i64 y5.left] 25)
      have Vd := Vd.below al5
      have Va := Va.below al5
      have B := bt B al5
      have sz5 : w5.heap.size < (w5.alloc (.cells #[.slice y5.CA y5.cs.length y5.cc, .slice y5.WA y5.ws.length y5.wc, .int .i64 y5.reqs, .int .i64 y5.left] 25)).heap.size := by simp
      clear al5
      generalize w5.alloc (.cells #[.slice y5.CA y5.cs.length y5.cc, .slice y5.WA y5.ws.length y5.wc, .int .i64 y5.reqs, .int .i64 y5.left] 25) = W5 at *
      obtain ⟨l60, l61, l62, l63, -, -, -, -⟩ := id Vd.r
      have cc7 := crash_p d 0 W5 _ _ _ Vd.in (by decide) rfl (crashA_ok hv 0 (by decide))
      try dsimp only at cc7
      go_upto_region 6 with (first | (go_at_call 15; (with_reducible refine cc7.mono ?_); rintro e w7 ⟨⟨y7, rfl, hd7, ho7⟩, hb7⟩; have Z7 := hb7.size; have Vd := Vd.below hb7; have Va := Va.below hb7; have Vb := Vb.below hb7; have B := bt B hb7))
      clear cc7
      have Vc := var_new (base := w.heap.size) ho7 (by omega) (by omega) 25
      have al7 := bl w7 (.cells #[.slice y7.CA y7.cs.length y7.cc, .slice y7.WA y7.ws.length y7.wc, .int .i64 y7.reqs, .int .i64 y7.left] 25)
      have Vd := Vd.below al7
      have Va := Va.below al7
      have Vb := Vb.below al7
      have B := bt B al7
      have sz7 : w7.heap.size < (w7.alloc (.cells #[.slice y7.CA y7.cs.length y7.cc, .slice y7.WA y7.ws.length y7.wc, .int .i64 y7.reqs, .int .i64 y7.left] 25)).heap.size := by simp
      clear al7
      generalize w7.alloc (.cells #[.slice y7.CA y7.cs.length y7.cc, .slice y7.WA y7.ws.length y7.wc, .int .i64 y7.reqs, .int .i64 y7.left] 25) = W7 at *
      obtain ⟨l80, l81, l82, l83, -, -, -, -⟩ := id Vd.r
      have cc9 := crash_p d keep W7 _ _ _ Vd.in hkm rfl (crashA_ok hv keep (by omega))
      try dsimp only at cc9
      go_upto_region 7 with (first | (go_at_call 15; (with_reducible refine cc9.mono ?_); rintro e w9 ⟨⟨y9, rfl, hd9, ho9⟩, hb9⟩; have Z9 := hb9.size; have Vd := Vd.below hb9; have Va := Va.below hb9; have Vb := Vb.below hb9; have Vc := Vc.below hb9; have B := bt B hb9))
      clear cc9
      have Vx := var_new (base := w.heap.size) ho9 (by omega) (by omega) 25
      have al9 := bl w9 (.cells #[.slice y9.CA y9.cs.length y9.cc, .slice y9.WA y9.ws.length y9.wc, .int .i64 y9.reqs, .int .i64 y9.left] 25)
      have Vd := Vd.below al9
      have Va := Va.below al9
      have Vb := Vb.below al9
      have Vc := Vc.below al9
      have B := bt B al9
      have sz9 : w9.heap.size < (w9.alloc (.cells #[.slice y9.CA y9.cs.length y9.cc, .slice y9.WA y9.ws.length y9.wc, .int .i64 y9.reqs, .int .i64 y9.left] 25)).heap.size := by simp
      clear al9
      generalize w9.alloc (.cells #[.slice y9.CA y9.cs.length y9.cc, .slice y9.WA y9.ws.length y9.wc, .int .i64 y9.reqs, .int .i64 y9.left] 25) = W9 at *
      obtain ⟨l100, l101, l102, l103, -, -, -, -⟩ := id Vx.r
      have vx : Valid y9.d := by rw [hd9]; exact play_valid hv (pick keep)
      have cc11 := crash_p y9 keep W9 _ _ _ Vx.o.in hkm rfl (crashA_ok vx keep (by omega))
      try dsimp only at cc11
      go_upto_region 8 with (first | (go_at_call 15; (with_reducible refine cc11.mono ?_); rintro e w11 ⟨⟨y11, rfl, hd11, ho11⟩, hb11⟩; have Z11 := hb11.size; have Vd := Vd.below hb11; have Va := Va.below hb11; have Vb := Vb.below hb11; have Vc := Vc.below hb11; have Vx := Vx.below hb11; have B := bt B hb11))
      clear cc11
      have Vy := var_new (base := w.heap.size) ho11 (by omega) (by omega) 25
      have al11 := bl w11 (.cells #[.slice y11.CA y11.cs.length y11.cc, .slice y11.WA y11.ws.length y11.wc, .int .i64 y11.reqs, .int .i64 y11.left] 25)
      have Vd := Vd.below al11
      have Va := Va.below al11
      have Vb := Vb.below al11
      have Vc := Vc.below al11
      have Vx := Vx.below al11
      have B := bt B al11
      have sz11 : w11.heap.size < (w11.alloc (.cells #[.slice y11.CA y11.cs.length y11.cc, .slice y11.WA y11.ws.length y11.wc, .int .i64 y11.reqs, .int .i64 y11.left] 25)).heap.size := by simp
      clear al11
      generalize w11.alloc (.cells #[.slice y11.CA y11.cs.length y11.cc, .slice y11.WA y11.ws.length y11.wc, .int .i64 y11.reqs, .int .i64 y11.left] 25) = W11 at *
      have S := same_of hv hd3 hd5 hd7 hd9 hd11
      have H := Lib.hid S
      have na : ((y3.cs.length : Int) != (d.cs.length : Int)) = false := by rw [S.la]; exact bne_self_eq_false _
      have nb : ((y5.cs.length : Int) != (d.cs.length : Int)) = false := by rw [S.lb]; exact bne_self_eq_false _
      have nc : ((y7.cs.length : Int) != (d.cs.length : Int)) = false := by rw [S.lc]; exact bne_self_eq_false _
      have nl : (y3.left == -1) = true := by rw [S.left]; rfl
      have cn : d.cs.length ≤ 300 := by have := hv.1.1.2.1; rw [show d.d.cells = cds d.cs from rfl, cds_length] at this; exact this
      clear S vx hd3 hd5 hd7 hd9 hd11
      obtain ⟨l120, l121, l122, l123, -, -, -, -⟩ := id Vd.r
      obtain ⟨l130, l131, l132, l133, -, -, -, -⟩ := id Va.r
      obtain ⟨l140, l141, l142, l143, -, -, -, -⟩ := id Vb.r
      obtain ⟨l150, l151, l152, l153, -, -, -, -⟩ := id Vc.r
      go_upto_region 11 with fail
      go_loopw [15] (fun i w' => ∃ k : Nat, k ≤ d.cs.length ∧ i = .int .i64 k ∧ Below W11.heap.size W11 w') (fun i _ => d.cs.length - (RowKit.intOf i).toNat)
      case atStart => exact ⟨0, by omega, rfl, Below.refl _ _⟩
      case round =>
        rename_i wr
        obtain ⟨k, hk, rfl, hbr⟩ := hrel
        have Vd := Vd.below hbr
        have Va := Va.below hbr
        have Vb := Vb.below hbr
        have Vc := Vc.below hbr
        have Vx := Vx.below hbr
        have Vy := Vy.below hbr
        have B := bt B hbr
        have lw := hbr.size
        have gr : w.heap.size < wr.heap.size := by omega
        obtain ⟨d0, d1, d2, d3, -, -, -, -⟩ := id Vd.r
        by_cases hlt : k < d.cs.length
        · have i0 : (k : Int) < (d.cs.length : Int) := by omega
          have ia : (k : Int) < (y3.cs.length : Int) := by rw [H.out.la]; exact i0
          have ja : k < y3.cs.length := by rw [H.out.la]; exact hlt
          have ib : (k : Int) < (y5.cs.length : Int) := by rw [H.out.lb]; exact i0
          have jb : k < y5.cs.length := by rw [H.out.lb]; exact hlt
          have ic : (k : Int) < (y7.cs.length : Int) := by rw [H.out.lc]; exact i0
          have jc : k < y7.cs.length := by rw [H.out.lc]; exact hlt
          obtain ⟨b0, f0, u0, e0, hb0, p0, q0, -, m0, -, -, -, z0⟩ := cell_at Vd.in.hc Vd.in.ci hlt
          obtain ⟨ba, fa, ua, ea, hba, pa, qa, -, ma, -, -, -, za⟩ := cell_at Va.o.in.hc Va.o.in.ci ja
          obtain ⟨a0, a1, a2, a3, -, -, -, -⟩ := id Va.r
          rw [ea] at a0
          obtain ⟨bb, fb, ub, eb, hbb, pb, qb, -, mb, -, -, -, zb⟩ := cell_at Vb.o.in.hc Vb.o.in.ci jb
          obtain ⟨b0, b1, b2, b3, -, -, -, -⟩ := id Vb.r
          rw [eb] at b0
          obtain ⟨bc, fc, uc, ec, hbc, pc, qc, -, mc, -, -, -, zc⟩ := cell_at Vc.o.in.hc Vc.o.in.ci jc
          obtain ⟨c0, c1, c2, c3, -, -, -, -⟩ := id Vc.r
          rw [ec] at c0
          rw [e0] at d0
          have oka := (H.out.oa _ (List.mem_of_getElem? za)).2.2.1
          have okc := (H.out.oc _ (List.mem_of_getElem? zc)).2.2.1
          have sab : ua.d = ub.d := Option.some.inj (by rw [← za, ← zb, H.out.ab])
          have scd : uc.d = u0.d := Option.some.inj (by rw [← zc, ← z0, H.out.cd])
          have sb : ub.st = ua.st := (congrArg Cel.st sab).symm
          have sc : u0.st = uc.st := (congrArg Cel.st scd).symm
          have bb : ua.b.l = ub.b.l := congrArg Cel.bs sab
          have bc : uc.b.l = u0.b.l := congrArg Cel.bs scd
          rw [sb] at pb
          rw [sc] at p0
          have n1 : (ua.st != ua.st) = false := bne_self_eq_false _
          have n2 : (uc.st != uc.st) = false := bne_self_eq_false _
          have cB : ∀ n, Calls Try.prog 23 #[.slice ua.b.A ua.b.l.length ua.b.c, .slice ub.b.A ub.b.l.length ub.b.c] (wr.drewN n) fun e w' => e = .returned (.bool (decide (ua.b.l = ub.b.l))) ∧ ∃ m, w' = (wr.drewN n).drewN m := fun n =>
            keep_any_q _ _ _ _ _ _ _ _ _ (ma.below (below_dn (Below.refl _ _) n)).1 (mb.below (below_dn (Below.refl _ _) n)).1 (Nat.le_refl _) (Nat.le_refl _) (Nat.le_trans oka (by decide))
          have cC : ∀ n, Calls Try.prog 23 #[.slice uc.b.A uc.b.l.length uc.b.c, .slice u0.b.A u0.b.l.length u0.b.c] (wr.drewN n) fun e w' => e = .returned (.bool (decide (uc.b.l = u0.b.l))) ∧ ∃ m, w' = (wr.drewN n).drewN m := fun n =>
            keep_any_q _ _ _ _ _ _ _ _ _ (mc.below (below_dn (Below.refl _ _) n)).1 (m0.below (below_dn (Below.refl _ _) n)).1 (Nat.le_refl _) (Nat.le_refl _) (Nat.le_trans okc (by decide))
          rw [show (decide (ua.b.l = ub.b.l)) = true from decide_eq_true bb] at cB
          rw [show (decide (uc.b.l = u0.b.l)) = true from decide_eq_true bc] at cC
          clear e0 ea eb ec sab scd sb sc bb bc z0 za zb zc m0 ma mb mc oka okc ja jb jc na nb nc nl H Vd Va Vb Vc Vx Vy hb0 hba hbb hbc d1 d2 d3 a1 a2 a3 b1 b2 b3 c1 c2 c3 hv HL hk
          go_wp2_with fail
          go_quiet (first
            | (go_at_call 23; with_reducible refine Calls.quiet_of (cB _))
            | (go_at_call 23; with_reducible refine Calls.quiet_of (cC _)))
          go_wp2_with fail
          go_roundw
          case rel => exact ⟨k + 1, by omega, by go_num, below_dn hbr _⟩
          case measure => simp [RowKit.intOf]; omega
        · obtain ⟨a0, a1, a2, a3, -, -, -, -⟩ := id Va.r
          obtain ⟨x0, x1, x2, x3, -, -, -, -⟩ := id Vx.r
          obtain ⟨v0, v1, v2, v3, -, -, -, -⟩ := id Vy.r
          have cD := disk_p y9 y11 wr Vx.o.in Vy.o.in H.out.vx true (decide_eq_true H.out.xy)
          go_wp2_with (first | (go_at_call 17; (with_reducible refine cD.mono ?_); rintro e wz ⟨rfl, hbz⟩; have Va := Va.below hbz; have B := bt B hbz; obtain ⟨a0, a1, a2, a3, -, -, -, -⟩ := id Va.r) | (go_at_call 20; (with_reducible refine (dwakes _).mono ?_); rintro e w9 ⟨rfl, hb9⟩; have B := bt B hb9))
          go_ret
          exact ⟨rfl, B⟩
  have cR := right_p d w1 Vd.in true (decide_eq_true hv)
  go_upto_region 3 with (first | (go_at_call 18; (with_reducible refine cR.mono ?_); rintro e w2 ⟨rfl, hb2⟩; have Z2 := hb2.size; have Vd := Vd.below hb2; have B := bt B hb2; obtain ⟨t0, t1, t2, t3, -, -, -, -⟩ := id Vd.r))
  have hl0 : ¬ d.d.left = 0 := by show ¬ d.left = 0; omega
  have gz2 : w.heap.size < w2.heap.size := by omega
  clear Z2 gz cR hb2
  have HL := Lib.hid hl0
  clear hl0
  have cc3 := crash_p d 2147483647 w2 _ _ _ Vd.in (by decide) rfl (crashA_ok hv 2147483647 (by decide))
  try dsimp only at cc3
  go_upto_region 4 with (first | (go_at_call 15; (with_reducible refine cc3.mono ?_); rintro e w3 ⟨⟨y3, rfl, hd3, ho3⟩, hb3⟩; have Z3 := hb3.size; have Vd := Vd.below hb3; have B := bt B hb3; obtain ⟨t0, t1, t2, t3, -, -, -, -⟩ := id Vd.r))
  clear cc3
  have Va := var_new (base := w.heap.size) ho3 (by omega) (by omega) 25
  have al3 := bl w3 (.cells #[.slice y3.CA y3.cs.length y3.cc, .slice y3.WA y3.ws.length y3.wc, .int .i64 y3.reqs, .int .i64 y3.left] 25)
  have Vd := Vd.below al3
  have B := bt B al3
  have sz3 : w3.heap.size < (w3.alloc (.cells #[.slice y3.CA y3.cs.length y3.cc, .slice y3.WA y3.ws.length y3.wc, .int .i64 y3.reqs, .int .i64 y3.left] 25)).heap.size := by simp
  clear al3
  generalize w3.alloc (.cells #[.slice y3.CA y3.cs.length y3.cc, .slice y3.WA y3.ws.length y3.wc, .int .i64 y3.reqs, .int .i64 y3.left] 25) = W3 at *
  obtain ⟨l40, l41, l42, l43, -, -, -, -⟩ := id Vd.r
  have cc5 := flush_p d W3 _ _ _ Vd.in rfl (flushA_ok hv HL.out)
  try dsimp only at cc5
  go_upto_region 5 with (first | (go_at_call 14; (with_reducible refine cc5.mono ?_); rintro e w5 ⟨⟨y5, rfl, hd5, ho5⟩, hb5⟩; have Z5 := hb5.size; have Vd := Vd.below hb5; have Va := Va.below hb5; have B := bt B hb5))
  clear cc5
  have Vb := var_new (base := w.heap.size) ho5 (by omega) (by omega) 25
  have al5 := bl w5 (.cells #[.slice y5.CA y5.cs.length y5.cc, .slice y5.WA y5.ws.length y5.wc, .int .i64 y5.reqs, .int .i64 y5.left] 25)
  have Vd := Vd.below al5
  have Va := Va.below al5
  have B := bt B al5
  have sz5 : w5.heap.size < (w5.alloc (.cells #[.slice y5.CA y5.cs.length y5.cc, .slice y5.WA y5.ws.length y5.wc, .int .i64 y5.reqs, .int .i64 y5.left] 25)).heap.size := by simp
  clear al5
  generalize w5.alloc (.cells #[.slice y5.CA y5.cs.length y5.cc, .slice y5.WA y5.ws.length y5.wc, .int .i64 y5.reqs, .int .i64 y5.left] 25) = W5 at *
  obtain ⟨l60, l61, l62, l63, -, -, -, -⟩ := id Vd.r
  have cc7 := crash_p d 0 W5 _ _ _ Vd.in (by decide) rfl (crashA_ok hv 0 (by decide))
  try dsimp only at cc7
  go_upto_region 6 with (first | (go_at_call 15; (with_reducible refine cc7.mono ?_); rintro e w7 ⟨⟨y7, rfl, hd7, ho7⟩, hb7⟩; have Z7 := hb7.size; have Vd := Vd.below hb7; have Va := Va.below hb7; have Vb := Vb.below hb7; have B := bt B hb7))
  clear cc7
  have Vc := var_new (base := w.heap.size) ho7 (by omega) (by omega) 25
  have al7 := bl w7 (.cells #[.slice y7.CA y7.cs.length y7.cc, .slice y7.WA y7.ws.length y7.wc, .int .i64 y7.reqs, .int .i64 y7.left] 25)
  have Vd := Vd.below al7
  have Va := Va.below al7
  have Vb := Vb.below al7
  have B := bt B al7
  have sz7 : w7.heap.size < (w7.alloc (.cells #[.slice y7.CA y7.cs.length y7.cc, .slice y7.WA y7.ws.length y7.wc, .int .i64 y7.reqs, .int .i64 y7.left] 25)).heap.size := by simp
  clear al7
  generalize w7.alloc (.cells #[.slice y7.CA y7.cs.length y7.cc, .slice y7.WA y7.ws.length y7.wc, .int .i64 y7.reqs, .int .i64 y7.left] 25) = W7 at *
  obtain ⟨l80, l81, l82, l83, -, -, -, -⟩ := id Vd.r
  have cc9 := crash_p d keep W7 _ _ _ Vd.in hkm rfl (crashA_ok hv keep (by omega))
  try dsimp only at cc9
  go_upto_region 7 with (first | (go_at_call 15; (with_reducible refine cc9.mono ?_); rintro e w9 ⟨⟨y9, rfl, hd9, ho9⟩, hb9⟩; have Z9 := hb9.size; have Vd := Vd.below hb9; have Va := Va.below hb9; have Vb := Vb.below hb9; have Vc := Vc.below hb9; have B := bt B hb9))
  clear cc9
  have Vx := var_new (base := w.heap.size) ho9 (by omega) (by omega) 25
  have al9 := bl w9 (.cells #[.slice y9.CA y9.cs.length y9.cc, .slice y9.WA y9.ws.length y9.wc, .int .i64 y9.reqs, .int .i64 y9.left] 25)
  have Vd := Vd.below al9
  have Va := Va.below al9
  have Vb := Vb.below al9
  have Vc := Vc.below al9
  have B := bt B al9
  have sz9 : w9.heap.size < (w9.alloc (.cells #[.slice y9.CA y9.cs.length y9.cc, .slice y9.WA y9.ws.length y9.wc, .int .i64 y9.reqs, .int .i64 y9.left] 25)).heap.size := by simp
  clear al9
  generalize w9.alloc (.cells #[.slice y9.CA y9.cs.length y9.cc, .slice y9.WA y9.ws.length y9.wc, .int .i64 y9.reqs, .int .i64 y9.left] 25) = W9 at *
  obtain ⟨l100, l101, l102, l103, -, -, -, -⟩ := id Vx.r
  have vx : Valid y9.d := by rw [hd9]; exact play_valid hv (pick keep)
  have cc11 := crash_p y9 keep W9 _ _ _ Vx.o.in hkm rfl (crashA_ok vx keep (by omega))
  try dsimp only at cc11
  go_upto_region 8 with (first | (go_at_call 15; (with_reducible refine cc11.mono ?_); rintro e w11 ⟨⟨y11, rfl, hd11, ho11⟩, hb11⟩; have Z11 := hb11.size; have Vd := Vd.below hb11; have Va := Va.below hb11; have Vb := Vb.below hb11; have Vc := Vc.below hb11; have Vx := Vx.below hb11; have B := bt B hb11))
  clear cc11
  have Vy := var_new (base := w.heap.size) ho11 (by omega) (by omega) 25
  have al11 := bl w11 (.cells #[.slice y11.CA y11.cs.length y11.cc, .slice y11.WA y11.ws.length y11.wc, .int .i64 y11.reqs, .int .i64 y11.left] 25)
  have Vd := Vd.below al11
  have Va := Va.below al11
  have Vb := Vb.below al11
  have Vc := Vc.below al11
  have Vx := Vx.below al11
  have B := bt B al11
  have sz11 : w11.heap.size < (w11.alloc (.cells #[.slice y11.CA y11.cs.length y11.cc, .slice y11.WA y11.ws.length y11.wc, .int .i64 y11.reqs, .int .i64 y11.left] 25)).heap.size := by simp
  clear al11
  generalize w11.alloc (.cells #[.slice y11.CA y11.cs.length y11.cc, .slice y11.WA y11.ws.length y11.wc, .int .i64 y11.reqs, .int .i64 y11.left] 25) = W11 at *
  have S := same_of hv hd3 hd5 hd7 hd9 hd11
  have H := Lib.hid S
  have na : ((y3.cs.length : Int) != (d.cs.length : Int)) = false := by rw [S.la]; exact bne_self_eq_false _
  have nb : ((y5.cs.length : Int) != (d.cs.length : Int)) = false := by rw [S.lb]; exact bne_self_eq_false _
  have nc : ((y7.cs.length : Int) != (d.cs.length : Int)) = false := by rw [S.lc]; exact bne_self_eq_false _
  have nl : (y3.left == -1) = true := by rw [S.left]; rfl
  have cn : d.cs.length ≤ 300 := by have := hv.1.1.2.1; rw [show d.d.cells = cds d.cs from rfl, cds_length] at this; exact this
  clear S vx hd3 hd5 hd7 hd9 hd11
  obtain ⟨l120, l121, l122, l123, -, -, -, -⟩ := id Vd.r
  obtain ⟨l130, l131, l132, l133, -, -, -, -⟩ := id Va.r
  obtain ⟨l140, l141, l142, l143, -, -, -, -⟩ := id Vb.r
  obtain ⟨l150, l151, l152, l153, -, -, -, -⟩ := id Vc.r
  go_upto_region 11 with fail
  go_loopw [15] (fun i w' => ∃ k : Nat, k ≤ d.cs.length ∧ i = .int .i64 k ∧ Below W11.heap.size W11 w') (fun i _ => d.cs.length - (RowKit.intOf i).toNat)
  case atStart => exact ⟨0, by omega, rfl, Below.refl _ _⟩
  case round =>
    rename_i wr
    obtain ⟨k, hk, rfl, hbr⟩ := hrel
    have Vd := Vd.below hbr
    have Va := Va.below hbr
    have Vb := Vb.below hbr
    have Vc := Vc.below hbr
    have Vx := Vx.below hbr
    have Vy := Vy.below hbr
    have B := bt B hbr
    have lw := hbr.size
    have gr : w.heap.size < wr.heap.size := by omega
    obtain ⟨d0, d1, d2, d3, -, -, -, -⟩ := id Vd.r
    by_cases hlt : k < d.cs.length
    · have i0 : (k : Int) < (d.cs.length : Int) := by omega
      have ia : (k : Int) < (y3.cs.length : Int) := by rw [H.out.la]; exact i0
      have ja : k < y3.cs.length := by rw [H.out.la]; exact hlt
      have ib : (k : Int) < (y5.cs.length : Int) := by rw [H.out.lb]; exact i0
      have jb : k < y5.cs.length := by rw [H.out.lb]; exact hlt
      have ic : (k : Int) < (y7.cs.length : Int) := by rw [H.out.lc]; exact i0
      have jc : k < y7.cs.length := by rw [H.out.lc]; exact hlt
      obtain ⟨b0, f0, u0, e0, hb0, p0, q0, -, m0, -, -, -, z0⟩ := cell_at Vd.in.hc Vd.in.ci hlt
      obtain ⟨ba, fa, ua, ea, hba, pa, qa, -, ma, -, -, -, za⟩ := cell_at Va.o.in.hc Va.o.in.ci ja
      obtain ⟨a0, a1, a2, a3, -, -, -, -⟩ := id Va.r
      rw [ea] at a0
      obtain ⟨bb, fb, ub, eb, hbb, pb, qb, -, mb, -, -, -, zb⟩ := cell_at Vb.o.in.hc Vb.o.in.ci jb
      obtain ⟨b0, b1, b2, b3, -, -, -, -⟩ := id Vb.r
      rw [eb] at b0
      obtain ⟨bc, fc, uc, ec, hbc, pc, qc, -, mc, -, -, -, zc⟩ := cell_at Vc.o.in.hc Vc.o.in.ci jc
      obtain ⟨c0, c1, c2, c3, -, -, -, -⟩ := id Vc.r
      rw [ec] at c0
      rw [e0] at d0
      have oka := (H.out.oa _ (List.mem_of_getElem? za)).2.2.1
      have okc := (H.out.oc _ (List.mem_of_getElem? zc)).2.2.1
      have sab : ua.d = ub.d := Option.some.inj (by rw [← za, ← zb, H.out.ab])
      have scd : uc.d = u0.d := Option.some.inj (by rw [← zc, ← z0, H.out.cd])
      have sb : ub.st = ua.st := (congrArg Cel.st sab).symm
      have sc : u0.st = uc.st := (congrArg Cel.st scd).symm
      have bb : ua.b.l = ub.b.l := congrArg Cel.bs sab
      have bc : uc.b.l = u0.b.l := congrArg Cel.bs scd
      rw [sb] at pb
      rw [sc] at p0
      have n1 : (ua.st != ua.st) = false := bne_self_eq_false _
      have n2 : (uc.st != uc.st) = false := bne_self_eq_false _
      have cB : ∀ n, Calls Try.prog 23 #[.slice ua.b.A ua.b.l.length ua.b.c, .slice ub.b.A ub.b.l.length ub.b.c] (wr.drewN n) fun e w' => e = .returned (.bool (decide (ua.b.l = ub.b.l))) ∧ ∃ m, w' = (wr.drewN n).drewN m := fun n =>
        keep_any_q _ _ _ _ _ _ _ _ _ (ma.below (below_dn (Below.refl _ _) n)).1 (mb.below (below_dn (Below.refl _ _) n)).1 (Nat.le_refl _) (Nat.le_refl _) (Nat.le_trans oka (by decide))
      have cC : ∀ n, Calls Try.prog 23 #[.slice uc.b.A uc.b.l.length uc.b.c, .slice u0.b.A u0.b.l.length u0.b.c] (wr.drewN n) fun e w' => e = .returned (.bool (decide (uc.b.l = u0.b.l))) ∧ ∃ m, w' = (wr.drewN n).drewN m := fun n =>
        keep_any_q _ _ _ _ _ _ _ _ _ (mc.below (below_dn (Below.refl _ _) n)).1 (m0.below (below_dn (Below.refl _ _) n)).1 (Nat.le_refl _) (Nat.le_refl _) (Nat.le_trans okc (by decide))
      rw [show (decide (ua.b.l = ub.b.l)) = true from decide_eq_true bb] at cB
      rw [show (decide (uc.b.l = u0.b.l)) = true from decide_eq_true bc] at cC
      clear e0 ea eb ec sab scd sb sc bb bc z0 za zb zc m0 ma mb mc oka okc ja jb jc na nb nc nl H Vd Va Vb Vc Vx Vy hb0 hba hbb hbc d1 d2 d3 a1 a2 a3 b1 b2 b3 c1 c2 c3 hv HL hk
      go_wp2_with fail
      go_quiet (first
        | (go_at_call 23; with_reducible refine Calls.quiet_of (cB _))
        | (go_at_call 23; with_reducible refine Calls.quiet_of (cC _)))
      go_wp2_with fail
      go_roundw
      case rel => exact ⟨k + 1, by omega, by go_num, below_dn hbr _⟩
      case measure => simp [RowKit.intOf]; omega
    · obtain ⟨a0, a1, a2, a3, -, -, -, -⟩ := id Va.r
      obtain ⟨x0, x1, x2, x3, -, -, -, -⟩ := id Vx.r
      obtain ⟨v0, v1, v2, v3, -, -, -, -⟩ := id Vy.r
      have cD := disk_p y9 y11 wr Vx.o.in Vy.o.in H.out.vx true (decide_eq_true H.out.xy)
      go_wp2_with (first | (go_at_call 17; (with_reducible refine cD.mono ?_); rintro e wz ⟨rfl, hbz⟩; have Va := Va.below hbz; have B := bt B hbz; obtain ⟨a0, a1, a2, a3, -, -, -, -⟩ := id Va.r) | (go_at_call 20; (with_reducible refine (dwakes _).mono ?_); rintro e w9 ⟨rfl, hb9⟩; have B := bt B hb9))
      go_ret
      exact ⟨rfl, B⟩
end Go.Proofs.Ytegcbmimndmfkaa.dsk
