/-
  The law DiskDies, walked. No condition.
-/
import Derived.Test.YtegcbmimndmfkaaDkAw
import Derived.Test.YtegcbmimndmfkaaKeepInts
import Derived.Test.YtegcbmimndmfkaaDkD
namespace Go.Proofs.Ytegcbmimndmfkaa.dsk
open Go.RowKit Go.Lib

def Tame (c : Cel) : Prop := c.st = 0 ∧ c.bs.length ≤ 1 ∧ c.old.length ≤ 1
/-- Behind k requests, of a disk that is cut off behind L. -/
structure Dies (k L : Nat) (D : Dsk) : Prop where
  c3 : D.cells.length = 3
  tame : ∀ c ∈ D.cells, Tame c
  adr : ∀ x ∈ D.cache, x.addr = 2 ∧ x.bs.length ≤ 1
  len : D.cache.length ≤ k
  rq : D.reqs = ((min k L : Nat) : Int)
  lf : D.left = ((L - min k L : Nat) : Int)
section
variable {k L : Nat} {D : Dsk}
theorem Dies.valid (h : Dies k L D) (hk : k ≤ 60) (hL : L < 40) : Valid D := by
  have c3 := h.c3
  have e1 := h.len
  have e2 := h.rq
  have e3 := h.lf
  refine ⟨⟨⟨by omega, by omega, by omega⟩, by omega, by omega, by omega, by omega⟩, fun c hc => ?_, fun x hx => ?_⟩
  · obtain ⟨a, b, c⟩ := h.tame c hc
    unfold OkCel
    omega
  · obtain ⟨a, b⟩ := h.adr x hx
    unfold OkWri
    omega
theorem Dies.valid' (h : Dies k L D) (hk : k ≤ 61) (hL : L < 40) : Valid D := by
  have c3 := h.c3
  have e1 := h.len
  have e2 := h.rq
  have e3 := h.lf
  refine ⟨⟨⟨by omega, by omega, by omega⟩, by omega, by omega, by omega, by omega⟩, fun c hc => ?_, fun x hx => ?_⟩
  · obtain ⟨a, b, c⟩ := h.tame c hc
    unfold OkCel
    omega
  · obtain ⟨a, b⟩ := h.adr x hx
    unfold OkWri
    omega
theorem Dies.has (h : Dies k L D) (a : Int) (h0 : 0 ≤ a) (h1 : a < 3) : HasC D a := ⟨h0, by rw [h.c3]; exact h1⟩
theorem Dies.dead (h : Dies k L D) (hk : L ≤ k) : D.left = 0 := by have := h.lf; omega
theorem Dies.alive (h : Dies k L D) (hk : k < L) : ¬ D.left = 0 := by have := h.lf; omega
theorem Dies.stay (h : Dies k L D) (hk : L ≤ k) : Dies (k + 1) L D := ⟨h.c3, h.tame, h.adr, by have := h.len; omega, by have := h.rq; omega, by have := h.lf; omega⟩
theorem Dies.nums (h : Dies k L D) (hk : k < L) (hL : L < 40) : (req D).reqs = ((min (k + 1) L : Nat) : Int) ∧ (req D).left = ((L - min (k + 1) L : Nat) : Int) := by
  have e2 := h.rq
  have e3 := h.lf
  show min (D.reqs + 1) 1048576 = _ ∧ less D.left = _
  rw [less, if_pos (by omega)]
  omega
theorem lastW_far : ∀ (ws : List Wri) (a : Int), (∀ x ∈ ws, x.addr ≠ a) → lastW ws a = none := lastW_none
theorem Dies.read (h : Dies k L D) (hk : k < L) (hk2 : k ≤ 60) (hL : L < 40) : ∃ bs, readA D 1 = (req D, bs, 0) ∧ Dies (k + 1) L (req D) := by
  have h1 : 1 < D.cells.length := by have := h.c3; omega
  have hc : content D 1 = ((D.cells[1]'h1).bs, 0) := by
    unfold content
    rw [lastW_none D.cache 1 (fun x hx => by have := (h.adr x hx).1; omega)]
    rw [show D.cells[(1 : Int).toNat]? = some (D.cells[1]'h1) from List.getElem?_eq_getElem h1]
    exact if_pos (h.tame _ (List.getElem_mem h1)).1
  refine ⟨(D.cells[1]'h1).bs, ?_, ⟨h.c3, h.tame, h.adr, by have := h.len; show D.cache.length ≤ _; omega, (h.nums hk hL).1, (h.nums hk hL).2⟩⟩
  unfold readA
  rw [if_neg (not_not_intro ⟨h.valid hk2 hL, h.has 1 (by decide) (by decide)⟩), if_neg (h.alive hk), hc]
theorem Dies.write (h : Dies k L D) (b : UInt8) (hk : k < L) (hk2 : k ≤ 60) (hL : L < 40) : ∃ D', writeA D 2 [b] = (D', 0) ∧ Dies (k + 1) L D' := by
  refine ⟨⟨D.cells, D.cache ++ [⟨2, [b]⟩], (req D).reqs, (req D).left⟩, ?_, ⟨h.c3, h.tame, fun x hx => ?_, by have := h.len; show (D.cache ++ [_]).length ≤ _; rw [List.length_append]; simp; omega, (h.nums hk hL).1, (h.nums hk hL).2⟩⟩
  · unfold writeA
    rw [if_neg (not_not_intro ⟨h.valid hk2 hL, h.has 2 (by decide) (by decide), by show 1 ≤ 200; decide⟩), if_neg (h.alive hk), if_neg (fun hb => ?_)]
    rcases hb with hb | hb
    · obtain ⟨c, hc, e⟩ := Option.map_eq_some_iff.1 hb
      have := (h.tame c (List.mem_of_getElem? hc)).1
      omega
    · have := h.len; omega
  · rcases List.mem_append.1 hx with q | q
    · exact h.adr x q
    · obtain rfl := List.mem_singleton.1 q
      exact ⟨rfl, by show 1 ≤ 1; decide⟩
theorem play_all (P : Cel → Prop) : ∀ (ws : List Wri) (f : Nat → Bool) (i : Nat) (cs : List Cel), (∀ c ∈ cs, P c) → (∀ x ∈ ws, ∀ c, P c → P (onto x.bs c)) → ∀ c ∈ play f i cs ws, P c
  | [], _, _, _, h, _ => h
  | x :: ws, f, i, cs, h, hx => by
    refine play_all P ws f (i + 1) _ (fun c hc => ?_) (fun y hy => hx y (List.mem_cons_of_mem _ hy))
    split at hc
    · rcases mem_modify hc with q | ⟨z, hz, rfl⟩
      · exact h c q
      · exact hx x List.mem_cons_self z (h z hz)
    · exact h c hc
theorem Dies.flush (h : Dies k L D) (hk : k < L) (hk2 : k ≤ 60) (hL : L < 40) : ∃ D', flushA D = (D', 0) ∧ Dies (k + 1) L D' := by
  refine ⟨⟨play (fun _ => true) 0 D.cells D.cache, [], (req D).reqs, (req D).left⟩, ?_, ⟨by show (play _ _ _ _).length = 3; rw [play_length]; exact h.c3, play_all Tame _ _ _ _ h.tame fun x hx c hc => ?_, fun x hx => (by cases hx), by show 0 ≤ _; omega, (h.nums hk hL).1, (h.nums hk hL).2⟩⟩
  · unfold flushA
    rw [if_neg (not_not_intro (h.valid hk2 hL)), if_neg (h.alive hk)]
  · unfold onto
    split
    · exact hc
    · exact ⟨rfl, (h.adr x hx).2, hc.2.1⟩
theorem Dies.read0 (h : Dies k L D) (hk : L ≤ k) (hk2 : k ≤ 60) (hL : L < 40) : readA D 1 = (D, [], 8) := by
  unfold readA
  rw [if_neg (not_not_intro ⟨h.valid hk2 hL, h.has 1 (by decide) (by decide)⟩), if_pos (h.dead hk)]
theorem Dies.write0 (h : Dies k L D) (b : UInt8) (hk : L ≤ k) (hk2 : k ≤ 60) (hL : L < 40) : writeA D 2 [b] = (D, 8) := by
  unfold writeA
  rw [if_neg (not_not_intro ⟨h.valid hk2 hL, h.has 2 (by decide) (by decide), by show 1 ≤ 200; decide⟩), if_pos (h.dead hk)]
theorem Dies.flush0 (h : Dies k L D) (hk : L ≤ k) (hk2 : k ≤ 60) (hL : L < 40) : flushA D = (D, 8) := by
  unfold flushA
  rw [if_neg (not_not_intro (h.valid hk2 hL)), if_pos (h.dead hk)]
end
theorem new3 : newA 3 = (⟨[⟨0, [], []⟩, ⟨0, [], []⟩, ⟨0, [], []⟩], [], 0, -1⟩, 0) := by decide
theorem dies_new (L : Nat) : Dies 0 L ⟨[⟨0, [], []⟩, ⟨0, [], []⟩, ⟨0, [], []⟩], [], 0, L⟩ := by
  refine ⟨rfl, fun c hc => ?_, fun x hx => (by cases hx), Nat.le_refl _, by show (0 : Int) = _; omega, by show (L : Int) = _; omega⟩
  simp only [List.mem_cons, List.not_mem_nil, or_false, or_self] at hc
  subst hc
  exact ⟨rfl, by decide, by decide⟩
theorem wrap_nonneg' (z : Int) : 0 ≤ IntKind.u64.wrap z := by
  simp [IntKind.wrap, IntKind.bits, IntKind.signed]
  omega
theorem wmod (z : Int) (m : Nat) (hm : 0 < m) : ∃ N : Nat, N < m ∧ (IntKind.u64.wrap z).tmod (m : Int) = (N : Int) := by
  have h0 := wrap_nonneg' z
  generalize IntKind.u64.wrap z = y at *
  refine ⟨(y.tmod m).toNat, ?_, ?_⟩
  · have := Int.tmod_lt_of_pos y (b := (m : Int)) (by omega)
    have := Int.tmod_nonneg (m : Int) h0
    omega
  · have := Int.tmod_nonneg (m : Int) h0
    omega
theorem twin_p (x : DV) (w : World) (hx : x.In w w.heap.size) (hv : Valid x.d) :
    Calls Try.prog 11 #[.agg #[.slice x.CA x.cs.length x.cc, .slice x.WA x.ws.length x.wc, .int .i64 x.reqs, .int .i64 x.left]] w fun e w' => (∃ y : DV, e = .returned (.agg #[.slice y.CA y.cs.length y.cc, .slice y.WA y.ws.length y.wc, .int .i64 y.reqs, .int .i64 y.left]) ∧ y.d = x.d ∧ y.Own w' w.heap.size) ∧ Below w.heap.size w w' := by
  have hf := hv.fit
  refine (twin_disk x w hx hf.n hf.s hf.t).mono ?_
  rintro e w' ⟨⟨y, h1, h2, h3, -⟩, hb⟩
  exact ⟨⟨y, h1, h2, h3⟩, hb⟩
theorem disk_p (x y : DV) (w : World) (hx : x.In w w.heap.size) (hy : y.In w w.heap.size) (hv : Valid x.d) (b : Bool) (hb : decide (x.d = y.d) = b) :
    Calls Try.prog 17 #[.agg #[.slice x.CA x.cs.length x.cc, .slice x.WA x.ws.length x.wc, .int .i64 x.reqs, .int .i64 x.left], .agg #[.slice y.CA y.cs.length y.cc, .slice y.WA y.ws.length y.wc, .int .i64 y.reqs, .int .i64 y.left]] w fun e w' => e = .returned (.bool b) ∧ Below w.heap.size w w' := by
  have hf := hv.fit
  subst hb
  exact disk_any x y w hx hy hf.n hf.s hf.t
set_option maxRecDepth 100000 in
set_option maxHeartbeats 8000000 in
theorem dies_go (left : Int) (A : Option Addr) (c : Nat) (l : List Int) (w : World) (hA : SlV w w.heap.size A (ints l)) (hl : l.length ≤ 60) :
    Calls Try.prog 6 #[.int .i64 left, .slice A l.length c] w fun e w' => e = .returned (.bool true) ∧ Below w.heap.size w w' := by
  have i1 : ¬ (60 < (l.length : Int)) := by omega
  obtain ⟨L, hL, hLm⟩ := wmod left 40 (by decide)
  have hLm : (IntKind.u64.wrap left).tmod 40 = (L : Int) := hLm
  have B := Below.refl w.heap.size w
  go_enter Try.func6, Try.ntmps6
  go_upto_region 4 with fail
  have cc1 := new_p 3 w _ _ new3
  try dsimp only at cc1
  go_upto_region 5 with (first | (go_at_call 28; (with_reducible refine cc1.mono ?_); rintro e w1 ⟨⟨y1, rfl, hd1, ho1⟩, hb1⟩; have Z1 := hb1.size; have B := bt B hb1))
  clear cc1
  have Vd := var_new (base := w.heap.size) ho1 (by omega) (by omega) 25
  have al1 := bl w1 (.cells #[.slice y1.CA y1.cs.length y1.cc, .slice y1.WA y1.ws.length y1.wc, .int .i64 y1.reqs, .int .i64 y1.left] 25)
  have B := bt B al1
  have sz1 : w1.heap.size < (w1.alloc (.cells #[.slice y1.CA y1.cs.length y1.cc, .slice y1.WA y1.ws.length y1.wc, .int .i64 y1.reqs, .int .i64 y1.left] 25)).heap.size := by simp
  clear al1
  generalize w1.alloc (.cells #[.slice y1.CA y1.cs.length y1.cc, .slice y1.WA y1.ws.length y1.wc, .int .i64 y1.reqs, .int .i64 y1.left] 25) = W1 at *
  obtain ⟨l20, l21, l22, l23, -, -, -, -⟩ := id Vd.r
  obtain ⟨-, -, -, -, fz0, fz1, fz2, fz3⟩ := id Vd.r
  go_upto_region 8 with fail
  have RL := Vd.r.set3 (.int .i64 (L : Int))
  have OL := Vd.o.apart Vd.nc Vd.nw Vd.r.c3 (int_no8 _) (.int .i64 (L : Int))
  have VL : RefD (W1.setCell ⟨w1.heap.size, 3, none⟩ (.int .i64 (L : Int))) w.heap.size w1.heap.size ⟨y1.CA, y1.cc, y1.cs, y1.WA, y1.wc, y1.ws, y1.reqs, L⟩ := ⟨RL, ⟨OL.oc, OL.ow, OL.ci, OL.wi⟩, Vd.nc, Vd.nw, Vd.lo, by simpa using Vd.hi⟩
  have DL : Dies 0 L (DV.d ⟨y1.CA, y1.cc, y1.cs, y1.WA, y1.wc, y1.ws, y1.reqs, L⟩) := by
    have e : DV.d ⟨y1.CA, y1.cc, y1.cs, y1.WA, y1.wc, y1.ws, y1.reqs, L⟩ = ⟨[⟨0, [], []⟩, ⟨0, [], []⟩, ⟨0, [], []⟩], [], 0, L⟩ := by
      show (⟨y1.d.cells, y1.d.cache, y1.d.reqs, L⟩ : Dsk) = _
      rw [hd1]
    rw [e]
    exact dies_new L
  have BL := B.setCell (p := ⟨w1.heap.size, 3, none⟩) (show w.heap.size ≤ w1.heap.size by omega) (.int .i64 (L : Int))
  generalize W1.setCell ⟨w1.heap.size, 3, none⟩ (.int .i64 (L : Int)) = WL at *
  generalize (⟨y1.CA, y1.cc, y1.cs, y1.WA, y1.wc, y1.ws, y1.reqs, L⟩ : DV) = yL at *
  clear Vd B RL OL hd1 ho1 hb1 sz1 l20 l21 l22 l23 fz0 fz1 fz2 fz3
  have zg : w.heap.size ≤ w1.heap.size := Z1
  go_wp2_with fail
  go_loopw [7] (fun i w' => ∃ (k : Nat) (y : DV), k ≤ l.length ∧ i = .int .i64 k ∧ RefD w' w.heap.size w1.heap.size y ∧ Dies k L y.d ∧ Below w.heap.size w w') (fun i _ => l.length - (RowKit.intOf i).toNat)
  case atStart => exact ⟨0, yL, by omega, rfl, VL, DL, BL⟩
  case round =>
    clear VL DL BL
    rename_i wr
    obtain ⟨k, y, hk, rfl, Vd, hD, B⟩ := hrel
    by_cases hlt : k < l.length
    · have i2 : (k : Int) < (l.length : Int) := by omega
      obtain ⟨b1, off, rfl, hb1, hc1⟩ := hA (by rw [ints_length]; omega)
      have cl : wr.cell? ⟨b1, off + k, none⟩ = some (.int .i64 (l[k]'hlt)) := by have h := hc1 k (by rw [ints_length]; exact hlt); rw [ints_get] at h; exact (B.cell (p := ⟨b1, off + k, none⟩) hb1).trans h
      have hk2 : k ≤ 60 := by omega
      have hv := hD.valid hk2 hL
      have gw : w1.heap.size < wr.heap.size := Vd.hi
      have gz : w.heap.size ≤ wr.heap.size := by omega
      obtain ⟨t0, t1, t2, t3, -, -, -, -⟩ := id Vd.r
      have cc3 := twin_p y wr Vd.o.in hv
      try dsimp only at cc3
      go_upto_region 12 with (first | (go_at_call 11; (with_reducible refine cc3.mono ?_); rintro e w3 ⟨⟨y3, rfl, hd3, ho3⟩, hb3⟩; have Z3 := hb3.size; have Vd := Vd.below hb3; have B := bt B hb3))
      clear cc3
      have Vs := var_new (base := w.heap.size) ho3 (by omega) (by omega) 25
      have al3 := bl w3 (.cells #[.slice y3.CA y3.cs.length y3.cc, .slice y3.WA y3.ws.length y3.wc, .int .i64 y3.reqs, .int .i64 y3.left] 25)
      have Vd := Vd.below al3
      have B := bt B al3
      have sz3 : w3.heap.size < (w3.alloc (.cells #[.slice y3.CA y3.cs.length y3.cc, .slice y3.WA y3.ws.length y3.wc, .int .i64 y3.reqs, .int .i64 y3.left] 25)).heap.size := by simp
      clear al3
      generalize w3.alloc (.cells #[.slice y3.CA y3.cs.length y3.cc, .slice y3.WA y3.ws.length y3.wc, .int .i64 y3.reqs, .int .i64 y3.left] 25) = W3 at *
      have cl2 : W3.cell? ⟨b1, off + k, none⟩ = some (.int .i64 (l[k]'hlt)) := by have h := hc1 k (by rw [ints_length]; exact hlt); rw [ints_get] at h; exact (B.cell (p := ⟨b1, off + k, none⟩) hb1).trans h
      have nc_s_d : (Value.slice y3.CA y3.cs.length y3.cc).ownBlock ≠ some w1.heap.size := fun e => by have := (World.ownsRow.lt ho3.oc _ e).1; omega
      have nw_s_d : (Value.slice y3.WA y3.ws.length y3.wc).ownBlock ≠ some w1.heap.size := fun e => by have := (World.ownsRow.lt ho3.ow _ e).1; omega
      clear cl hc1
      obtain ⟨r, hr3, hr⟩ := wmod (l[k]'hlt) 3 (by decide)
      have hr : (IntKind.u64.wrap (l[k]'hlt)).tmod 3 = (r : Int) := hr
      generalize l[k]'hlt = lk at *
      have h012 : r = 0 ∨ r = 1 ∨ r = 2 := by omega
      obtain ⟨l40, l41, l42, l43, -, -, -, -⟩ := id Vd.r
      rcases Nat.lt_or_ge k L with hkL | hkL
      · rcases h012 with rfl | rfl | rfl
        · clear hr3
          have hr : (IntKind.u64.wrap lk).tmod 3 = 0 := hr
          obtain ⟨bs, hans, hD2⟩ := hD.read hkL hk2 hL
          have kL : (k : Int) < (L : Int) := by omega
          have kL2 : ¬ ((L : Int) ≤ (k : Int)) := by omega
          have cc5 := read_p y 1 W3 _ _ _ _ Vd.o.in rfl hans
          try dsimp only at cc5
          go_upto_region 19 with (first | (go_at_call 12; (with_reducible refine cc5.mono ?_); rintro e w5 ⟨⟨y5, ⟨ra5, rc5, rl5⟩, rfl, hd5, hr5, ho5, hi5⟩, hb5⟩; have Z5 := hb5.size; dsimp only at hr5; subst hr5; dsimp only; have Vd := Vd.below hb5; have Vs := Vs.below hb5; obtain ⟨a50, a51, a52, a53, b50, b51, b52, b53⟩ := id Vd.r; have B := bt B hb5))
          clear cc5
          obtain ⟨VV, b', s', i', o'⟩ := var_set Vd ho5 (by omega) (by have := Vd.hi; omega)
          have Vs := o' _ _ _ Vs (by omega) nc_s_d nw_s_d
          have Ir5 := i' _ hi5; rw [← s'] at Ir5
          have Vd := VV
          have B := B.trans b'
          have sz5 := Nat.le_of_eq s'.symm
          clear VV b' o' i' s' a50 a51 a52 a53 b50 b51 b52 b53
          generalize (((w5.setCell ⟨w1.heap.size, 0, none⟩ (.slice y5.CA y5.cs.length y5.cc)).setCell ⟨w1.heap.size, 1, none⟩ (.slice y5.WA y5.ws.length y5.wc)).setCell ⟨w1.heap.size, 2, none⟩ (.int .i64 y5.reqs)).setCell ⟨w1.heap.size, 3, none⟩ (.int .i64 y5.left) = W5 at *
          obtain ⟨l60, l61, l62, l63, -, -, -, -⟩ := id Vd.r
          obtain ⟨l70, l71, l72, l73, -, -, -, -⟩ := id Vs.r
          have hD3 : Dies (k + 1) L y5.d := by rw [hd5]; exact hD2
          have hq : y5.reqs = (k : Int) + 1 := by have := hD3.rq; change y5.reqs = _ at this; omega
          have hq2 : y5.left = (L : Int) - k - 1 := by have := hD3.lf; change y5.left = _ at this; omega
          have nq : (y5.reqs != (k : Int) + 1) = false := by rw [hq]; exact bne_self_eq_false _
          have nl : (y5.left != (L : Int) - k - 1) = false := by rw [hq2]; exact bne_self_eq_false _
          clear hq hq2 hans hD2 hD hv hd5 hd3
          have HD := Lib.hid hD3
          clear hD3
          go_wp2_with fail
          go_roundw
          case rel => exact ⟨k + 1, y5, by omega, by go_num, Vd, HD.out, B⟩
          case measure => simp [RowKit.intOf]; omega
        · clear hr3
          have hr : (IntKind.u64.wrap lk).tmod 3 = 1 := hr
          obtain ⟨D2, hans, hD2⟩ := hD.write (UInt8.ofNat k) hkL hk2 hL
          have kL : (k : Int) < (L : Int) := by omega
          have kL2 : ¬ ((L : Int) ≤ (k : Int)) := by omega
          have hb7 := bl W3 (.cells #[.int .u8 (k : Int)] 5)
          have hby : by8 (UInt8.ofNat k) = .int .u8 (k : Int) := by unfold by8; rw [show (UInt8.ofNat k).toNat = k from by rw [UInt8.toNat_ofNat']; exact Nat.mod_eq_of_lt (by show k < 256; omega)]
          have I7 : RIn (W3.alloc (.cells #[.int .u8 (k : Int)] 5)) (W3.alloc (.cells #[.int .u8 (k : Int)] 5)).heap.size ⟨some ⟨W3.heap.size, 0, none⟩, 1, [UInt8.ofNat k]⟩ := ⟨Sl.of_block (heap_alloc_new _ _) (by simp [cells8, hby]) (by simp), Nat.le_refl 1, by show 1 ≤ maxLen; decide⟩
          have s7 : W3.heap.size < (W3.alloc (.cells #[.int .u8 (k : Int)] 5)).heap.size := by simp
          have V8 := Vd.below hb7
          clear hby
          have cW := write_p y 2 ⟨some ⟨W3.heap.size, 0, none⟩, 1, [UInt8.ofNat k]⟩ (W3.alloc (.cells #[.int .u8 (k : Int)] 5)) _ _ _ V8.o.in I7 rfl hans
          simp only [List.length_cons, List.length_nil, Nat.zero_add] at cW
          have cc5 := cW
          try dsimp only at cc5
          go_upto_region 19 with (first | (go_at_call 13; (with_reducible refine cc5.mono ?_); rintro e w5 ⟨⟨y5, rfl, hd5, ho5⟩, hb5⟩; have Z5 := hb5.size; have hb5 := bt hb7 hb5; have Z5 := hb5.size; have Vd := Vd.below hb5; have Vs := Vs.below hb5; obtain ⟨a50, a51, a52, a53, b50, b51, b52, b53⟩ := id Vd.r; have B := bt B hb5))
          clear cc5
          obtain ⟨VV, b', s', i', o'⟩ := var_set Vd ho5 (by omega) (by have := Vd.hi; omega)
          have Vs := o' _ _ _ Vs (by omega) nc_s_d nw_s_d
          have Vd := VV
          have B := B.trans b'
          have sz5 := Nat.le_of_eq s'.symm
          clear VV b' o' i' s' a50 a51 a52 a53 b50 b51 b52 b53
          generalize (((w5.setCell ⟨w1.heap.size, 0, none⟩ (.slice y5.CA y5.cs.length y5.cc)).setCell ⟨w1.heap.size, 1, none⟩ (.slice y5.WA y5.ws.length y5.wc)).setCell ⟨w1.heap.size, 2, none⟩ (.int .i64 y5.reqs)).setCell ⟨w1.heap.size, 3, none⟩ (.int .i64 y5.left) = W5 at *
          obtain ⟨l60, l61, l62, l63, -, -, -, -⟩ := id Vd.r
          obtain ⟨l70, l71, l72, l73, -, -, -, -⟩ := id Vs.r
          have hD3 : Dies (k + 1) L y5.d := by rw [hd5]; exact hD2
          have hq : y5.reqs = (k : Int) + 1 := by have := hD3.rq; change y5.reqs = _ at this; omega
          have hq2 : y5.left = (L : Int) - k - 1 := by have := hD3.lf; change y5.left = _ at this; omega
          have nq : (y5.reqs != (k : Int) + 1) = false := by rw [hq]; exact bne_self_eq_false _
          have nl : (y5.left != (L : Int) - k - 1) = false := by rw [hq2]; exact bne_self_eq_false _
          clear hq hq2 hans hD2 hD hv hd5 hd3
          have HD := Lib.hid hD3
          clear hD3
          go_wp2_with fail
          go_roundw
          case rel => exact ⟨k + 1, y5, by omega, by go_num, Vd, HD.out, B⟩
          case measure => simp [RowKit.intOf]; omega
        · clear hr3
          have hr : (IntKind.u64.wrap lk).tmod 3 = 2 := hr
          obtain ⟨D2, hans, hD2⟩ := hD.flush hkL hk2 hL
          have kL : (k : Int) < (L : Int) := by omega
          have kL2 : ¬ ((L : Int) ≤ (k : Int)) := by omega
          have cc5 := flush_p y W3 _ _ _ Vd.o.in rfl hans
          try dsimp only at cc5
          go_upto_region 19 with (first | (go_at_call 14; (with_reducible refine cc5.mono ?_); rintro e w5 ⟨⟨y5, rfl, hd5, ho5⟩, hb5⟩; have Z5 := hb5.size; have Vd := Vd.below hb5; have Vs := Vs.below hb5; obtain ⟨a50, a51, a52, a53, b50, b51, b52, b53⟩ := id Vd.r; have B := bt B hb5))
          clear cc5
          obtain ⟨VV, b', s', i', o'⟩ := var_set Vd ho5 (by omega) (by have := Vd.hi; omega)
          have Vs := o' _ _ _ Vs (by omega) nc_s_d nw_s_d
          have Vd := VV
          have B := B.trans b'
          have sz5 := Nat.le_of_eq s'.symm
          clear VV b' o' i' s' a50 a51 a52 a53 b50 b51 b52 b53
          generalize (((w5.setCell ⟨w1.heap.size, 0, none⟩ (.slice y5.CA y5.cs.length y5.cc)).setCell ⟨w1.heap.size, 1, none⟩ (.slice y5.WA y5.ws.length y5.wc)).setCell ⟨w1.heap.size, 2, none⟩ (.int .i64 y5.reqs)).setCell ⟨w1.heap.size, 3, none⟩ (.int .i64 y5.left) = W5 at *
          obtain ⟨l60, l61, l62, l63, -, -, -, -⟩ := id Vd.r
          obtain ⟨l70, l71, l72, l73, -, -, -, -⟩ := id Vs.r
          have hD3 : Dies (k + 1) L y5.d := by rw [hd5]; exact hD2
          have hq : y5.reqs = (k : Int) + 1 := by have := hD3.rq; change y5.reqs = _ at this; omega
          have hq2 : y5.left = (L : Int) - k - 1 := by have := hD3.lf; change y5.left = _ at this; omega
          have nq : (y5.reqs != (k : Int) + 1) = false := by rw [hq]; exact bne_self_eq_false _
          have nl : (y5.left != (L : Int) - k - 1) = false := by rw [hq2]; exact bne_self_eq_false _
          clear hq hq2 hans hD2 hD hv hd5 hd3
          have HD := Lib.hid hD3
          clear hD3
          go_wp2_with fail
          go_roundw
          case rel => exact ⟨k + 1, y5, by omega, by go_num, Vd, HD.out, B⟩
          case measure => simp [RowKit.intOf]; omega
      · rcases h012 with rfl | rfl | rfl
        · clear hr3
          have hr : (IntKind.u64.wrap lk).tmod 3 = 0 := hr
          have hans := hD.read0 hkL hk2 hL
          have hD2 := hD.stay hkL
          have kL : ¬ ((k : Int) < (L : Int)) := by omega
          have kL2 : (L : Int) ≤ (k : Int) := by omega
          have cc5 := read_p y 1 W3 _ _ _ _ Vd.o.in rfl hans
          try dsimp only at cc5
          go_upto_region 19 with (first | (go_at_call 12; (with_reducible refine cc5.mono ?_); rintro e w5 ⟨⟨y5, ⟨ra5, rc5, rl5⟩, rfl, hd5, hr5, ho5, hi5⟩, hb5⟩; have Z5 := hb5.size; dsimp only at hr5; subst hr5; dsimp only; have Vd := Vd.below hb5; have Vs := Vs.below hb5; obtain ⟨a50, a51, a52, a53, b50, b51, b52, b53⟩ := id Vd.r; have B := bt B hb5))
          clear cc5
          obtain ⟨VV, b', s', i', o'⟩ := var_set Vd ho5 (by omega) (by have := Vd.hi; omega)
          have Vs := o' _ _ _ Vs (by omega) nc_s_d nw_s_d
          have Ir5 := i' _ hi5; rw [← s'] at Ir5
          have Vd := VV
          have B := B.trans b'
          have sz5 := Nat.le_of_eq s'.symm
          clear VV b' o' i' s' a50 a51 a52 a53 b50 b51 b52 b53
          generalize (((w5.setCell ⟨w1.heap.size, 0, none⟩ (.slice y5.CA y5.cs.length y5.cc)).setCell ⟨w1.heap.size, 1, none⟩ (.slice y5.WA y5.ws.length y5.wc)).setCell ⟨w1.heap.size, 2, none⟩ (.int .i64 y5.reqs)).setCell ⟨w1.heap.size, 3, none⟩ (.int .i64 y5.left) = W5 at *
          obtain ⟨l60, l61, l62, l63, -, -, -, -⟩ := id Vd.r
          obtain ⟨l70, l71, l72, l73, -, -, -, -⟩ := id Vs.r
          have hD3 : Dies (k + 1) L y5.d := by rw [hd5]; exact hD2
          have cD := disk_p y5 y3 W5 Vd.o.in Vs.o.in (hD3.valid' (by omega) hL) true (decide_eq_true (by rw [hd5, hd3]))
          clear hans hD2 hD hv hd5 hd3
          have HD := Lib.hid hD3
          clear hD3
          go_wp2_with (first | (go_at_call 17; (with_reducible refine cD.mono ?_); rintro e wz ⟨rfl, hbz⟩))
          go_roundw
          case rel => exact ⟨k + 1, y5, by omega, by go_num, Vd.below hbz, HD.out, bt B hbz⟩
          case measure => simp [RowKit.intOf]; omega
        · clear hr3
          have hr : (IntKind.u64.wrap lk).tmod 3 = 1 := hr
          have hans := hD.write0 (UInt8.ofNat k) hkL hk2 hL
          have hD2 := hD.stay hkL
          have kL : ¬ ((k : Int) < (L : Int)) := by omega
          have kL2 : (L : Int) ≤ (k : Int) := by omega
          have hb7 := bl W3 (.cells #[.int .u8 (k : Int)] 5)
          have hby : by8 (UInt8.ofNat k) = .int .u8 (k : Int) := by unfold by8; rw [show (UInt8.ofNat k).toNat = k from by rw [UInt8.toNat_ofNat']; exact Nat.mod_eq_of_lt (by show k < 256; omega)]
          have I7 : RIn (W3.alloc (.cells #[.int .u8 (k : Int)] 5)) (W3.alloc (.cells #[.int .u8 (k : Int)] 5)).heap.size ⟨some ⟨W3.heap.size, 0, none⟩, 1, [UInt8.ofNat k]⟩ := ⟨Sl.of_block (heap_alloc_new _ _) (by simp [cells8, hby]) (by simp), Nat.le_refl 1, by show 1 ≤ maxLen; decide⟩
          have s7 : W3.heap.size < (W3.alloc (.cells #[.int .u8 (k : Int)] 5)).heap.size := by simp
          have V8 := Vd.below hb7
          clear hby
          have cW := write_p y 2 ⟨some ⟨W3.heap.size, 0, none⟩, 1, [UInt8.ofNat k]⟩ (W3.alloc (.cells #[.int .u8 (k : Int)] 5)) _ _ _ V8.o.in I7 rfl hans
          simp only [List.length_cons, List.length_nil, Nat.zero_add] at cW
          have cc5 := cW
          try dsimp only at cc5
          go_upto_region 19 with (first | (go_at_call 13; (with_reducible refine cc5.mono ?_); rintro e w5 ⟨⟨y5, rfl, hd5, ho5⟩, hb5⟩; have Z5 := hb5.size; have hb5 := bt hb7 hb5; have Z5 := hb5.size; have Vd := Vd.below hb5; have Vs := Vs.below hb5; obtain ⟨a50, a51, a52, a53, b50, b51, b52, b53⟩ := id Vd.r; have B := bt B hb5))
          clear cc5
          obtain ⟨VV, b', s', i', o'⟩ := var_set Vd ho5 (by omega) (by have := Vd.hi; omega)
          have Vs := o' _ _ _ Vs (by omega) nc_s_d nw_s_d
          have Vd := VV
          have B := B.trans b'
          have sz5 := Nat.le_of_eq s'.symm
          clear VV b' o' i' s' a50 a51 a52 a53 b50 b51 b52 b53
          generalize (((w5.setCell ⟨w1.heap.size, 0, none⟩ (.slice y5.CA y5.cs.length y5.cc)).setCell ⟨w1.heap.size, 1, none⟩ (.slice y5.WA y5.ws.length y5.wc)).setCell ⟨w1.heap.size, 2, none⟩ (.int .i64 y5.reqs)).setCell ⟨w1.heap.size, 3, none⟩ (.int .i64 y5.left) = W5 at *
          obtain ⟨l60, l61, l62, l63, -, -, -, -⟩ := id Vd.r
          obtain ⟨l70, l71, l72, l73, -, -, -, -⟩ := id Vs.r
          have hD3 : Dies (k + 1) L y5.d := by rw [hd5]; exact hD2
          have cD := disk_p y5 y3 W5 Vd.o.in Vs.o.in (hD3.valid' (by omega) hL) true (decide_eq_true (by rw [hd5, hd3]))
          clear hans hD2 hD hv hd5 hd3
          have HD := Lib.hid hD3
          clear hD3
          go_wp2_with (first | (go_at_call 17; (with_reducible refine cD.mono ?_); rintro e wz ⟨rfl, hbz⟩))
          go_roundw
          case rel => exact ⟨k + 1, y5, by omega, by go_num, Vd.below hbz, HD.out, bt B hbz⟩
          case measure => simp [RowKit.intOf]; omega
        · clear hr3
          have hr : (IntKind.u64.wrap lk).tmod 3 = 2 := hr
          have hans := hD.flush0 hkL hk2 hL
          have hD2 := hD.stay hkL
          have kL : ¬ ((k : Int) < (L : Int)) := by omega
          have kL2 : (L : Int) ≤ (k : Int) := by omega
          have cc5 := flush_p y W3 _ _ _ Vd.o.in rfl hans
          try dsimp only at cc5
          go_upto_region 19 with (first | (go_at_call 14; (with_reducible refine cc5.mono ?_); rintro e w5 ⟨⟨y5, rfl, hd5, ho5⟩, hb5⟩; have Z5 := hb5.size; have Vd := Vd.below hb5; have Vs := Vs.below hb5; obtain ⟨a50, a51, a52, a53, b50, b51, b52, b53⟩ := id Vd.r; have B := bt B hb5))
          clear cc5
          obtain ⟨VV, b', s', i', o'⟩ := var_set Vd ho5 (by omega) (by have := Vd.hi; omega)
          have Vs := o' _ _ _ Vs (by omega) nc_s_d nw_s_d
          have Vd := VV
          have B := B.trans b'
          have sz5 := Nat.le_of_eq s'.symm
          clear VV b' o' i' s' a50 a51 a52 a53 b50 b51 b52 b53
          generalize (((w5.setCell ⟨w1.heap.size, 0, none⟩ (.slice y5.CA y5.cs.length y5.cc)).setCell ⟨w1.heap.size, 1, none⟩ (.slice y5.WA y5.ws.length y5.wc)).setCell ⟨w1.heap.size, 2, none⟩ (.int .i64 y5.reqs)).setCell ⟨w1.heap.size, 3, none⟩ (.int .i64 y5.left) = W5 at *
          obtain ⟨l60, l61, l62, l63, -, -, -, -⟩ := id Vd.r
          obtain ⟨l70, l71, l72, l73, -, -, -, -⟩ := id Vs.r
          have hD3 : Dies (k + 1) L y5.d := by rw [hd5]; exact hD2
          have cD := disk_p y5 y3 W5 Vd.o.in Vs.o.in (hD3.valid' (by omega) hL) true (decide_eq_true (by rw [hd5, hd3]))
          clear hans hD2 hD hv hd5 hd3
          have HD := Lib.hid hD3
          clear hD3
          go_wp2_with (first | (go_at_call 17; (with_reducible refine cD.mono ?_); rintro e wz ⟨rfl, hbz⟩))
          go_roundw
          case rel => exact ⟨k + 1, y5, by omega, by go_num, Vd.below hbz, HD.out, bt B hbz⟩
          case measure => simp [RowKit.intOf]; omega
    · go_wp2_with (first | (go_at_call 20; (with_reducible refine (dwakes _).mono ?_); rintro e w9 ⟨rfl, hb9⟩))
      go_ret
      exact ⟨rfl, bt B hb9⟩
set_option maxRecDepth 100000 in
theorem dies_out (left : Int) (A : Option Addr) (c : Nat) (l : List Int) (w : World) (hl : 60 < l.length) :
    Calls Try.prog 6 #[.int .i64 left, .slice A l.length c] w fun e w' => e = .returned (.bool true) ∧ Below w.heap.size w w' := by
  have i1 : 60 < (l.length : Int) := by omega
  go_enter Try.func6, Try.ntmps6
  go_wp2
  go_ret
  exact ⟨rfl, Below.refl _ _⟩
theorem dies_law (left : Int) (A : Option Addr) (c : Nat) (l : List Int) (w : World) (hA : SlK .i64 w w.heap.size A l) :
    Calls Try.prog 6 #[.int .i64 left, .slice A l.length c] w fun e w' => e = .returned (.bool true) ∧ Below w.heap.size w w' := by
  by_cases h : l.length ≤ 60
  · exact dies_go left A c l w hA.slv h
  · exact dies_out left A c l w (by omega)
end Go.Proofs.Ytegcbmimndmfkaa.dsk
