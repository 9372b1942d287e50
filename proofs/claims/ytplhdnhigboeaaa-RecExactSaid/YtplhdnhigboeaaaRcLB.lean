/-
  RecBent: a right image's record is none of another kind, at the commit's place, of one record, of a zone, a block that there is not, with a byte too few. Conditions: 'Crd'.
-/
import Derived.Test.YtplhdnhigboeaaaRcQ
import Derived.Test.YtplhdnhigboeaaaGGm
import Derived.Test.YtplhdnhigboeaaaRcS
namespace Go.Proofs.Ytplhdnhigboeaaa.lrc
open Go.RowKit Go.Lib
open Go.Proofs.Ytplhdnhigboeaaa.gmt (Ok)
open Go.Proofs.Ytplhdnhigboeaaa.anc (bl kal kst ks bm ka)
open Go.Proofs.Ytplhdnhigboeaaa.tbl (C1 c1_new G5 g5_new)
open Go.Proofs.Ytplhdnhigboeaaa.img

/-- A record in a box that may be written. -/
structure F8 (W : World) (g : Nat) (a0 a1 a2 a3 a4 a5 a6 a7 : Value) : Prop where
  c : C8 W g a0 a1 a2 a3 a4 a5 a6 a7
  f : ∀ o, W.frozen? ⟨g, o, none⟩ = false
theorem f8_new (w : World) (a0 a1 a2 a3 a4 a5 a6 a7 : Value) (t : TypeId) : F8 (w.alloc (.cells #[a0, a1, a2, a3, a4, a5, a6, a7] t)) w.heap.size a0 a1 a2 a3 a4 a5 a6 a7 := ⟨c8_new w a0 a1 a2 a3 a4 a5 a6 a7 t, fun _ => World.frozen?_alloc_new _ _ _ _⟩
theorem cell_x {W : World} {g o o' : Nat} (v : Value) (h : o' ≠ o) : (W.setCell ⟨g, o, none⟩ v).cell? ⟨g, o', none⟩ = W.cell? ⟨g, o', none⟩ := World.cell?_setCell_other _ _ _ _ (by simp only [ne_eq, Addr.mk.injEq, not_and]; intro _ k; exact absurd k.symm h)
theorem C8.set0 {W : World} {g : Nat} {a0 a1 a2 a3 a4 a5 a6 a7 : Value} (h : C8 W g a0 a1 a2 a3 a4 a5 a6 a7) (v : Value) : C8 (W.setCell ⟨g, 0, none⟩ v) g v a1 a2 a3 a4 a5 a6 a7 := ⟨World.cell?_setCell_same _ _ _ h.c0, (cell_x v (by decide)).trans h.c1, (cell_x v (by decide)).trans h.c2, (cell_x v (by decide)).trans h.c3, (cell_x v (by decide)).trans h.c4, (cell_x v (by decide)).trans h.c5, (cell_x v (by decide)).trans h.c6, (cell_x v (by decide)).trans h.c7⟩
theorem C8.set3 {W : World} {g : Nat} {a0 a1 a2 a3 a4 a5 a6 a7 : Value} (h : C8 W g a0 a1 a2 a3 a4 a5 a6 a7) (v : Value) : C8 (W.setCell ⟨g, 3, none⟩ v) g a0 a1 a2 v a4 a5 a6 a7 := ⟨(cell_x v (by decide)).trans h.c0, (cell_x v (by decide)).trans h.c1, (cell_x v (by decide)).trans h.c2, World.cell?_setCell_same _ _ _ h.c3, (cell_x v (by decide)).trans h.c4, (cell_x v (by decide)).trans h.c5, (cell_x v (by decide)).trans h.c6, (cell_x v (by decide)).trans h.c7⟩
theorem C8.set4 {W : World} {g : Nat} {a0 a1 a2 a3 a4 a5 a6 a7 : Value} (h : C8 W g a0 a1 a2 a3 a4 a5 a6 a7) (v : Value) : C8 (W.setCell ⟨g, 4, none⟩ v) g a0 a1 a2 a3 v a5 a6 a7 := ⟨(cell_x v (by decide)).trans h.c0, (cell_x v (by decide)).trans h.c1, (cell_x v (by decide)).trans h.c2, (cell_x v (by decide)).trans h.c3, World.cell?_setCell_same _ _ _ h.c4, (cell_x v (by decide)).trans h.c5, (cell_x v (by decide)).trans h.c6, (cell_x v (by decide)).trans h.c7⟩
theorem C8.set5 {W : World} {g : Nat} {a0 a1 a2 a3 a4 a5 a6 a7 : Value} (h : C8 W g a0 a1 a2 a3 a4 a5 a6 a7) (v : Value) : C8 (W.setCell ⟨g, 5, none⟩ v) g a0 a1 a2 a3 a4 v a6 a7 := ⟨(cell_x v (by decide)).trans h.c0, (cell_x v (by decide)).trans h.c1, (cell_x v (by decide)).trans h.c2, (cell_x v (by decide)).trans h.c3, (cell_x v (by decide)).trans h.c4, World.cell?_setCell_same _ _ _ h.c5, (cell_x v (by decide)).trans h.c6, (cell_x v (by decide)).trans h.c7⟩
theorem C8.set6 {W : World} {g : Nat} {a0 a1 a2 a3 a4 a5 a6 a7 : Value} (h : C8 W g a0 a1 a2 a3 a4 a5 a6 a7) (v : Value) : C8 (W.setCell ⟨g, 6, none⟩ v) g a0 a1 a2 a3 a4 a5 v a7 := ⟨(cell_x v (by decide)).trans h.c0, (cell_x v (by decide)).trans h.c1, (cell_x v (by decide)).trans h.c2, (cell_x v (by decide)).trans h.c3, (cell_x v (by decide)).trans h.c4, (cell_x v (by decide)).trans h.c5, World.cell?_setCell_same _ _ _ h.c6, (cell_x v (by decide)).trans h.c7⟩
theorem C8.set7 {W : World} {g : Nat} {a0 a1 a2 a3 a4 a5 a6 a7 : Value} (h : C8 W g a0 a1 a2 a3 a4 a5 a6 a7) (v : Value) : C8 (W.setCell ⟨g, 7, none⟩ v) g a0 a1 a2 a3 a4 a5 a6 v := ⟨(cell_x v (by decide)).trans h.c0, (cell_x v (by decide)).trans h.c1, (cell_x v (by decide)).trans h.c2, (cell_x v (by decide)).trans h.c3, (cell_x v (by decide)).trans h.c4, (cell_x v (by decide)).trans h.c5, (cell_x v (by decide)).trans h.c6, World.cell?_setCell_same _ _ _ h.c7⟩
section
variable {z d : Int} {x : ImR}
theorem bent_ok (hi : ImOk z d x.z x.wh x.l) : RecOk z d (RcR.d ⟨1, 3, 0, 0, 3, x⟩) := .inr (.inr ⟨⟨⟨by show (0 : Int) ≤ 3; decide, by show (3 : Int) ≤ 4294967295; decide⟩, ⟨by show (0 : Int) ≤ 0; decide, by show (0 : Int) ≤ 4294967295; decide⟩, by show (2 : Int) ≤ 3; decide, by show (3 : Int) ≤ 30; decide⟩, rfl, ⟨by show (0 : Int) ≤ 0; decide, by show (0 : Int) ≤ 3 - 2; decide⟩, hi⟩)
/-- What makes a record none. -/
theorem rec_none {r : Rcd} (h0 : r.kd = 0 → r.sq = 3) (h2 : r.kd = 2 → r.ps ≠ r.nm - 1) (h1 : r.kd = 1 → r.ps = 2 ∧ r.nm = 3 ∨ r.nm = 1 ∨ ¬ ImOk z d r.z r.wh r.l) : ¬ RecOk z d r := by
  rintro (⟨g0, g1, -⟩ | ⟨-, g0, g1, -⟩ | ⟨⟨-, -, g2⟩, g0, g1, g3⟩)
  · have := h0 g0; omega
  · exact h2 g0 g1
  · rcases h1 g0 with h | h | h
    · omega
    · omega
    · exact h g3
theorem im_zone (l : List UInt8) (wh : Int) : ¬ ImOk z d z wh l := fun h => by have := h.1; omega
theorem im_what (hd : 1 ≤ d ∧ d ≤ 4) (l : List UInt8) (zn : Int) : ¬ ImOk z d zn d l := by
  rintro ⟨-, ⟨h, -⟩ | ⟨-, h, -⟩⟩ <;> omega
theorem im_short {m : Nat} (hi : ImOk z d x.z x.wh x.l) (hn : x.l.length = m + 1) : ¬ ImOk z d x.z x.wh (x.l.take m) := by
  have hl : (x.l.take m).length = m := by rw [List.length_take]; omega
  rintro ⟨-, ⟨h, g⟩ | ⟨h, -, g⟩⟩
  · rcases hi.2 with ⟨-, k⟩ | ⟨k, -⟩
    · have := g.1; have := k.1; omega
    · exact k h
  · rcases hi.2 with ⟨k, -⟩ | ⟨-, -, k⟩
    · exact h k
    · omega
end
set_option maxRecDepth 100000 in
set_option maxHeartbeats 8000000 in
theorem bent_long (n : Nat) (z d s l a how : Int) (x : ImR) (w : World) (h200 : (200 : Int) < (n : Int)) :
    Calls Try.prog 7 #[.agg #[.int .i64 z, .int .i64 d, .int .i64 s, .int .i64 l, .int .i64 a], .agg #[.int .i64 x.z, .int .i64 x.wh, .slice x.A n x.c], .int .i64 how] w fun e w' => e = .returned (.bool true) ∧ Below w.heap.size w w' := by
  have s1 : (w.alloc (.cells #[.int .i64 z, .int .i64 d, .int .i64 s, .int .i64 l, .int .i64 a] 23)).heap.size = w.heap.size + 1 := by simp
  have hx2 := bl (w.alloc (.cells #[.int .i64 z, .int .i64 d, .int .i64 s, .int .i64 l, .int .i64 a] 23)) (.cells #[.int .i64 x.z, .int .i64 x.wh, .slice x.A n x.c] 26)
  have GG := (g5_new w z d s l a).keep hx2 (by omega)
  have XX := c3_new (w.alloc (.cells #[.int .i64 z, .int .i64 d, .int .i64 s, .int .i64 l, .int .i64 a] 23)) (.int .i64 x.z) (.int .i64 x.wh) (.slice x.A n x.c) 26
  rw [s1] at XX
  have hw := kal (bl w (.cells #[.int .i64 z, .int .i64 d, .int .i64 s, .int .i64 l, .int .i64 a] 23)) (.cells #[.int .i64 x.z, .int .i64 x.wh, .slice x.A n x.c] 26)
  have l2 : ((w.alloc (.cells #[.int .i64 z, .int .i64 d, .int .i64 s, .int .i64 l, .int .i64 a] 23)).alloc (.cells #[.int .i64 x.z, .int .i64 x.wh, .slice x.A n x.c] 26)).heap.size = w.heap.size + 2 := by simp
  clear s1 hx2
  go_enter Try.func7, Try.ntmps7
  go_upto_region 1 with fail
  generalize ((w.alloc (.cells #[.int .i64 z, .int .i64 d, .int .i64 s, .int .i64 l, .int .i64 a] 23)).alloc (.cells #[.int .i64 x.z, .int .i64 x.wh, .slice x.A n x.c] 26)) = w0 at *
  obtain ⟨g0, g1, g2, g3, g4⟩ := id GG
  obtain ⟨x0, x1, x2⟩ := id XX
  go_wp2_with fail
  go_ret
  exact ⟨rfl, hw⟩
set_option maxRecDepth 100000 in
set_option maxHeartbeats 8000000 in
theorem bent_geo (n : Nat) (z d s l a how : Int) (x : ImR) (w : World) (h200 : ¬ (200 : Int) < (n : Int)) (cG : ∀ W, Below w.heap.size w W → Calls Try.prog 16 #[.agg #[.int .i64 z, .int .i64 d, .int .i64 s, .int .i64 l, .int .i64 a]] W fun e w' => e = .returned (.bool false) ∧ Below W.heap.size W w') :
    Calls Try.prog 7 #[.agg #[.int .i64 z, .int .i64 d, .int .i64 s, .int .i64 l, .int .i64 a], .agg #[.int .i64 x.z, .int .i64 x.wh, .slice x.A n x.c], .int .i64 how] w fun e w' => e = .returned (.bool true) ∧ Below w.heap.size w w' := by
  have HG := Lib.hid cG
  clear cG
  have s1 : (w.alloc (.cells #[.int .i64 z, .int .i64 d, .int .i64 s, .int .i64 l, .int .i64 a] 23)).heap.size = w.heap.size + 1 := by simp
  have hx2 := bl (w.alloc (.cells #[.int .i64 z, .int .i64 d, .int .i64 s, .int .i64 l, .int .i64 a] 23)) (.cells #[.int .i64 x.z, .int .i64 x.wh, .slice x.A n x.c] 26)
  have GG := (g5_new w z d s l a).keep hx2 (by omega)
  have XX := c3_new (w.alloc (.cells #[.int .i64 z, .int .i64 d, .int .i64 s, .int .i64 l, .int .i64 a] 23)) (.int .i64 x.z) (.int .i64 x.wh) (.slice x.A n x.c) 26
  rw [s1] at XX
  have hw := kal (bl w (.cells #[.int .i64 z, .int .i64 d, .int .i64 s, .int .i64 l, .int .i64 a] 23)) (.cells #[.int .i64 x.z, .int .i64 x.wh, .slice x.A n x.c] 26)
  have l2 : ((w.alloc (.cells #[.int .i64 z, .int .i64 d, .int .i64 s, .int .i64 l, .int .i64 a] 23)).alloc (.cells #[.int .i64 x.z, .int .i64 x.wh, .slice x.A n x.c] 26)).heap.size = w.heap.size + 2 := by simp
  clear s1 hx2
  go_enter Try.func7, Try.ntmps7
  go_upto_region 1 with fail
  generalize ((w.alloc (.cells #[.int .i64 z, .int .i64 d, .int .i64 s, .int .i64 l, .int .i64 a] 23)).alloc (.cells #[.int .i64 x.z, .int .i64 x.wh, .slice x.A n x.c] 26)) = w0 at *
  obtain ⟨g0, g1, g2, g3, g4⟩ := id GG
  obtain ⟨x0, x1, x2⟩ := id XX
  go_wp2_with (go_at_call 16; (with_reducible refine (HG.out _ hw).mono ?_); rintro e w1 ⟨rfl, hb1⟩)
  go_ret
  exact ⟨rfl, bt hw hb1⟩
set_option maxRecDepth 100000 in
set_option maxHeartbeats 8000000 in
theorem bent_out (b : Bool) (n : Nat) (z d s l a how : Int) (x : ImR) (w : World) (cG : ∀ W, Below w.heap.size w W → Calls Try.prog 16 #[.agg #[.int .i64 z, .int .i64 d, .int .i64 s, .int .i64 l, .int .i64 a]] W fun e w' => e = .returned (.bool b) ∧ Below W.heap.size W w') (cI : ∀ W, Below w.heap.size w W → Calls Try.prog 22 #[.agg #[.int .i64 z, .int .i64 d, .int .i64 s, .int .i64 l, .int .i64 a], .agg #[.int .i64 x.z, .int .i64 x.wh, .slice x.A n x.c]] W fun e w' => e = .returned (.bool false) ∧ Below W.heap.size W w') :
    Calls Try.prog 7 #[.agg #[.int .i64 z, .int .i64 d, .int .i64 s, .int .i64 l, .int .i64 a], .agg #[.int .i64 x.z, .int .i64 x.wh, .slice x.A n x.c], .int .i64 how] w fun e w' => e = .returned (.bool true) ∧ Below w.heap.size w w' := by
  by_cases h200 : (200 : Int) < (n : Int)
  · exact bent_long n z d s l a how x w h200
  cases b
  · exact bent_geo n z d s l a how x w h200 cG
  have HG := Lib.hid cG
  have HI := Lib.hid cI
  clear cG cI
  have s1 : (w.alloc (.cells #[.int .i64 z, .int .i64 d, .int .i64 s, .int .i64 l, .int .i64 a] 23)).heap.size = w.heap.size + 1 := by simp
  have hx2 := bl (w.alloc (.cells #[.int .i64 z, .int .i64 d, .int .i64 s, .int .i64 l, .int .i64 a] 23)) (.cells #[.int .i64 x.z, .int .i64 x.wh, .slice x.A n x.c] 26)
  have GG := (g5_new w z d s l a).keep hx2 (by omega)
  have XX := c3_new (w.alloc (.cells #[.int .i64 z, .int .i64 d, .int .i64 s, .int .i64 l, .int .i64 a] 23)) (.int .i64 x.z) (.int .i64 x.wh) (.slice x.A n x.c) 26
  rw [s1] at XX
  have hw := kal (bl w (.cells #[.int .i64 z, .int .i64 d, .int .i64 s, .int .i64 l, .int .i64 a] 23)) (.cells #[.int .i64 x.z, .int .i64 x.wh, .slice x.A n x.c] 26)
  have l2 : ((w.alloc (.cells #[.int .i64 z, .int .i64 d, .int .i64 s, .int .i64 l, .int .i64 a] 23)).alloc (.cells #[.int .i64 x.z, .int .i64 x.wh, .slice x.A n x.c] 26)).heap.size = w.heap.size + 2 := by simp
  clear s1 hx2
  go_enter Try.func7, Try.ntmps7
  go_upto_region 1 with fail
  generalize ((w.alloc (.cells #[.int .i64 z, .int .i64 d, .int .i64 s, .int .i64 l, .int .i64 a] 23)).alloc (.cells #[.int .i64 x.z, .int .i64 x.wh, .slice x.A n x.c] 26)) = w0 at *
  obtain ⟨g0, g1, g2, g3, g4⟩ := id GG
  obtain ⟨x0, x1, x2⟩ := id XX
  go_wp2_with (first
    | (go_at_call 16; (with_reducible refine (HG.out _ hw).mono ?_); rintro e w1 ⟨rfl, hb1⟩; replace g0 := kst hb1 (by omega) g0; replace g1 := kst hb1 (by omega) g1; replace g2 := kst hb1 (by omega) g2; replace g3 := kst hb1 (by omega) g3; replace g4 := kst hb1 (by omega) g4; replace x0 := kst hb1 (by omega) x0; replace x1 := kst hb1 (by omega) x1; replace x2 := kst hb1 (by omega) x2)
    | (go_at_call 22; (with_reducible refine (HI.out _ (bt hw hb1)).mono ?_); rintro e w2 ⟨rfl, hb2⟩))
  go_ret
  exact ⟨rfl, bt (bt hw hb1) hb2⟩
set_option maxRecDepth 100000 in
set_option maxHeartbeats 8000000 in
theorem bent_main (k m : Nat) (z d s l a how : Int) (x : ImR) (w : World) (hc : Crd w) (ho : Ok z d s l a) (hx : BIn w w.heap.size x) (hn : x.l.length = m + 1) (hm : m + 1 ≤ 200) (hi : ImOk z d x.z x.wh x.l) (hk : (IntKind.u64.wrap how).tmod 8 = (k : Int)) (hk8 : k < 8) :
    Calls Try.prog 7 #[.agg #[.int .i64 z, .int .i64 d, .int .i64 s, .int .i64 l, .int .i64 a], .agg #[.int .i64 x.z, .int .i64 x.wh, .slice x.A (m + 1 : Nat) x.c], .int .i64 how] w fun e w' => e = .returned (.bool true) ∧ Below w.heap.size w w' := by
  have hd := ho.2.1
  have HC := Lib.hid hc
  have HO := Lib.hid ho
  have HI := Lib.hid hi
  have HN := Lib.hid hn
  have HGO := Lib.hid fun W => gmt.rgeo_at true z d s l a W (iff_of_true rfl ho)
  have s1 : (w.alloc (.cells #[.int .i64 z, .int .i64 d, .int .i64 s, .int .i64 l, .int .i64 a] 23)).heap.size = w.heap.size + 1 := by simp
  have hx2 := bl (w.alloc (.cells #[.int .i64 z, .int .i64 d, .int .i64 s, .int .i64 l, .int .i64 a] 23)) (.cells #[.int .i64 x.z, .int .i64 x.wh, .slice x.A (m + 1 : Nat) x.c] 26)
  have GG := (g5_new w z d s l a).keep hx2 (by omega)
  have XX := c3_new (w.alloc (.cells #[.int .i64 z, .int .i64 d, .int .i64 s, .int .i64 l, .int .i64 a] 23)) (.int .i64 x.z) (.int .i64 x.wh) (.slice x.A (m + 1 : Nat) x.c) 26
  rw [s1] at XX
  have hw := kal (bl w (.cells #[.int .i64 z, .int .i64 d, .int .i64 s, .int .i64 l, .int .i64 a] 23)) (.cells #[.int .i64 x.z, .int .i64 x.wh, .slice x.A (m + 1 : Nat) x.c] 26)
  have l2 : ((w.alloc (.cells #[.int .i64 z, .int .i64 d, .int .i64 s, .int .i64 l, .int .i64 a] 23)).alloc (.cells #[.int .i64 x.z, .int .i64 x.wh, .slice x.A (m + 1 : Nat) x.c] 26)).heap.size = w.heap.size + 2 := by simp
  have HX := Lib.hid hx
  have hcap := hx.2
  rw [hn] at hcap
  obtain ⟨bX, oX, hXA, -, -⟩ := id (hx.1 (by omega))
  have HXA := Lib.hid hXA
  clear hXA
  have i200 : ¬ (200 : Int) < ((m + 1 : Nat) : Int) := by omega
  clear hc ho hx hi s1 hx2
  go_enter Try.func7, Try.ntmps7
  go_upto_region 1 with fail
  generalize ((w.alloc (.cells #[.int .i64 z, .int .i64 d, .int .i64 s, .int .i64 l, .int .i64 a] 23)).alloc (.cells #[.int .i64 x.z, .int .i64 x.wh, .slice x.A (m + 1 : Nat) x.c] 26)) = w0 at *
  obtain ⟨g0, g1, g2, g3, g4⟩ := id GG
  obtain ⟨x0, x1, x2⟩ := id XX
  have HIM := Lib.hid (show ∀ W, Below w.heap.size w W → Calls Try.prog 22 #[.agg #[.int .i64 z, .int .i64 d, .int .i64 s, .int .i64 l, .int .i64 a], .agg #[.int .i64 x.z, .int .i64 x.wh, .slice x.A (m + 1 : Nat) x.c]] W fun e w' => e = .returned (.bool true) ∧ Below W.heap.size W w' from fun W hW => rimage_c true z d s l a x (m + 1) W HO.out (HX.out.next hW) HN.out (iff_of_true rfl HI.out))
  go_upto_region 3 with (first
    | (go_at_call 16; (with_reducible refine (HGO.out _).mono ?_); rintro e w1 ⟨rfl, hb1⟩; have hw1 := bt hw hb1; have GG1 := GG.keep hb1 (by omega); have XX1 := XX.keep hb1 (by omega); clear g0 g1 g2 g3 g4 x0 x1 x2; obtain ⟨g0, g1, g2, g3, g4⟩ := id GG1; obtain ⟨x0, x1, x2⟩ := id XX1; have lw1 := hb1.size)
    | (go_at_call 22; (with_reducible refine (HIM.out _ hw1).mono ?_); rintro e w2 ⟨rfl, hb2⟩; have hw2 := bt hw1 hb2; have GG2 := GG1.keep hb2 (by omega); have XX2 := XX1.keep hb2 (by omega); have lw2 := hb2.size))
  clear g0 g1 g2 g3 g4 x0 x1 x2 hb1 hb2 GG XX GG1 XX1 hw hw1 HIM HGO
  obtain ⟨g0, g1, g2, g3, g4⟩ := id GG2
  obtain ⟨x0, x1, x2⟩ := id XX2
  have b3 := bl w2 (.cells #[.int .i64 1, .int .i64 3, .int .i64 0, .int .i64 0, .int .i64 3, .int .i64 x.z, .int .i64 x.wh, .slice x.A (m + 1 : Nat) x.c] 28)
  have b4 := kal b3 (.cells #[.int .i64 1, .int .i64 3, .int .i64 0, .int .i64 0, .int .i64 3, .int .i64 x.z, .int .i64 x.wh, .slice x.A (m + 1 : Nat) x.c] 28)
  have s3 : (w2.alloc (.cells #[.int .i64 1, .int .i64 3, .int .i64 0, .int .i64 0, .int .i64 3, .int .i64 x.z, .int .i64 x.wh, .slice x.A (m + 1 : Nat) x.c] 28)).heap.size = w2.heap.size + 1 := by simp
  have s4 : ((w2.alloc (.cells #[.int .i64 1, .int .i64 3, .int .i64 0, .int .i64 0, .int .i64 3, .int .i64 x.z, .int .i64 x.wh, .slice x.A (m + 1 : Nat) x.c] 28)).alloc (.cells #[.int .i64 1, .int .i64 3, .int .i64 0, .int .i64 0, .int .i64 3, .int .i64 x.z, .int .i64 x.wh, .slice x.A (m + 1 : Nat) x.c] 28)).heap.size = w2.heap.size + 2 := by simp
  have R3 := c8_new w2 (.int .i64 1) (.int .i64 3) (.int .i64 0) (.int .i64 0) (.int .i64 3) (.int .i64 x.z) (.int .i64 x.wh) (.slice x.A (m + 1 : Nat) x.c) 28
  have R4 := R3.keep (bl (w2.alloc (.cells #[.int .i64 1, .int .i64 3, .int .i64 0, .int .i64 0, .int .i64 3, .int .i64 x.z, .int .i64 x.wh, .slice x.A (m + 1 : Nat) x.c] 28)) (.cells #[.int .i64 1, .int .i64 3, .int .i64 0, .int .i64 0, .int .i64 3, .int .i64 x.z, .int .i64 x.wh, .slice x.A (m + 1 : Nat) x.c] 28)) (by omega)
  have Q4 := f8_new (w2.alloc (.cells #[.int .i64 1, .int .i64 3, .int .i64 0, .int .i64 0, .int .i64 3, .int .i64 x.z, .int .i64 x.wh, .slice x.A (m + 1 : Nat) x.c] 28)) (.int .i64 1) (.int .i64 3) (.int .i64 0) (.int .i64 0) (.int .i64 3) (.int .i64 x.z) (.int .i64 x.wh) (.slice x.A (m + 1 : Nat) x.c) 28
  rw [s3] at Q4
  have GG4 := GG2.keep b4 (by omega)
  have XX4 := XX2.keep b4 (by omega)
  have hw4 := bt hw2 b4
  obtain ⟨r0, r1, r2, r3, r4, r5, r6, r7⟩ := id R3
  go_upto_region 5 with fail
  clear g0 g1 g2 g3 g4 x0 x1 x2 r0 r1 r2 r3 r4 r5 r6 r7 R3 b3 b4 hw2 GG2 XX2 s3
  generalize ((w2.alloc (.cells #[.int .i64 1, .int .i64 3, .int .i64 0, .int .i64 0, .int .i64 3, .int .i64 x.z, .int .i64 x.wh, .slice x.A (m + 1 : Nat) x.c] 28)).alloc (.cells #[.int .i64 1, .int .i64 3, .int .i64 0, .int .i64 0, .int .i64 3, .int .i64 x.z, .int .i64 x.wh, .slice x.A (m + 1 : Nat) x.c] 28)) = w4 at *
  have hk9 : k = 0 ∨ k = 1 ∨ k = 2 ∨ k = 3 ∨ k = 4 ∨ k = 5 ∨ k = 6 ∨ k = 7 := by omega
  clear hk8
  rcases hk9 with rfl | rfl | rfl | rfl | rfl | rfl | rfl | rfl
  · have q0 := Q4.c.c0
    have fq := Q4.f 0
    have xk : (IntKind.u64.wrap how).tmod 8 = 0 := hk
    obtain ⟨g0, g1, g2, g3, g4⟩ := id GG4
    obtain ⟨x0, x1, x2⟩ := id XX4
    have NO := Lib.hid (rec_none (z := z) (d := d) (r := RcR.d ⟨2, 3, 0, 0, 3, ⟨x.z, x.wh, x.A, x.c, x.l⟩⟩) (fun _ => rfl) (fun _ => by show (0 : Int) ≠ 3 - 1; decide) (fun h => absurd (show (2 : Int) = 1 from h) (by decide)))
    go_upto_region 21 with fail
    have Q5 := Q4.c.set0 (.int .i64 2)
    have R5 := R4.apart (g' := w2.heap.size + 1) (o := 0) (by omega) (.int .i64 2)
    have GG5 := GG4.set (g' := w2.heap.size + 1) (o := 0) (by omega) (.int .i64 2)
    have hw5 := hw4.setCell (p := ⟨w2.heap.size + 1, 0, none⟩) (show w.heap.size ≤ w2.heap.size + 1 by omega) (.int .i64 2)
    have s5 : (w4.setCell ⟨w2.heap.size + 1, 0, none⟩ (.int .i64 2)).heap.size = w4.heap.size := by simp
    clear q0 fq g0 g1 g2 g3 g4 x0 x1 x2 Q4 R4 GG4 XX4 hw4
    generalize (w4.setCell ⟨w2.heap.size + 1, 0, none⟩ (.int .i64 2)) = w5 at *
    obtain ⟨g0, g1, g2, g3, g4⟩ := id GG5
    obtain ⟨r0, r1, r2, r3, r4, r5, r6, r7⟩ := id R5
    obtain ⟨q0, q1, q2, q3, q4, q5, q6, q7⟩ := id Q5
    have HX7 := Lib.hid (show BIn w5 w5.heap.size x from HX.out.next hw5)
    have HBY := Lib.hid (show Calls Try.prog 11 #[.agg #[.int .i64 z, .int .i64 d, .int .i64 s, .int .i64 l, .int .i64 a], .agg #[.int .i64 2, .int .i64 3, .int .i64 0, .int .i64 0, .int .i64 3, .int .i64 x.z, .int .i64 x.wh, .slice x.A (m + 1 : Nat) x.c]] w5 fun e w' => tbl.NonE 1 e ∧ Below w5.heap.size w5 w' from HC.out.bytes_no z d s l a ⟨2, 3, 0, 0, 3, ⟨x.z, x.wh, x.A, x.c, x.l⟩⟩ (m + 1) w5 hw5 (fun h => NO.out h.2) (HX7.out) (HN.out) (by omega))
    have HC1 := Lib.hid (show ∀ W, Below w5.heap.size w5 W → Calls Try.prog 17 #[.agg #[.int .i64 z, .int .i64 d, .int .i64 s, .int .i64 l, .int .i64 a], .agg #[.int .i64 1, .int .i64 3, .int .i64 0, .int .i64 0, .int .i64 3, .int .i64 x.z, .int .i64 x.wh, .slice x.A (m + 1 : Nat) x.c]] W fun e w' => e = .returned (.int .i64 0) ∧ Below W.heap.size W w' from fun W hW => HC.out.check true z d s l a ⟨1, 3, 0, 0, 3, x⟩ (m + 1) W (bt hw5 hW) (HX7.out.next hW) HN.out (by omega) (iff_of_true rfl ⟨HO.out, bent_ok HI.out⟩))
    have HC2 := Lib.hid (show ∀ W, Below w5.heap.size w5 W → Calls Try.prog 17 #[.agg #[.int .i64 z, .int .i64 d, .int .i64 s, .int .i64 l, .int .i64 a], .agg #[.int .i64 2, .int .i64 3, .int .i64 0, .int .i64 0, .int .i64 3, .int .i64 x.z, .int .i64 x.wh, .slice x.A (m + 1 : Nat) x.c]] W fun e w' => e = .returned (.int .i64 1) ∧ Below W.heap.size W w' from fun W hW => HC.out.check false z d s l a ⟨2, 3, 0, 0, 3, ⟨x.z, x.wh, x.A, x.c, x.l⟩⟩ (m + 1) W (bt hw5 hW) (show BIn W W.heap.size (RcR.i ⟨2, 3, 0, 0, 3, ⟨x.z, x.wh, x.A, x.c, x.l⟩⟩) from (show BIn w5 w5.heap.size (RcR.i ⟨2, 3, 0, 0, 3, ⟨x.z, x.wh, x.A, x.c, x.l⟩⟩) from HX7.out).next hW) (HN.out) (by omega) (iff_of_false Bool.false_ne_true fun h => NO.out h.2))
    have HWK := Lib.hid (fun W (hW : Below w5.heap.size w5 W) => wk_rec W (HC.out.next (bt hw5 hW)))
    clear GG5 R5 Q5
    go_wp2_with (first
      | (go_at_call 11; (with_reducible refine HBY.out.mono ?_); rintro e w6 ⟨⟨Y, yc, rfl⟩, hb6⟩; replace g0 := kst hb6 (by omega) g0; replace g1 := kst hb6 (by omega) g1; replace g2 := kst hb6 (by omega) g2; replace g3 := kst hb6 (by omega) g3; replace g4 := kst hb6 (by omega) g4; replace r0 := kst hb6 (by omega) r0; replace r1 := kst hb6 (by omega) r1; replace r2 := kst hb6 (by omega) r2; replace r3 := kst hb6 (by omega) r3; replace r4 := kst hb6 (by omega) r4; replace r5 := kst hb6 (by omega) r5; replace r6 := kst hb6 (by omega) r6; replace r7 := kst hb6 (by omega) r7; replace q0 := kst hb6 (by omega) q0; replace q1 := kst hb6 (by omega) q1; replace q2 := kst hb6 (by omega) q2; replace q3 := kst hb6 (by omega) q3; replace q4 := kst hb6 (by omega) q4; replace q5 := kst hb6 (by omega) q5; replace q6 := kst hb6 (by omega) q6; replace q7 := kst hb6 (by omega) q7)
      | (go_at_call 17; (with_reducible refine (HC1.out _ hb6).mono ?_); rintro e w7 ⟨rfl, hb7'⟩; have hb7 := bt hb6 hb7'; replace g0 := ks hb7' (show _ < w6.heap.size by have := hb6.size; omega) g0; replace g1 := ks hb7' (show _ < w6.heap.size by have := hb6.size; omega) g1; replace g2 := ks hb7' (show _ < w6.heap.size by have := hb6.size; omega) g2; replace g3 := ks hb7' (show _ < w6.heap.size by have := hb6.size; omega) g3; replace g4 := ks hb7' (show _ < w6.heap.size by have := hb6.size; omega) g4; replace r0 := ks hb7' (show _ < w6.heap.size by have := hb6.size; omega) r0; replace r1 := ks hb7' (show _ < w6.heap.size by have := hb6.size; omega) r1; replace r2 := ks hb7' (show _ < w6.heap.size by have := hb6.size; omega) r2; replace r3 := ks hb7' (show _ < w6.heap.size by have := hb6.size; omega) r3; replace r4 := ks hb7' (show _ < w6.heap.size by have := hb6.size; omega) r4; replace r5 := ks hb7' (show _ < w6.heap.size by have := hb6.size; omega) r5; replace r6 := ks hb7' (show _ < w6.heap.size by have := hb6.size; omega) r6; replace r7 := ks hb7' (show _ < w6.heap.size by have := hb6.size; omega) r7; replace q0 := ks hb7' (show _ < w6.heap.size by have := hb6.size; omega) q0; replace q1 := ks hb7' (show _ < w6.heap.size by have := hb6.size; omega) q1; replace q2 := ks hb7' (show _ < w6.heap.size by have := hb6.size; omega) q2; replace q3 := ks hb7' (show _ < w6.heap.size by have := hb6.size; omega) q3; replace q4 := ks hb7' (show _ < w6.heap.size by have := hb6.size; omega) q4; replace q5 := ks hb7' (show _ < w6.heap.size by have := hb6.size; omega) q5; replace q6 := ks hb7' (show _ < w6.heap.size by have := hb6.size; omega) q6; replace q7 := ks hb7' (show _ < w6.heap.size by have := hb6.size; omega) q7) 
      | (go_at_call 17; (with_reducible refine (HC2.out _ hb7).mono ?_); rintro e w8 ⟨rfl, hb8'⟩; have hb8 := bt hb7 hb8')
      | (go_at_call 20; (with_reducible refine (HWK.out _ hb8).mono ?_); rintro e w9 ⟨rfl, hb9⟩))
    go_ret
    exact ⟨rfl, bt hw5 (bt hb8 hb9)⟩
  · have q3 := Q4.c.c3
    have fq := Q4.f 3
    have xk : (IntKind.u64.wrap how).tmod 8 = 1 := hk
    obtain ⟨g0, g1, g2, g3, g4⟩ := id GG4
    obtain ⟨x0, x1, x2⟩ := id XX4
    have NO := Lib.hid (rec_none (z := z) (d := d) (r := RcR.d ⟨1, 3, 0, 2, 3, ⟨x.z, x.wh, x.A, x.c, x.l⟩⟩) (fun _ => rfl) (fun h => absurd (show (1 : Int) = 2 from h) (by decide)) (fun _ => .inl ⟨rfl, rfl⟩))
    go_upto_region 21 with fail
    have Q5 := Q4.c.set3 (.int .i64 2)
    have R5 := R4.apart (g' := w2.heap.size + 1) (o := 3) (by omega) (.int .i64 2)
    have GG5 := GG4.set (g' := w2.heap.size + 1) (o := 3) (by omega) (.int .i64 2)
    have hw5 := hw4.setCell (p := ⟨w2.heap.size + 1, 3, none⟩) (show w.heap.size ≤ w2.heap.size + 1 by omega) (.int .i64 2)
    have s5 : (w4.setCell ⟨w2.heap.size + 1, 3, none⟩ (.int .i64 2)).heap.size = w4.heap.size := by simp
    clear q3 fq g0 g1 g2 g3 g4 x0 x1 x2 Q4 R4 GG4 XX4 hw4
    generalize (w4.setCell ⟨w2.heap.size + 1, 3, none⟩ (.int .i64 2)) = w5 at *
    obtain ⟨g0, g1, g2, g3, g4⟩ := id GG5
    obtain ⟨r0, r1, r2, r3, r4, r5, r6, r7⟩ := id R5
    obtain ⟨q0, q1, q2, q3, q4, q5, q6, q7⟩ := id Q5
    have HX7 := Lib.hid (show BIn w5 w5.heap.size x from HX.out.next hw5)
    have HBY := Lib.hid (show Calls Try.prog 11 #[.agg #[.int .i64 z, .int .i64 d, .int .i64 s, .int .i64 l, .int .i64 a], .agg #[.int .i64 1, .int .i64 3, .int .i64 0, .int .i64 2, .int .i64 3, .int .i64 x.z, .int .i64 x.wh, .slice x.A (m + 1 : Nat) x.c]] w5 fun e w' => tbl.NonE 1 e ∧ Below w5.heap.size w5 w' from HC.out.bytes_no z d s l a ⟨1, 3, 0, 2, 3, ⟨x.z, x.wh, x.A, x.c, x.l⟩⟩ (m + 1) w5 hw5 (fun h => NO.out h.2) (HX7.out) (HN.out) (by omega))
    have HC1 := Lib.hid (show ∀ W, Below w5.heap.size w5 W → Calls Try.prog 17 #[.agg #[.int .i64 z, .int .i64 d, .int .i64 s, .int .i64 l, .int .i64 a], .agg #[.int .i64 1, .int .i64 3, .int .i64 0, .int .i64 0, .int .i64 3, .int .i64 x.z, .int .i64 x.wh, .slice x.A (m + 1 : Nat) x.c]] W fun e w' => e = .returned (.int .i64 0) ∧ Below W.heap.size W w' from fun W hW => HC.out.check true z d s l a ⟨1, 3, 0, 0, 3, x⟩ (m + 1) W (bt hw5 hW) (HX7.out.next hW) HN.out (by omega) (iff_of_true rfl ⟨HO.out, bent_ok HI.out⟩))
    have HC2 := Lib.hid (show ∀ W, Below w5.heap.size w5 W → Calls Try.prog 17 #[.agg #[.int .i64 z, .int .i64 d, .int .i64 s, .int .i64 l, .int .i64 a], .agg #[.int .i64 1, .int .i64 3, .int .i64 0, .int .i64 2, .int .i64 3, .int .i64 x.z, .int .i64 x.wh, .slice x.A (m + 1 : Nat) x.c]] W fun e w' => e = .returned (.int .i64 1) ∧ Below W.heap.size W w' from fun W hW => HC.out.check false z d s l a ⟨1, 3, 0, 2, 3, ⟨x.z, x.wh, x.A, x.c, x.l⟩⟩ (m + 1) W (bt hw5 hW) (show BIn W W.heap.size (RcR.i ⟨1, 3, 0, 2, 3, ⟨x.z, x.wh, x.A, x.c, x.l⟩⟩) from (show BIn w5 w5.heap.size (RcR.i ⟨1, 3, 0, 2, 3, ⟨x.z, x.wh, x.A, x.c, x.l⟩⟩) from HX7.out).next hW) (HN.out) (by omega) (iff_of_false Bool.false_ne_true fun h => NO.out h.2))
    have HWK := Lib.hid (fun W (hW : Below w5.heap.size w5 W) => wk_rec W (HC.out.next (bt hw5 hW)))
    clear GG5 R5 Q5
    go_wp2_with (first
      | (go_at_call 11; (with_reducible refine HBY.out.mono ?_); rintro e w6 ⟨⟨Y, yc, rfl⟩, hb6⟩; replace g0 := kst hb6 (by omega) g0; replace g1 := kst hb6 (by omega) g1; replace g2 := kst hb6 (by omega) g2; replace g3 := kst hb6 (by omega) g3; replace g4 := kst hb6 (by omega) g4; replace r0 := kst hb6 (by omega) r0; replace r1 := kst hb6 (by omega) r1; replace r2 := kst hb6 (by omega) r2; replace r3 := kst hb6 (by omega) r3; replace r4 := kst hb6 (by omega) r4; replace r5 := kst hb6 (by omega) r5; replace r6 := kst hb6 (by omega) r6; replace r7 := kst hb6 (by omega) r7; replace q0 := kst hb6 (by omega) q0; replace q1 := kst hb6 (by omega) q1; replace q2 := kst hb6 (by omega) q2; replace q3 := kst hb6 (by omega) q3; replace q4 := kst hb6 (by omega) q4; replace q5 := kst hb6 (by omega) q5; replace q6 := kst hb6 (by omega) q6; replace q7 := kst hb6 (by omega) q7)
      | (go_at_call 17; (with_reducible refine (HC1.out _ hb6).mono ?_); rintro e w7 ⟨rfl, hb7'⟩; have hb7 := bt hb6 hb7'; replace g0 := ks hb7' (show _ < w6.heap.size by have := hb6.size; omega) g0; replace g1 := ks hb7' (show _ < w6.heap.size by have := hb6.size; omega) g1; replace g2 := ks hb7' (show _ < w6.heap.size by have := hb6.size; omega) g2; replace g3 := ks hb7' (show _ < w6.heap.size by have := hb6.size; omega) g3; replace g4 := ks hb7' (show _ < w6.heap.size by have := hb6.size; omega) g4; replace r0 := ks hb7' (show _ < w6.heap.size by have := hb6.size; omega) r0; replace r1 := ks hb7' (show _ < w6.heap.size by have := hb6.size; omega) r1; replace r2 := ks hb7' (show _ < w6.heap.size by have := hb6.size; omega) r2; replace r3 := ks hb7' (show _ < w6.heap.size by have := hb6.size; omega) r3; replace r4 := ks hb7' (show _ < w6.heap.size by have := hb6.size; omega) r4; replace r5 := ks hb7' (show _ < w6.heap.size by have := hb6.size; omega) r5; replace r6 := ks hb7' (show _ < w6.heap.size by have := hb6.size; omega) r6; replace r7 := ks hb7' (show _ < w6.heap.size by have := hb6.size; omega) r7; replace q0 := ks hb7' (show _ < w6.heap.size by have := hb6.size; omega) q0; replace q1 := ks hb7' (show _ < w6.heap.size by have := hb6.size; omega) q1; replace q2 := ks hb7' (show _ < w6.heap.size by have := hb6.size; omega) q2; replace q3 := ks hb7' (show _ < w6.heap.size by have := hb6.size; omega) q3; replace q4 := ks hb7' (show _ < w6.heap.size by have := hb6.size; omega) q4; replace q5 := ks hb7' (show _ < w6.heap.size by have := hb6.size; omega) q5; replace q6 := ks hb7' (show _ < w6.heap.size by have := hb6.size; omega) q6; replace q7 := ks hb7' (show _ < w6.heap.size by have := hb6.size; omega) q7) 
      | (go_at_call 17; (with_reducible refine (HC2.out _ hb7).mono ?_); rintro e w8 ⟨rfl, hb8'⟩; have hb8 := bt hb7 hb8')
      | (go_at_call 20; (with_reducible refine (HWK.out _ hb8).mono ?_); rintro e w9 ⟨rfl, hb9⟩))
    go_ret
    exact ⟨rfl, bt hw5 (bt hb8 hb9)⟩
  · have q4 := Q4.c.c4
    have fq := Q4.f 4
    have xk : (IntKind.u64.wrap how).tmod 8 = 2 := hk
    obtain ⟨g0, g1, g2, g3, g4⟩ := id GG4
    obtain ⟨x0, x1, x2⟩ := id XX4
    have NO := Lib.hid (rec_none (z := z) (d := d) (r := RcR.d ⟨1, 3, 0, 0, 1, ⟨x.z, x.wh, x.A, x.c, x.l⟩⟩) (fun _ => rfl) (fun h => absurd (show (1 : Int) = 2 from h) (by decide)) (fun _ => .inr (.inl rfl)))
    go_upto_region 21 with fail
    have Q5 := Q4.c.set4 (.int .i64 1)
    have R5 := R4.apart (g' := w2.heap.size + 1) (o := 4) (by omega) (.int .i64 1)
    have GG5 := GG4.set (g' := w2.heap.size + 1) (o := 4) (by omega) (.int .i64 1)
    have hw5 := hw4.setCell (p := ⟨w2.heap.size + 1, 4, none⟩) (show w.heap.size ≤ w2.heap.size + 1 by omega) (.int .i64 1)
    have s5 : (w4.setCell ⟨w2.heap.size + 1, 4, none⟩ (.int .i64 1)).heap.size = w4.heap.size := by simp
    clear q4 fq g0 g1 g2 g3 g4 x0 x1 x2 Q4 R4 GG4 XX4 hw4
    generalize (w4.setCell ⟨w2.heap.size + 1, 4, none⟩ (.int .i64 1)) = w5 at *
    obtain ⟨g0, g1, g2, g3, g4⟩ := id GG5
    obtain ⟨r0, r1, r2, r3, r4, r5, r6, r7⟩ := id R5
    obtain ⟨q0, q1, q2, q3, q4, q5, q6, q7⟩ := id Q5
    have HX7 := Lib.hid (show BIn w5 w5.heap.size x from HX.out.next hw5)
    have HBY := Lib.hid (show Calls Try.prog 11 #[.agg #[.int .i64 z, .int .i64 d, .int .i64 s, .int .i64 l, .int .i64 a], .agg #[.int .i64 1, .int .i64 3, .int .i64 0, .int .i64 0, .int .i64 1, .int .i64 x.z, .int .i64 x.wh, .slice x.A (m + 1 : Nat) x.c]] w5 fun e w' => tbl.NonE 1 e ∧ Below w5.heap.size w5 w' from HC.out.bytes_no z d s l a ⟨1, 3, 0, 0, 1, ⟨x.z, x.wh, x.A, x.c, x.l⟩⟩ (m + 1) w5 hw5 (fun h => NO.out h.2) (HX7.out) (HN.out) (by omega))
    have HC1 := Lib.hid (show ∀ W, Below w5.heap.size w5 W → Calls Try.prog 17 #[.agg #[.int .i64 z, .int .i64 d, .int .i64 s, .int .i64 l, .int .i64 a], .agg #[.int .i64 1, .int .i64 3, .int .i64 0, .int .i64 0, .int .i64 3, .int .i64 x.z, .int .i64 x.wh, .slice x.A (m + 1 : Nat) x.c]] W fun e w' => e = .returned (.int .i64 0) ∧ Below W.heap.size W w' from fun W hW => HC.out.check true z d s l a ⟨1, 3, 0, 0, 3, x⟩ (m + 1) W (bt hw5 hW) (HX7.out.next hW) HN.out (by omega) (iff_of_true rfl ⟨HO.out, bent_ok HI.out⟩))
    have HC2 := Lib.hid (show ∀ W, Below w5.heap.size w5 W → Calls Try.prog 17 #[.agg #[.int .i64 z, .int .i64 d, .int .i64 s, .int .i64 l, .int .i64 a], .agg #[.int .i64 1, .int .i64 3, .int .i64 0, .int .i64 0, .int .i64 1, .int .i64 x.z, .int .i64 x.wh, .slice x.A (m + 1 : Nat) x.c]] W fun e w' => e = .returned (.int .i64 1) ∧ Below W.heap.size W w' from fun W hW => HC.out.check false z d s l a ⟨1, 3, 0, 0, 1, ⟨x.z, x.wh, x.A, x.c, x.l⟩⟩ (m + 1) W (bt hw5 hW) (show BIn W W.heap.size (RcR.i ⟨1, 3, 0, 0, 1, ⟨x.z, x.wh, x.A, x.c, x.l⟩⟩) from (show BIn w5 w5.heap.size (RcR.i ⟨1, 3, 0, 0, 1, ⟨x.z, x.wh, x.A, x.c, x.l⟩⟩) from HX7.out).next hW) (HN.out) (by omega) (iff_of_false Bool.false_ne_true fun h => NO.out h.2))
    have HWK := Lib.hid (fun W (hW : Below w5.heap.size w5 W) => wk_rec W (HC.out.next (bt hw5 hW)))
    clear GG5 R5 Q5
    go_wp2_with (first
      | (go_at_call 11; (with_reducible refine HBY.out.mono ?_); rintro e w6 ⟨⟨Y, yc, rfl⟩, hb6⟩; replace g0 := kst hb6 (by omega) g0; replace g1 := kst hb6 (by omega) g1; replace g2 := kst hb6 (by omega) g2; replace g3 := kst hb6 (by omega) g3; replace g4 := kst hb6 (by omega) g4; replace r0 := kst hb6 (by omega) r0; replace r1 := kst hb6 (by omega) r1; replace r2 := kst hb6 (by omega) r2; replace r3 := kst hb6 (by omega) r3; replace r4 := kst hb6 (by omega) r4; replace r5 := kst hb6 (by omega) r5; replace r6 := kst hb6 (by omega) r6; replace r7 := kst hb6 (by omega) r7; replace q0 := kst hb6 (by omega) q0; replace q1 := kst hb6 (by omega) q1; replace q2 := kst hb6 (by omega) q2; replace q3 := kst hb6 (by omega) q3; replace q4 := kst hb6 (by omega) q4; replace q5 := kst hb6 (by omega) q5; replace q6 := kst hb6 (by omega) q6; replace q7 := kst hb6 (by omega) q7)
      | (go_at_call 17; (with_reducible refine (HC1.out _ hb6).mono ?_); rintro e w7 ⟨rfl, hb7'⟩; have hb7 := bt hb6 hb7'; replace g0 := ks hb7' (show _ < w6.heap.size by have := hb6.size; omega) g0; replace g1 := ks hb7' (show _ < w6.heap.size by have := hb6.size; omega) g1; replace g2 := ks hb7' (show _ < w6.heap.size by have := hb6.size; omega) g2; replace g3 := ks hb7' (show _ < w6.heap.size by have := hb6.size; omega) g3; replace g4 := ks hb7' (show _ < w6.heap.size by have := hb6.size; omega) g4; replace r0 := ks hb7' (show _ < w6.heap.size by have := hb6.size; omega) r0; replace r1 := ks hb7' (show _ < w6.heap.size by have := hb6.size; omega) r1; replace r2 := ks hb7' (show _ < w6.heap.size by have := hb6.size; omega) r2; replace r3 := ks hb7' (show _ < w6.heap.size by have := hb6.size; omega) r3; replace r4 := ks hb7' (show _ < w6.heap.size by have := hb6.size; omega) r4; replace r5 := ks hb7' (show _ < w6.heap.size by have := hb6.size; omega) r5; replace r6 := ks hb7' (show _ < w6.heap.size by have := hb6.size; omega) r6; replace r7 := ks hb7' (show _ < w6.heap.size by have := hb6.size; omega) r7; replace q0 := ks hb7' (show _ < w6.heap.size by have := hb6.size; omega) q0; replace q1 := ks hb7' (show _ < w6.heap.size by have := hb6.size; omega) q1; replace q2 := ks hb7' (show _ < w6.heap.size by have := hb6.size; omega) q2; replace q3 := ks hb7' (show _ < w6.heap.size by have := hb6.size; omega) q3; replace q4 := ks hb7' (show _ < w6.heap.size by have := hb6.size; omega) q4; replace q5 := ks hb7' (show _ < w6.heap.size by have := hb6.size; omega) q5; replace q6 := ks hb7' (show _ < w6.heap.size by have := hb6.size; omega) q6; replace q7 := ks hb7' (show _ < w6.heap.size by have := hb6.size; omega) q7) 
      | (go_at_call 17; (with_reducible refine (HC2.out _ hb7).mono ?_); rintro e w8 ⟨rfl, hb8'⟩; have hb8 := bt hb7 hb8')
      | (go_at_call 20; (with_reducible refine (HWK.out _ hb8).mono ?_); rintro e w9 ⟨rfl, hb9⟩))
    go_ret
    exact ⟨rfl, bt hw5 (bt hb8 hb9)⟩
  · have q5 := Q4.c.c5
    have fq := Q4.f 5
    have xk : (IntKind.u64.wrap how).tmod 8 = 3 := hk
    obtain ⟨g0, g1, g2, g3, g4⟩ := id GG4
    obtain ⟨x0, x1, x2⟩ := id XX4
    have NO := Lib.hid (rec_none (z := z) (d := d) (r := RcR.d ⟨1, 3, 0, 0, 3, ⟨z, x.wh, x.A, x.c, x.l⟩⟩) (fun _ => rfl) (fun h => absurd (show (1 : Int) = 2 from h) (by decide)) (fun _ => .inr (.inr (im_zone _ _))))
    go_upto_region 21 with fail
    have Q5 := Q4.c.set5 (.int .i64 z)
    have R5 := R4.apart (g' := w2.heap.size + 1) (o := 5) (by omega) (.int .i64 z)
    have GG5 := GG4.set (g' := w2.heap.size + 1) (o := 5) (by omega) (.int .i64 z)
    have hw5 := hw4.setCell (p := ⟨w2.heap.size + 1, 5, none⟩) (show w.heap.size ≤ w2.heap.size + 1 by omega) (.int .i64 z)
    have s5 : (w4.setCell ⟨w2.heap.size + 1, 5, none⟩ (.int .i64 z)).heap.size = w4.heap.size := by simp
    clear q5 fq g0 g1 g2 g3 g4 x0 x1 x2 Q4 R4 GG4 XX4 hw4
    generalize (w4.setCell ⟨w2.heap.size + 1, 5, none⟩ (.int .i64 z)) = w5 at *
    obtain ⟨g0, g1, g2, g3, g4⟩ := id GG5
    obtain ⟨r0, r1, r2, r3, r4, r5, r6, r7⟩ := id R5
    obtain ⟨q0, q1, q2, q3, q4, q5, q6, q7⟩ := id Q5
    have HX7 := Lib.hid (show BIn w5 w5.heap.size x from HX.out.next hw5)
    have HBY := Lib.hid (show Calls Try.prog 11 #[.agg #[.int .i64 z, .int .i64 d, .int .i64 s, .int .i64 l, .int .i64 a], .agg #[.int .i64 1, .int .i64 3, .int .i64 0, .int .i64 0, .int .i64 3, .int .i64 z, .int .i64 x.wh, .slice x.A (m + 1 : Nat) x.c]] w5 fun e w' => tbl.NonE 1 e ∧ Below w5.heap.size w5 w' from HC.out.bytes_no z d s l a ⟨1, 3, 0, 0, 3, ⟨z, x.wh, x.A, x.c, x.l⟩⟩ (m + 1) w5 hw5 (fun h => NO.out h.2) (HX7.out) (HN.out) (by omega))
    have HC1 := Lib.hid (show ∀ W, Below w5.heap.size w5 W → Calls Try.prog 17 #[.agg #[.int .i64 z, .int .i64 d, .int .i64 s, .int .i64 l, .int .i64 a], .agg #[.int .i64 1, .int .i64 3, .int .i64 0, .int .i64 0, .int .i64 3, .int .i64 x.z, .int .i64 x.wh, .slice x.A (m + 1 : Nat) x.c]] W fun e w' => e = .returned (.int .i64 0) ∧ Below W.heap.size W w' from fun W hW => HC.out.check true z d s l a ⟨1, 3, 0, 0, 3, x⟩ (m + 1) W (bt hw5 hW) (HX7.out.next hW) HN.out (by omega) (iff_of_true rfl ⟨HO.out, bent_ok HI.out⟩))
    have HC2 := Lib.hid (show ∀ W, Below w5.heap.size w5 W → Calls Try.prog 17 #[.agg #[.int .i64 z, .int .i64 d, .int .i64 s, .int .i64 l, .int .i64 a], .agg #[.int .i64 1, .int .i64 3, .int .i64 0, .int .i64 0, .int .i64 3, .int .i64 z, .int .i64 x.wh, .slice x.A (m + 1 : Nat) x.c]] W fun e w' => e = .returned (.int .i64 1) ∧ Below W.heap.size W w' from fun W hW => HC.out.check false z d s l a ⟨1, 3, 0, 0, 3, ⟨z, x.wh, x.A, x.c, x.l⟩⟩ (m + 1) W (bt hw5 hW) (show BIn W W.heap.size (RcR.i ⟨1, 3, 0, 0, 3, ⟨z, x.wh, x.A, x.c, x.l⟩⟩) from (show BIn w5 w5.heap.size (RcR.i ⟨1, 3, 0, 0, 3, ⟨z, x.wh, x.A, x.c, x.l⟩⟩) from HX7.out).next hW) (HN.out) (by omega) (iff_of_false Bool.false_ne_true fun h => NO.out h.2))
    have HWK := Lib.hid (fun W (hW : Below w5.heap.size w5 W) => wk_rec W (HC.out.next (bt hw5 hW)))
    clear GG5 R5 Q5
    go_wp2_with (first
      | (go_at_call 11; (with_reducible refine HBY.out.mono ?_); rintro e w6 ⟨⟨Y, yc, rfl⟩, hb6⟩; replace g0 := kst hb6 (by omega) g0; replace g1 := kst hb6 (by omega) g1; replace g2 := kst hb6 (by omega) g2; replace g3 := kst hb6 (by omega) g3; replace g4 := kst hb6 (by omega) g4; replace r0 := kst hb6 (by omega) r0; replace r1 := kst hb6 (by omega) r1; replace r2 := kst hb6 (by omega) r2; replace r3 := kst hb6 (by omega) r3; replace r4 := kst hb6 (by omega) r4; replace r5 := kst hb6 (by omega) r5; replace r6 := kst hb6 (by omega) r6; replace r7 := kst hb6 (by omega) r7; replace q0 := kst hb6 (by omega) q0; replace q1 := kst hb6 (by omega) q1; replace q2 := kst hb6 (by omega) q2; replace q3 := kst hb6 (by omega) q3; replace q4 := kst hb6 (by omega) q4; replace q5 := kst hb6 (by omega) q5; replace q6 := kst hb6 (by omega) q6; replace q7 := kst hb6 (by omega) q7)
      | (go_at_call 17; (with_reducible refine (HC1.out _ hb6).mono ?_); rintro e w7 ⟨rfl, hb7'⟩; have hb7 := bt hb6 hb7'; replace g0 := ks hb7' (show _ < w6.heap.size by have := hb6.size; omega) g0; replace g1 := ks hb7' (show _ < w6.heap.size by have := hb6.size; omega) g1; replace g2 := ks hb7' (show _ < w6.heap.size by have := hb6.size; omega) g2; replace g3 := ks hb7' (show _ < w6.heap.size by have := hb6.size; omega) g3; replace g4 := ks hb7' (show _ < w6.heap.size by have := hb6.size; omega) g4; replace r0 := ks hb7' (show _ < w6.heap.size by have := hb6.size; omega) r0; replace r1 := ks hb7' (show _ < w6.heap.size by have := hb6.size; omega) r1; replace r2 := ks hb7' (show _ < w6.heap.size by have := hb6.size; omega) r2; replace r3 := ks hb7' (show _ < w6.heap.size by have := hb6.size; omega) r3; replace r4 := ks hb7' (show _ < w6.heap.size by have := hb6.size; omega) r4; replace r5 := ks hb7' (show _ < w6.heap.size by have := hb6.size; omega) r5; replace r6 := ks hb7' (show _ < w6.heap.size by have := hb6.size; omega) r6; replace r7 := ks hb7' (show _ < w6.heap.size by have := hb6.size; omega) r7; replace q0 := ks hb7' (show _ < w6.heap.size by have := hb6.size; omega) q0; replace q1 := ks hb7' (show _ < w6.heap.size by have := hb6.size; omega) q1; replace q2 := ks hb7' (show _ < w6.heap.size by have := hb6.size; omega) q2; replace q3 := ks hb7' (show _ < w6.heap.size by have := hb6.size; omega) q3; replace q4 := ks hb7' (show _ < w6.heap.size by have := hb6.size; omega) q4; replace q5 := ks hb7' (show _ < w6.heap.size by have := hb6.size; omega) q5; replace q6 := ks hb7' (show _ < w6.heap.size by have := hb6.size; omega) q6; replace q7 := ks hb7' (show _ < w6.heap.size by have := hb6.size; omega) q7) 
      | (go_at_call 17; (with_reducible refine (HC2.out _ hb7).mono ?_); rintro e w8 ⟨rfl, hb8'⟩; have hb8 := bt hb7 hb8')
      | (go_at_call 20; (with_reducible refine (HWK.out _ hb8).mono ?_); rintro e w9 ⟨rfl, hb9⟩))
    go_ret
    exact ⟨rfl, bt hw5 (bt hb8 hb9)⟩
  · have q6 := Q4.c.c6
    have fq := Q4.f 6
    have xk : (IntKind.u64.wrap how).tmod 8 = 4 := hk
    obtain ⟨g0, g1, g2, g3, g4⟩ := id GG4
    obtain ⟨x0, x1, x2⟩ := id XX4
    have NO := Lib.hid (rec_none (z := z) (d := d) (r := RcR.d ⟨1, 3, 0, 0, 3, ⟨x.z, d, x.A, x.c, x.l⟩⟩) (fun _ => rfl) (fun h => absurd (show (1 : Int) = 2 from h) (by decide)) (fun _ => .inr (.inr (im_what hd _ _))))
    go_upto_region 21 with fail
    have Q5 := Q4.c.set6 (.int .i64 d)
    have R5 := R4.apart (g' := w2.heap.size + 1) (o := 6) (by omega) (.int .i64 d)
    have GG5 := GG4.set (g' := w2.heap.size + 1) (o := 6) (by omega) (.int .i64 d)
    have hw5 := hw4.setCell (p := ⟨w2.heap.size + 1, 6, none⟩) (show w.heap.size ≤ w2.heap.size + 1 by omega) (.int .i64 d)
    have s5 : (w4.setCell ⟨w2.heap.size + 1, 6, none⟩ (.int .i64 d)).heap.size = w4.heap.size := by simp
    clear q6 fq g0 g1 g2 g3 g4 x0 x1 x2 Q4 R4 GG4 XX4 hw4
    generalize (w4.setCell ⟨w2.heap.size + 1, 6, none⟩ (.int .i64 d)) = w5 at *
    obtain ⟨g0, g1, g2, g3, g4⟩ := id GG5
    obtain ⟨r0, r1, r2, r3, r4, r5, r6, r7⟩ := id R5
    obtain ⟨q0, q1, q2, q3, q4, q5, q6, q7⟩ := id Q5
    have HX7 := Lib.hid (show BIn w5 w5.heap.size x from HX.out.next hw5)
    have HBY := Lib.hid (show Calls Try.prog 11 #[.agg #[.int .i64 z, .int .i64 d, .int .i64 s, .int .i64 l, .int .i64 a], .agg #[.int .i64 1, .int .i64 3, .int .i64 0, .int .i64 0, .int .i64 3, .int .i64 x.z, .int .i64 d, .slice x.A (m + 1 : Nat) x.c]] w5 fun e w' => tbl.NonE 1 e ∧ Below w5.heap.size w5 w' from HC.out.bytes_no z d s l a ⟨1, 3, 0, 0, 3, ⟨x.z, d, x.A, x.c, x.l⟩⟩ (m + 1) w5 hw5 (fun h => NO.out h.2) (HX7.out) (HN.out) (by omega))
    have HC1 := Lib.hid (show ∀ W, Below w5.heap.size w5 W → Calls Try.prog 17 #[.agg #[.int .i64 z, .int .i64 d, .int .i64 s, .int .i64 l, .int .i64 a], .agg #[.int .i64 1, .int .i64 3, .int .i64 0, .int .i64 0, .int .i64 3, .int .i64 x.z, .int .i64 x.wh, .slice x.A (m + 1 : Nat) x.c]] W fun e w' => e = .returned (.int .i64 0) ∧ Below W.heap.size W w' from fun W hW => HC.out.check true z d s l a ⟨1, 3, 0, 0, 3, x⟩ (m + 1) W (bt hw5 hW) (HX7.out.next hW) HN.out (by omega) (iff_of_true rfl ⟨HO.out, bent_ok HI.out⟩))
    have HC2 := Lib.hid (show ∀ W, Below w5.heap.size w5 W → Calls Try.prog 17 #[.agg #[.int .i64 z, .int .i64 d, .int .i64 s, .int .i64 l, .int .i64 a], .agg #[.int .i64 1, .int .i64 3, .int .i64 0, .int .i64 0, .int .i64 3, .int .i64 x.z, .int .i64 d, .slice x.A (m + 1 : Nat) x.c]] W fun e w' => e = .returned (.int .i64 1) ∧ Below W.heap.size W w' from fun W hW => HC.out.check false z d s l a ⟨1, 3, 0, 0, 3, ⟨x.z, d, x.A, x.c, x.l⟩⟩ (m + 1) W (bt hw5 hW) (show BIn W W.heap.size (RcR.i ⟨1, 3, 0, 0, 3, ⟨x.z, d, x.A, x.c, x.l⟩⟩) from (show BIn w5 w5.heap.size (RcR.i ⟨1, 3, 0, 0, 3, ⟨x.z, d, x.A, x.c, x.l⟩⟩) from HX7.out).next hW) (HN.out) (by omega) (iff_of_false Bool.false_ne_true fun h => NO.out h.2))
    have HWK := Lib.hid (fun W (hW : Below w5.heap.size w5 W) => wk_rec W (HC.out.next (bt hw5 hW)))
    clear GG5 R5 Q5
    go_wp2_with (first
      | (go_at_call 11; (with_reducible refine HBY.out.mono ?_); rintro e w6 ⟨⟨Y, yc, rfl⟩, hb6⟩; replace g0 := kst hb6 (by omega) g0; replace g1 := kst hb6 (by omega) g1; replace g2 := kst hb6 (by omega) g2; replace g3 := kst hb6 (by omega) g3; replace g4 := kst hb6 (by omega) g4; replace r0 := kst hb6 (by omega) r0; replace r1 := kst hb6 (by omega) r1; replace r2 := kst hb6 (by omega) r2; replace r3 := kst hb6 (by omega) r3; replace r4 := kst hb6 (by omega) r4; replace r5 := kst hb6 (by omega) r5; replace r6 := kst hb6 (by omega) r6; replace r7 := kst hb6 (by omega) r7; replace q0 := kst hb6 (by omega) q0; replace q1 := kst hb6 (by omega) q1; replace q2 := kst hb6 (by omega) q2; replace q3 := kst hb6 (by omega) q3; replace q4 := kst hb6 (by omega) q4; replace q5 := kst hb6 (by omega) q5; replace q6 := kst hb6 (by omega) q6; replace q7 := kst hb6 (by omega) q7)
      | (go_at_call 17; (with_reducible refine (HC1.out _ hb6).mono ?_); rintro e w7 ⟨rfl, hb7'⟩; have hb7 := bt hb6 hb7'; replace g0 := ks hb7' (show _ < w6.heap.size by have := hb6.size; omega) g0; replace g1 := ks hb7' (show _ < w6.heap.size by have := hb6.size; omega) g1; replace g2 := ks hb7' (show _ < w6.heap.size by have := hb6.size; omega) g2; replace g3 := ks hb7' (show _ < w6.heap.size by have := hb6.size; omega) g3; replace g4 := ks hb7' (show _ < w6.heap.size by have := hb6.size; omega) g4; replace r0 := ks hb7' (show _ < w6.heap.size by have := hb6.size; omega) r0; replace r1 := ks hb7' (show _ < w6.heap.size by have := hb6.size; omega) r1; replace r2 := ks hb7' (show _ < w6.heap.size by have := hb6.size; omega) r2; replace r3 := ks hb7' (show _ < w6.heap.size by have := hb6.size; omega) r3; replace r4 := ks hb7' (show _ < w6.heap.size by have := hb6.size; omega) r4; replace r5 := ks hb7' (show _ < w6.heap.size by have := hb6.size; omega) r5; replace r6 := ks hb7' (show _ < w6.heap.size by have := hb6.size; omega) r6; replace r7 := ks hb7' (show _ < w6.heap.size by have := hb6.size; omega) r7; replace q0 := ks hb7' (show _ < w6.heap.size by have := hb6.size; omega) q0; replace q1 := ks hb7' (show _ < w6.heap.size by have := hb6.size; omega) q1; replace q2 := ks hb7' (show _ < w6.heap.size by have := hb6.size; omega) q2; replace q3 := ks hb7' (show _ < w6.heap.size by have := hb6.size; omega) q3; replace q4 := ks hb7' (show _ < w6.heap.size by have := hb6.size; omega) q4; replace q5 := ks hb7' (show _ < w6.heap.size by have := hb6.size; omega) q5; replace q6 := ks hb7' (show _ < w6.heap.size by have := hb6.size; omega) q6; replace q7 := ks hb7' (show _ < w6.heap.size by have := hb6.size; omega) q7) 
      | (go_at_call 17; (with_reducible refine (HC2.out _ hb7).mono ?_); rintro e w8 ⟨rfl, hb8'⟩; have hb8 := bt hb7 hb8')
      | (go_at_call 20; (with_reducible refine (HWK.out _ hb8).mono ?_); rintro e w9 ⟨rfl, hb9⟩))
    go_ret
    exact ⟨rfl, bt hw5 (bt hb8 hb9)⟩
  · have q7 := Q4.c.c7
    have fq := Q4.f 7
    have xk : (IntKind.u64.wrap how).tmod 8 = 5 := hk
    obtain ⟨g0, g1, g2, g3, g4⟩ := id GG4
    obtain ⟨x0, x1, x2⟩ := id XX4
    have NO := Lib.hid (rec_none (z := z) (d := d) (r := RcR.d ⟨1, 3, 0, 0, 3, ⟨x.z, x.wh, x.A, x.c, x.l.take m⟩⟩) (fun _ => rfl) (fun h => absurd (show (1 : Int) = 2 from h) (by decide)) (fun _ => .inr (.inr (im_short HI.out HN.out))))
    have u1 : IntKind.i64.wrap (((m + 1 : Nat) : Int) - 1) = (m : Int) := by rw [show (((m + 1 : Nat) : Int) - 1) = (m : Int) by omega]; exact IntWalk.i64_in _ (by omega)
    have u1' : IntKind.i64.wrap ((m : Int) + 1 - 1) = (m : Int) := by rw [show ((m : Int) + 1 - 1) = (m : Int) by omega]; exact IntWalk.i64_in _ (by omega)
    have u2 : (m : Int) ≤ ((m + 1 : Nat) : Int) := by omega
    have u3 : (m : Int) ≤ (x.c : Int) := by omega
    have u4 : (0 : Int) ≤ (m : Int) := by omega
    have u5 : (m : Int) ≤ (m : Int) + 1 := by omega
    have x2' := x2
    rw [HXA.out] at x2'
    go_upto_region 21 with fail
    have Q5 := Q4.c.set7 (.slice x.A m x.c)
    have R5 := R4.apart (g' := w2.heap.size + 1) (o := 7) (by omega) (.slice x.A m x.c)
    have GG5 := GG4.set (g' := w2.heap.size + 1) (o := 7) (by omega) (.slice x.A m x.c)
    have hw5 := hw4.setCell (p := ⟨w2.heap.size + 1, 7, none⟩) (show w.heap.size ≤ w2.heap.size + 1 by omega) (.slice x.A m x.c)
    have s5 : (w4.setCell ⟨w2.heap.size + 1, 7, none⟩ (.slice x.A m x.c)).heap.size = w4.heap.size := by simp
    clear q7 fq g0 g1 g2 g3 g4 x0 x1 x2 Q4 R4 GG4 XX4 hw4
    generalize (w4.setCell ⟨w2.heap.size + 1, 7, none⟩ (.slice x.A m x.c)) = w5 at *
    obtain ⟨g0, g1, g2, g3, g4⟩ := id GG5
    obtain ⟨r0, r1, r2, r3, r4, r5, r6, r7⟩ := id R5
    obtain ⟨q0, q1, q2, q3, q4, q5, q6, q7⟩ := id Q5
    have HX7 := Lib.hid (show BIn w5 w5.heap.size x from HX.out.next hw5)
    have HBY := Lib.hid (show Calls Try.prog 11 #[.agg #[.int .i64 z, .int .i64 d, .int .i64 s, .int .i64 l, .int .i64 a], .agg #[.int .i64 1, .int .i64 3, .int .i64 0, .int .i64 0, .int .i64 3, .int .i64 x.z, .int .i64 x.wh, .slice x.A m x.c]] w5 fun e w' => tbl.NonE 1 e ∧ Below w5.heap.size w5 w' from HC.out.bytes_no z d s l a ⟨1, 3, 0, 0, 3, ⟨x.z, x.wh, x.A, x.c, x.l.take m⟩⟩ m w5 hw5 (fun h => NO.out h.2) (⟨HX7.out.1.take m, by show (x.l.take m).length ≤ x.c; rw [List.length_take, HN.out]; omega, HX7.out.2.2⟩) (by show (x.l.take m).length = m; rw [List.length_take, HN.out]; omega) (by omega))
    have HC1 := Lib.hid (show ∀ W, Below w5.heap.size w5 W → Calls Try.prog 17 #[.agg #[.int .i64 z, .int .i64 d, .int .i64 s, .int .i64 l, .int .i64 a], .agg #[.int .i64 1, .int .i64 3, .int .i64 0, .int .i64 0, .int .i64 3, .int .i64 x.z, .int .i64 x.wh, .slice x.A (m + 1 : Nat) x.c]] W fun e w' => e = .returned (.int .i64 0) ∧ Below W.heap.size W w' from fun W hW => HC.out.check true z d s l a ⟨1, 3, 0, 0, 3, x⟩ (m + 1) W (bt hw5 hW) (HX7.out.next hW) HN.out (by omega) (iff_of_true rfl ⟨HO.out, bent_ok HI.out⟩))
    have HC2 := Lib.hid (show ∀ W, Below w5.heap.size w5 W → Calls Try.prog 17 #[.agg #[.int .i64 z, .int .i64 d, .int .i64 s, .int .i64 l, .int .i64 a], .agg #[.int .i64 1, .int .i64 3, .int .i64 0, .int .i64 0, .int .i64 3, .int .i64 x.z, .int .i64 x.wh, .slice x.A m x.c]] W fun e w' => e = .returned (.int .i64 1) ∧ Below W.heap.size W w' from fun W hW => HC.out.check false z d s l a ⟨1, 3, 0, 0, 3, ⟨x.z, x.wh, x.A, x.c, x.l.take m⟩⟩ m W (bt hw5 hW) (show BIn W W.heap.size (RcR.i ⟨1, 3, 0, 0, 3, ⟨x.z, x.wh, x.A, x.c, x.l.take m⟩⟩) from (show BIn w5 w5.heap.size (RcR.i ⟨1, 3, 0, 0, 3, ⟨x.z, x.wh, x.A, x.c, x.l.take m⟩⟩) from ⟨HX7.out.1.take m, by show (x.l.take m).length ≤ x.c; rw [List.length_take, HN.out]; omega, HX7.out.2.2⟩).next hW) (by show (x.l.take m).length = m; rw [List.length_take, HN.out]; omega) (by omega) (iff_of_false Bool.false_ne_true fun h => NO.out h.2))
    have HWK := Lib.hid (fun W (hW : Below w5.heap.size w5 W) => wk_rec W (HC.out.next (bt hw5 hW)))
    clear GG5 R5 Q5
    go_wp2_with (first
      | (go_at_call 11; (with_reducible refine HBY.out.mono ?_); rintro e w6 ⟨⟨Y, yc, rfl⟩, hb6⟩; replace g0 := kst hb6 (by omega) g0; replace g1 := kst hb6 (by omega) g1; replace g2 := kst hb6 (by omega) g2; replace g3 := kst hb6 (by omega) g3; replace g4 := kst hb6 (by omega) g4; replace r0 := kst hb6 (by omega) r0; replace r1 := kst hb6 (by omega) r1; replace r2 := kst hb6 (by omega) r2; replace r3 := kst hb6 (by omega) r3; replace r4 := kst hb6 (by omega) r4; replace r5 := kst hb6 (by omega) r5; replace r6 := kst hb6 (by omega) r6; replace r7 := kst hb6 (by omega) r7; replace q0 := kst hb6 (by omega) q0; replace q1 := kst hb6 (by omega) q1; replace q2 := kst hb6 (by omega) q2; replace q3 := kst hb6 (by omega) q3; replace q4 := kst hb6 (by omega) q4; replace q5 := kst hb6 (by omega) q5; replace q6 := kst hb6 (by omega) q6; replace q7 := kst hb6 (by omega) q7)
      | (go_at_call 17; (with_reducible refine (HC1.out _ hb6).mono ?_); rintro e w7 ⟨rfl, hb7'⟩; have hb7 := bt hb6 hb7'; replace g0 := ks hb7' (show _ < w6.heap.size by have := hb6.size; omega) g0; replace g1 := ks hb7' (show _ < w6.heap.size by have := hb6.size; omega) g1; replace g2 := ks hb7' (show _ < w6.heap.size by have := hb6.size; omega) g2; replace g3 := ks hb7' (show _ < w6.heap.size by have := hb6.size; omega) g3; replace g4 := ks hb7' (show _ < w6.heap.size by have := hb6.size; omega) g4; replace r0 := ks hb7' (show _ < w6.heap.size by have := hb6.size; omega) r0; replace r1 := ks hb7' (show _ < w6.heap.size by have := hb6.size; omega) r1; replace r2 := ks hb7' (show _ < w6.heap.size by have := hb6.size; omega) r2; replace r3 := ks hb7' (show _ < w6.heap.size by have := hb6.size; omega) r3; replace r4 := ks hb7' (show _ < w6.heap.size by have := hb6.size; omega) r4; replace r5 := ks hb7' (show _ < w6.heap.size by have := hb6.size; omega) r5; replace r6 := ks hb7' (show _ < w6.heap.size by have := hb6.size; omega) r6; replace r7 := ks hb7' (show _ < w6.heap.size by have := hb6.size; omega) r7; replace q0 := ks hb7' (show _ < w6.heap.size by have := hb6.size; omega) q0; replace q1 := ks hb7' (show _ < w6.heap.size by have := hb6.size; omega) q1; replace q2 := ks hb7' (show _ < w6.heap.size by have := hb6.size; omega) q2; replace q3 := ks hb7' (show _ < w6.heap.size by have := hb6.size; omega) q3; replace q4 := ks hb7' (show _ < w6.heap.size by have := hb6.size; omega) q4; replace q5 := ks hb7' (show _ < w6.heap.size by have := hb6.size; omega) q5; replace q6 := ks hb7' (show _ < w6.heap.size by have := hb6.size; omega) q6; replace q7 := ks hb7' (show _ < w6.heap.size by have := hb6.size; omega) q7) 
      | (go_at_call 17; (with_reducible refine (HC2.out _ hb7).mono ?_); rintro e w8 ⟨rfl, hb8'⟩; have hb8 := bt hb7 hb8')
      | (go_at_call 20; (with_reducible refine (HWK.out _ hb8).mono ?_); rintro e w9 ⟨rfl, hb9⟩))
    go_ret
    exact ⟨rfl, bt hw5 (bt hb8 hb9)⟩
  · have q0 := Q4.c.c0
    have fq := Q4.f 0
    have xk : (IntKind.u64.wrap how).tmod 8 = 6 := hk
    obtain ⟨g0, g1, g2, g3, g4⟩ := id GG4
    obtain ⟨x0, x1, x2⟩ := id XX4
    have NO := Lib.hid (rec_none (z := z) (d := d) (r := RcR.d ⟨3, 3, 0, 0, 3, ⟨x.z, x.wh, x.A, x.c, x.l⟩⟩) (fun _ => rfl) (fun h => absurd (show (3 : Int) = 2 from h) (by decide)) (fun h => absurd (show (3 : Int) = 1 from h) (by decide)))
    go_upto_region 21 with fail
    have Q5 := Q4.c.set0 (.int .i64 3)
    have R5 := R4.apart (g' := w2.heap.size + 1) (o := 0) (by omega) (.int .i64 3)
    have GG5 := GG4.set (g' := w2.heap.size + 1) (o := 0) (by omega) (.int .i64 3)
    have hw5 := hw4.setCell (p := ⟨w2.heap.size + 1, 0, none⟩) (show w.heap.size ≤ w2.heap.size + 1 by omega) (.int .i64 3)
    have s5 : (w4.setCell ⟨w2.heap.size + 1, 0, none⟩ (.int .i64 3)).heap.size = w4.heap.size := by simp
    clear q0 fq g0 g1 g2 g3 g4 x0 x1 x2 Q4 R4 GG4 XX4 hw4
    generalize (w4.setCell ⟨w2.heap.size + 1, 0, none⟩ (.int .i64 3)) = w5 at *
    obtain ⟨g0, g1, g2, g3, g4⟩ := id GG5
    obtain ⟨r0, r1, r2, r3, r4, r5, r6, r7⟩ := id R5
    obtain ⟨q0, q1, q2, q3, q4, q5, q6, q7⟩ := id Q5
    have HX7 := Lib.hid (show BIn w5 w5.heap.size x from HX.out.next hw5)
    have HBY := Lib.hid (show Calls Try.prog 11 #[.agg #[.int .i64 z, .int .i64 d, .int .i64 s, .int .i64 l, .int .i64 a], .agg #[.int .i64 3, .int .i64 3, .int .i64 0, .int .i64 0, .int .i64 3, .int .i64 x.z, .int .i64 x.wh, .slice x.A (m + 1 : Nat) x.c]] w5 fun e w' => tbl.NonE 1 e ∧ Below w5.heap.size w5 w' from HC.out.bytes_no z d s l a ⟨3, 3, 0, 0, 3, ⟨x.z, x.wh, x.A, x.c, x.l⟩⟩ (m + 1) w5 hw5 (fun h => NO.out h.2) (HX7.out) (HN.out) (by omega))
    have HC1 := Lib.hid (show ∀ W, Below w5.heap.size w5 W → Calls Try.prog 17 #[.agg #[.int .i64 z, .int .i64 d, .int .i64 s, .int .i64 l, .int .i64 a], .agg #[.int .i64 1, .int .i64 3, .int .i64 0, .int .i64 0, .int .i64 3, .int .i64 x.z, .int .i64 x.wh, .slice x.A (m + 1 : Nat) x.c]] W fun e w' => e = .returned (.int .i64 0) ∧ Below W.heap.size W w' from fun W hW => HC.out.check true z d s l a ⟨1, 3, 0, 0, 3, x⟩ (m + 1) W (bt hw5 hW) (HX7.out.next hW) HN.out (by omega) (iff_of_true rfl ⟨HO.out, bent_ok HI.out⟩))
    have HC2 := Lib.hid (show ∀ W, Below w5.heap.size w5 W → Calls Try.prog 17 #[.agg #[.int .i64 z, .int .i64 d, .int .i64 s, .int .i64 l, .int .i64 a], .agg #[.int .i64 3, .int .i64 3, .int .i64 0, .int .i64 0, .int .i64 3, .int .i64 x.z, .int .i64 x.wh, .slice x.A (m + 1 : Nat) x.c]] W fun e w' => e = .returned (.int .i64 1) ∧ Below W.heap.size W w' from fun W hW => HC.out.check false z d s l a ⟨3, 3, 0, 0, 3, ⟨x.z, x.wh, x.A, x.c, x.l⟩⟩ (m + 1) W (bt hw5 hW) (show BIn W W.heap.size (RcR.i ⟨3, 3, 0, 0, 3, ⟨x.z, x.wh, x.A, x.c, x.l⟩⟩) from (show BIn w5 w5.heap.size (RcR.i ⟨3, 3, 0, 0, 3, ⟨x.z, x.wh, x.A, x.c, x.l⟩⟩) from HX7.out).next hW) (HN.out) (by omega) (iff_of_false Bool.false_ne_true fun h => NO.out h.2))
    have HWK := Lib.hid (fun W (hW : Below w5.heap.size w5 W) => wk_rec W (HC.out.next (bt hw5 hW)))
    clear GG5 R5 Q5
    go_wp2_with (first
      | (go_at_call 11; (with_reducible refine HBY.out.mono ?_); rintro e w6 ⟨⟨Y, yc, rfl⟩, hb6⟩; replace g0 := kst hb6 (by omega) g0; replace g1 := kst hb6 (by omega) g1; replace g2 := kst hb6 (by omega) g2; replace g3 := kst hb6 (by omega) g3; replace g4 := kst hb6 (by omega) g4; replace r0 := kst hb6 (by omega) r0; replace r1 := kst hb6 (by omega) r1; replace r2 := kst hb6 (by omega) r2; replace r3 := kst hb6 (by omega) r3; replace r4 := kst hb6 (by omega) r4; replace r5 := kst hb6 (by omega) r5; replace r6 := kst hb6 (by omega) r6; replace r7 := kst hb6 (by omega) r7; replace q0 := kst hb6 (by omega) q0; replace q1 := kst hb6 (by omega) q1; replace q2 := kst hb6 (by omega) q2; replace q3 := kst hb6 (by omega) q3; replace q4 := kst hb6 (by omega) q4; replace q5 := kst hb6 (by omega) q5; replace q6 := kst hb6 (by omega) q6; replace q7 := kst hb6 (by omega) q7)
      | (go_at_call 17; (with_reducible refine (HC1.out _ hb6).mono ?_); rintro e w7 ⟨rfl, hb7'⟩; have hb7 := bt hb6 hb7'; replace g0 := ks hb7' (show _ < w6.heap.size by have := hb6.size; omega) g0; replace g1 := ks hb7' (show _ < w6.heap.size by have := hb6.size; omega) g1; replace g2 := ks hb7' (show _ < w6.heap.size by have := hb6.size; omega) g2; replace g3 := ks hb7' (show _ < w6.heap.size by have := hb6.size; omega) g3; replace g4 := ks hb7' (show _ < w6.heap.size by have := hb6.size; omega) g4; replace r0 := ks hb7' (show _ < w6.heap.size by have := hb6.size; omega) r0; replace r1 := ks hb7' (show _ < w6.heap.size by have := hb6.size; omega) r1; replace r2 := ks hb7' (show _ < w6.heap.size by have := hb6.size; omega) r2; replace r3 := ks hb7' (show _ < w6.heap.size by have := hb6.size; omega) r3; replace r4 := ks hb7' (show _ < w6.heap.size by have := hb6.size; omega) r4; replace r5 := ks hb7' (show _ < w6.heap.size by have := hb6.size; omega) r5; replace r6 := ks hb7' (show _ < w6.heap.size by have := hb6.size; omega) r6; replace r7 := ks hb7' (show _ < w6.heap.size by have := hb6.size; omega) r7; replace q0 := ks hb7' (show _ < w6.heap.size by have := hb6.size; omega) q0; replace q1 := ks hb7' (show _ < w6.heap.size by have := hb6.size; omega) q1; replace q2 := ks hb7' (show _ < w6.heap.size by have := hb6.size; omega) q2; replace q3 := ks hb7' (show _ < w6.heap.size by have := hb6.size; omega) q3; replace q4 := ks hb7' (show _ < w6.heap.size by have := hb6.size; omega) q4; replace q5 := ks hb7' (show _ < w6.heap.size by have := hb6.size; omega) q5; replace q6 := ks hb7' (show _ < w6.heap.size by have := hb6.size; omega) q6; replace q7 := ks hb7' (show _ < w6.heap.size by have := hb6.size; omega) q7) 
      | (go_at_call 17; (with_reducible refine (HC2.out _ hb7).mono ?_); rintro e w8 ⟨rfl, hb8'⟩; have hb8 := bt hb7 hb8')
      | (go_at_call 20; (with_reducible refine (HWK.out _ hb8).mono ?_); rintro e w9 ⟨rfl, hb9⟩))
    go_ret
    exact ⟨rfl, bt hw5 (bt hb8 hb9)⟩
  · have q0 := Q4.c.c0
    have fq := Q4.f 0
    have xk : (IntKind.u64.wrap how).tmod 8 = 7 := hk
    obtain ⟨g0, g1, g2, g3, g4⟩ := id GG4
    obtain ⟨x0, x1, x2⟩ := id XX4
    have NO := Lib.hid (rec_none (z := z) (d := d) (r := RcR.d ⟨0, 3, 0, 0, 3, ⟨x.z, x.wh, x.A, x.c, x.l⟩⟩) (fun _ => rfl) (fun h => absurd (show (0 : Int) = 2 from h) (by decide)) (fun h => absurd (show (0 : Int) = 1 from h) (by decide)))
    go_upto_region 21 with fail
    have Q5 := Q4.c.set0 (.int .i64 0)
    have R5 := R4.apart (g' := w2.heap.size + 1) (o := 0) (by omega) (.int .i64 0)
    have GG5 := GG4.set (g' := w2.heap.size + 1) (o := 0) (by omega) (.int .i64 0)
    have hw5 := hw4.setCell (p := ⟨w2.heap.size + 1, 0, none⟩) (show w.heap.size ≤ w2.heap.size + 1 by omega) (.int .i64 0)
    have s5 : (w4.setCell ⟨w2.heap.size + 1, 0, none⟩ (.int .i64 0)).heap.size = w4.heap.size := by simp
    clear q0 fq g0 g1 g2 g3 g4 x0 x1 x2 Q4 R4 GG4 XX4 hw4
    generalize (w4.setCell ⟨w2.heap.size + 1, 0, none⟩ (.int .i64 0)) = w5 at *
    obtain ⟨g0, g1, g2, g3, g4⟩ := id GG5
    obtain ⟨r0, r1, r2, r3, r4, r5, r6, r7⟩ := id R5
    obtain ⟨q0, q1, q2, q3, q4, q5, q6, q7⟩ := id Q5
    have HX7 := Lib.hid (show BIn w5 w5.heap.size x from HX.out.next hw5)
    have HBY := Lib.hid (show Calls Try.prog 11 #[.agg #[.int .i64 z, .int .i64 d, .int .i64 s, .int .i64 l, .int .i64 a], .agg #[.int .i64 0, .int .i64 3, .int .i64 0, .int .i64 0, .int .i64 3, .int .i64 x.z, .int .i64 x.wh, .slice x.A (m + 1 : Nat) x.c]] w5 fun e w' => tbl.NonE 1 e ∧ Below w5.heap.size w5 w' from HC.out.bytes_no z d s l a ⟨0, 3, 0, 0, 3, ⟨x.z, x.wh, x.A, x.c, x.l⟩⟩ (m + 1) w5 hw5 (fun h => NO.out h.2) (HX7.out) (HN.out) (by omega))
    have HC1 := Lib.hid (show ∀ W, Below w5.heap.size w5 W → Calls Try.prog 17 #[.agg #[.int .i64 z, .int .i64 d, .int .i64 s, .int .i64 l, .int .i64 a], .agg #[.int .i64 1, .int .i64 3, .int .i64 0, .int .i64 0, .int .i64 3, .int .i64 x.z, .int .i64 x.wh, .slice x.A (m + 1 : Nat) x.c]] W fun e w' => e = .returned (.int .i64 0) ∧ Below W.heap.size W w' from fun W hW => HC.out.check true z d s l a ⟨1, 3, 0, 0, 3, x⟩ (m + 1) W (bt hw5 hW) (HX7.out.next hW) HN.out (by omega) (iff_of_true rfl ⟨HO.out, bent_ok HI.out⟩))
    have HC2 := Lib.hid (show ∀ W, Below w5.heap.size w5 W → Calls Try.prog 17 #[.agg #[.int .i64 z, .int .i64 d, .int .i64 s, .int .i64 l, .int .i64 a], .agg #[.int .i64 0, .int .i64 3, .int .i64 0, .int .i64 0, .int .i64 3, .int .i64 x.z, .int .i64 x.wh, .slice x.A (m + 1 : Nat) x.c]] W fun e w' => e = .returned (.int .i64 1) ∧ Below W.heap.size W w' from fun W hW => HC.out.check false z d s l a ⟨0, 3, 0, 0, 3, ⟨x.z, x.wh, x.A, x.c, x.l⟩⟩ (m + 1) W (bt hw5 hW) (show BIn W W.heap.size (RcR.i ⟨0, 3, 0, 0, 3, ⟨x.z, x.wh, x.A, x.c, x.l⟩⟩) from (show BIn w5 w5.heap.size (RcR.i ⟨0, 3, 0, 0, 3, ⟨x.z, x.wh, x.A, x.c, x.l⟩⟩) from HX7.out).next hW) (HN.out) (by omega) (iff_of_false Bool.false_ne_true fun h => NO.out h.2))
    have HWK := Lib.hid (fun W (hW : Below w5.heap.size w5 W) => wk_rec W (HC.out.next (bt hw5 hW)))
    clear GG5 R5 Q5
    go_wp2_with (first
      | (go_at_call 11; (with_reducible refine HBY.out.mono ?_); rintro e w6 ⟨⟨Y, yc, rfl⟩, hb6⟩; replace g0 := kst hb6 (by omega) g0; replace g1 := kst hb6 (by omega) g1; replace g2 := kst hb6 (by omega) g2; replace g3 := kst hb6 (by omega) g3; replace g4 := kst hb6 (by omega) g4; replace r0 := kst hb6 (by omega) r0; replace r1 := kst hb6 (by omega) r1; replace r2 := kst hb6 (by omega) r2; replace r3 := kst hb6 (by omega) r3; replace r4 := kst hb6 (by omega) r4; replace r5 := kst hb6 (by omega) r5; replace r6 := kst hb6 (by omega) r6; replace r7 := kst hb6 (by omega) r7; replace q0 := kst hb6 (by omega) q0; replace q1 := kst hb6 (by omega) q1; replace q2 := kst hb6 (by omega) q2; replace q3 := kst hb6 (by omega) q3; replace q4 := kst hb6 (by omega) q4; replace q5 := kst hb6 (by omega) q5; replace q6 := kst hb6 (by omega) q6; replace q7 := kst hb6 (by omega) q7)
      | (go_at_call 17; (with_reducible refine (HC1.out _ hb6).mono ?_); rintro e w7 ⟨rfl, hb7'⟩; have hb7 := bt hb6 hb7'; replace g0 := ks hb7' (show _ < w6.heap.size by have := hb6.size; omega) g0; replace g1 := ks hb7' (show _ < w6.heap.size by have := hb6.size; omega) g1; replace g2 := ks hb7' (show _ < w6.heap.size by have := hb6.size; omega) g2; replace g3 := ks hb7' (show _ < w6.heap.size by have := hb6.size; omega) g3; replace g4 := ks hb7' (show _ < w6.heap.size by have := hb6.size; omega) g4; replace r0 := ks hb7' (show _ < w6.heap.size by have := hb6.size; omega) r0; replace r1 := ks hb7' (show _ < w6.heap.size by have := hb6.size; omega) r1; replace r2 := ks hb7' (show _ < w6.heap.size by have := hb6.size; omega) r2; replace r3 := ks hb7' (show _ < w6.heap.size by have := hb6.size; omega) r3; replace r4 := ks hb7' (show _ < w6.heap.size by have := hb6.size; omega) r4; replace r5 := ks hb7' (show _ < w6.heap.size by have := hb6.size; omega) r5; replace r6 := ks hb7' (show _ < w6.heap.size by have := hb6.size; omega) r6; replace r7 := ks hb7' (show _ < w6.heap.size by have := hb6.size; omega) r7; replace q0 := ks hb7' (show _ < w6.heap.size by have := hb6.size; omega) q0; replace q1 := ks hb7' (show _ < w6.heap.size by have := hb6.size; omega) q1; replace q2 := ks hb7' (show _ < w6.heap.size by have := hb6.size; omega) q2; replace q3 := ks hb7' (show _ < w6.heap.size by have := hb6.size; omega) q3; replace q4 := ks hb7' (show _ < w6.heap.size by have := hb6.size; omega) q4; replace q5 := ks hb7' (show _ < w6.heap.size by have := hb6.size; omega) q5; replace q6 := ks hb7' (show _ < w6.heap.size by have := hb6.size; omega) q6; replace q7 := ks hb7' (show _ < w6.heap.size by have := hb6.size; omega) q7) 
      | (go_at_call 17; (with_reducible refine (HC2.out _ hb7).mono ?_); rintro e w8 ⟨rfl, hb8'⟩; have hb8 := bt hb7 hb8')
      | (go_at_call 20; (with_reducible refine (HWK.out _ hb8).mono ?_); rintro e w9 ⟨rfl, hb9⟩))
    go_ret
    exact ⟨rfl, bt hw5 (bt hb8 hb9)⟩
/-- The law. -/
theorem bent_law (n : Nat) (z d s l a how : Int) (x : ImR) (w : World) (hc : Crd w) (hx : BIn w w.heap.size x) (hn : x.l.length = n) :
    Calls Try.prog 7 #[.agg #[.int .i64 z, .int .i64 d, .int .i64 s, .int .i64 l, .int .i64 a], .agg #[.int .i64 x.z, .int .i64 x.wh, .slice x.A n x.c], .int .i64 how] w fun e w' => e = .returned (.bool true) ∧ Below w.heap.size w w' := by
  by_cases h200 : (200 : Int) < (n : Int)
  case neg =>
    by_cases ho : Ok z d s l a
    · by_cases hi : ImOk z d x.z x.wh x.l
      · obtain ⟨m, rfl⟩ : ∃ m, n = m + 1 := ⟨n - 1, by have := (imOk_len hi ho.2.1).2; omega⟩
        have h := gmt.wrap_mod how 8 (by decide)
        exact bent_main ((IntKind.u64.wrap how).tmod 8).toNat m z d s l a how x w hc ho hx hn (by omega) hi (by omega) (by omega)
      · exact bent_out true n z d s l a how x w (fun W hW => gmt.rgeo_at true z d s l a W (iff_of_true rfl ho)) (fun W hW => rimage_c false z d s l a x n W ho (hx.next hW) hn (iff_of_false Bool.false_ne_true hi))
    · exact bent_geo n z d s l a how x w h200 fun W hW => gmt.rgeo_at false z d s l a W (iff_of_false Bool.false_ne_true ho)
  case pos => exact bent_long n z d s l a how x w h200
end Go.Proofs.Ytplhdnhigboeaaa.lrc
