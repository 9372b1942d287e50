/-
  The law TableBack, walked. Conditions: 'Ctt'.
-/
import Derived.Test.YtldknkikekaifaaTbP
import Derived.Test.YtldknkikekaifaaTbO
import Derived.Deep.CutRange
namespace Go.Proofs.Ytldknkikekaifaa.tbl
open Go.RowKit Go.Lib
open Go.Proofs.Ytldknkikekaifaa.gmt (Ok five_new)
open Go.Proofs.Ytldknkikekaifaa.anc (flat_get flat_len slv_cell bl kal kst ks bm ka row_form)

theorem blk_new {W : World} {o : Obj} {k : Nat} (h : k = W.heap.size) : (W.alloc o).heap[k]? = some o := by subst h; exact heap_alloc_new W o
theorem blk_old {W : World} {o v : Obj} {k : Nat} (h : W.heap[k]? = some v) : (W.alloc o).heap[k]? = some v := by rw [heap_alloc_old W o (Array.getElem?_eq_some_iff.1 h).1]; exact h
theorem blk_next {W W' : World} {v : Obj} {k : Nat} (hb : Below W.heap.size W W') (h : W.heap[k]? = some v) : W'.heap[k]? = some v := (hb.block k (Array.getElem?_eq_some_iff.1 h).1).trans h
theorem blk_grown {W W' : World} {v : Obj} {k : Nat} {r : Option Nat} (hg : W.grownBy W' r) (hr : some k ≠ r) (h : W.heap[k]? = some v) : W'.heap[k]? = some v := (hg.block k (Array.getElem?_eq_some_iff.1 h).1 hr).trans h
theorem blk_drew {W : World} {v : Obj} {k : Nat} (h : W.heap[k]? = some v) : W.drew.heap[k]? = some v := h
theorem below_set1 {B g : Nat} {a W : World} {v0 : Value} (h : Below B a W) (hg : B ≤ g) : Below B a (W.setCell ⟨g, 0, none⟩ v0) := h.setCell (p := ⟨g, 0, none⟩) hg v0
theorem src_zero {W : World} {u : Value} {g : Nat} {t : TypeId} {fr : Nat × Nat} (hu : u = .slice (some ⟨g, 0, none⟩) 1 1) (hg : W.heap[g]? = some (.cells #[.int .u8 0] t fr)) : Src Try.prog 1 27 u [(0 : UInt8)].length (cells8 [0]) W := by
  subst hu
  exact src_at Try.underlying27 0 0 rfl t g fr hg
theorem own_q {w : World} {base q : Nat} {e : TypeId} {v : Value} {l : List UInt8} (h : Own w base e v l) (hq : l.length = q) : ∃ X c, v = .slice X q c ∧ Own w base e (.slice X q c) l := by
  obtain ⟨A, c, rfl, -⟩ := h.form
  rw [hq] at h ⊢
  exact ⟨A, c, rfl, h⟩
/-- One zero cell, just laid. -/
def Zer (W : World) (g : Nat) : Prop := C1 W g (.slice none 0 0)
theorem zer_at {w : World} {g : Nat} (h : g = w.heap.size) : Zer (w.alloc (.cells #[.slice none 0 0] 26)) g := by subst h; exact c1_new w _ _
theorem zer_lt {W : World} {g : Nat} (h : Zer W g) : g < W.heap.size := World.block_lt_of_cell? W _ h.c0
theorem Zer.dr {W : World} {g : Nat} (h : Zer W g) : Zer W.drew g := C1.keep (B := g + 1) h (below_dr (Below.refl _ _)) (Nat.lt_succ_self _)
theorem Zer.al {W : World} {g : Nat} (h : Zer W g) (o : Obj) : Zer (W.alloc o) g := C1.keep h (bl W o) (zer_lt h)
theorem Zer.nx {W W' : World} {g : Nat} (h : Zer W g) (hb : Below W.heap.size W W') : Zer W' g := C1.keep h hb (zer_lt h)
theorem Zer.gr {W W' : World} {g : Nat} {r : Option Nat} (h : Zer W g) (hg : W.grownBy W' r) (hr : some g ≠ r) : Zer W' g :=
  ⟨hg.cell (a := ⟨g, 0, none⟩) h.c0 hr, (hg.frozen_far ⟨g, 0, none⟩ (zer_lt h) hr).trans h.f0⟩
set_option maxRecDepth 100000 in
set_option maxHeartbeats 4000000 in
theorem tk_long (z d s l a : Int) (x y : TV) (n m : Nat) (cut : Int) (w : World) (hxn : x.es.length = n) (hym : y.es.length = m) (h : 20 < n) :
    Calls Try.prog 4 #[.agg #[.int .i64 z, .int .i64 d, .int .i64 s, .int .i64 l, .int .i64 a], x.v, y.v, .int .i64 cut] w fun e w' => e = .returned (.bool true) ∧ Below w.heap.size w w' := by
  have GG := ((g5_new w z d s l a).keep (bl (w.alloc (.cells #[.int .i64 z, .int .i64 d, .int .i64 s, .int .i64 l, .int .i64 a] 23)) (.cells #[.slice x.A n x.c] 26)) (by simp)).keep (bl ((w.alloc (.cells #[.int .i64 z, .int .i64 d, .int .i64 s, .int .i64 l, .int .i64 a] 23)).alloc (.cells #[.slice x.A n x.c] 26)) (.cells #[.slice y.A m y.c] 26)) (by simp; omega)
  have X1 := (c1_new (w.alloc (.cells #[.int .i64 z, .int .i64 d, .int .i64 s, .int .i64 l, .int .i64 a] 23)) (.slice x.A n x.c) 26).keep (bl ((w.alloc (.cells #[.int .i64 z, .int .i64 d, .int .i64 s, .int .i64 l, .int .i64 a] 23)).alloc (.cells #[.slice x.A n x.c] 26)) (.cells #[.slice y.A m y.c] 26)) (by simp)
  have Y1 := c1_new ((w.alloc (.cells #[.int .i64 z, .int .i64 d, .int .i64 s, .int .i64 l, .int .i64 a] 23)).alloc (.cells #[.slice x.A n x.c] 26)) (.slice y.A m y.c) 26
  rw [show (w.alloc (.cells #[.int .i64 z, .int .i64 d, .int .i64 s, .int .i64 l, .int .i64 a] 23)).heap.size = w.heap.size + 1 by simp] at X1
  rw [show ((w.alloc (.cells #[.int .i64 z, .int .i64 d, .int .i64 s, .int .i64 l, .int .i64 a] 23)).alloc (.cells #[.slice x.A n x.c] 26)).heap.size = w.heap.size + 2 by simp] at Y1
  have hb0 := kal (kal (bl w (.cells #[.int .i64 z, .int .i64 d, .int .i64 s, .int .i64 l, .int .i64 a] 23)) (.cells #[.slice x.A n x.c] 26)) (.cells #[.slice y.A m y.c] 26)
  have l1 : w.heap.size + 2 < (((w.alloc (.cells #[.int .i64 z, .int .i64 d, .int .i64 s, .int .i64 l, .int .i64 a] 23)).alloc (.cells #[.slice x.A n x.c] 26)).alloc (.cells #[.slice y.A m y.c] 26)).heap.size := by simp
  have i1 : (20 : Int) < (n : Int) := by omega
  unfold TV.v
  rw [hxn, hym]
  go_enter Try.func4, Try.ntmps4
  go_upto_region 1 with fail
  generalize (((w.alloc (.cells #[.int .i64 z, .int .i64 d, .int .i64 s, .int .i64 l, .int .i64 a] 23)).alloc (.cells #[.slice x.A n x.c] 26)).alloc (.cells #[.slice y.A m y.c] 26)) = w0 at *
  obtain ⟨g0, g1, g2, g3, g4⟩ := id GG
  have x0 := X1.c0
  have y0 := Y1.c0
  go_wp2_with fail
  go_ret
  exact ⟨rfl, hb0⟩
set_option maxRecDepth 100000 in
set_option maxHeartbeats 4000000 in
theorem tk_long2 (z d s l a : Int) (x y : TV) (n m : Nat) (cut : Int) (w : World) (hxn : x.es.length = n) (hym : y.es.length = m) (hn20 : n ≤ 20) (h : 20 < m) :
    Calls Try.prog 4 #[.agg #[.int .i64 z, .int .i64 d, .int .i64 s, .int .i64 l, .int .i64 a], x.v, y.v, .int .i64 cut] w fun e w' => e = .returned (.bool true) ∧ Below w.heap.size w w' := by
  have GG := ((g5_new w z d s l a).keep (bl (w.alloc (.cells #[.int .i64 z, .int .i64 d, .int .i64 s, .int .i64 l, .int .i64 a] 23)) (.cells #[.slice x.A n x.c] 26)) (by simp)).keep (bl ((w.alloc (.cells #[.int .i64 z, .int .i64 d, .int .i64 s, .int .i64 l, .int .i64 a] 23)).alloc (.cells #[.slice x.A n x.c] 26)) (.cells #[.slice y.A m y.c] 26)) (by simp; omega)
  have X1 := (c1_new (w.alloc (.cells #[.int .i64 z, .int .i64 d, .int .i64 s, .int .i64 l, .int .i64 a] 23)) (.slice x.A n x.c) 26).keep (bl ((w.alloc (.cells #[.int .i64 z, .int .i64 d, .int .i64 s, .int .i64 l, .int .i64 a] 23)).alloc (.cells #[.slice x.A n x.c] 26)) (.cells #[.slice y.A m y.c] 26)) (by simp)
  have Y1 := c1_new ((w.alloc (.cells #[.int .i64 z, .int .i64 d, .int .i64 s, .int .i64 l, .int .i64 a] 23)).alloc (.cells #[.slice x.A n x.c] 26)) (.slice y.A m y.c) 26
  rw [show (w.alloc (.cells #[.int .i64 z, .int .i64 d, .int .i64 s, .int .i64 l, .int .i64 a] 23)).heap.size = w.heap.size + 1 by simp] at X1
  rw [show ((w.alloc (.cells #[.int .i64 z, .int .i64 d, .int .i64 s, .int .i64 l, .int .i64 a] 23)).alloc (.cells #[.slice x.A n x.c] 26)).heap.size = w.heap.size + 2 by simp] at Y1
  have hb0 := kal (kal (bl w (.cells #[.int .i64 z, .int .i64 d, .int .i64 s, .int .i64 l, .int .i64 a] 23)) (.cells #[.slice x.A n x.c] 26)) (.cells #[.slice y.A m y.c] 26)
  have l1 : w.heap.size + 2 < (((w.alloc (.cells #[.int .i64 z, .int .i64 d, .int .i64 s, .int .i64 l, .int .i64 a] 23)).alloc (.cells #[.slice x.A n x.c] 26)).alloc (.cells #[.slice y.A m y.c] 26)).heap.size := by simp
  have i1 : ¬ (20 : Int) < (n : Int) := by omega
  have i2 : (20 : Int) < (m : Int) := by omega
  unfold TV.v
  rw [hxn, hym]
  go_enter Try.func4, Try.ntmps4
  go_upto_region 1 with fail
  generalize (((w.alloc (.cells #[.int .i64 z, .int .i64 d, .int .i64 s, .int .i64 l, .int .i64 a] 23)).alloc (.cells #[.slice x.A n x.c] 26)).alloc (.cells #[.slice y.A m y.c] 26)) = w0 at *
  obtain ⟨g0, g1, g2, g3, g4⟩ := id GG
  have x0 := X1.c0
  have y0 := Y1.c0
  go_wp2_with fail
  go_ret
  exact ⟨rfl, hb0⟩
set_option maxRecDepth 100000 in
set_option maxHeartbeats 4000000 in
theorem tk_nn (z d s l a : Int) (x y : TV) (n m : Nat) (cut : Int) (w : World) (hxn : x.es.length = n) (hym : y.es.length = m) (hc : Ctt w) (hx : x.In w w.heap.size) (hy : y.In w w.heap.size) (hn20 : n ≤ 20) (hm20 : m ≤ 20) (hxg : ¬ (Ok z d s l a ∧ Good d x.es)) (hyg : ¬ (Ok z d s l a ∧ Good d y.es)) :
    Calls Try.prog 4 #[.agg #[.int .i64 z, .int .i64 d, .int .i64 s, .int .i64 l, .int .i64 a], x.v, y.v, .int .i64 cut] w fun e w' => e = .returned (.bool true) ∧ Below w.heap.size w w' := by
  have HB := Lib.hid (show ∀ W, Below w.heap.size w W → Calls Try.prog 9 #[.agg #[.int .i64 z, .int .i64 d, .int .i64 s, .int .i64 l, .int .i64 a], .agg #[.slice x.A n x.c]] W fun e w' => NonE 1 e ∧ Below W.heap.size W w' from fun W hW => by
    have h9 := hc.bytes_no z d s l a x W hW hxg (hx.next hW) (by omega)
    unfold TV.v at h9
    rwa [hxn] at h9)
  have HD := Lib.hid (show ∀ W, Below w.heap.size w W → Calls Try.prog 9 #[.agg #[.int .i64 z, .int .i64 d, .int .i64 s, .int .i64 l, .int .i64 a], .agg #[.slice y.A m y.c]] W fun e w' => NonE 1 e ∧ Below W.heap.size W w' from fun W hW => by
    have h9 := hc.bytes_no z d s l a y W hW hyg (hy.next hW) (by omega)
    unfold TV.v at h9
    rwa [hym] at h9)
  have HC := Lib.hid hc
  have i1 : ¬ (20 : Int) < (n : Int) := by omega
  have i2 : ¬ (20 : Int) < (m : Int) := by omega
  have GG := ((g5_new w z d s l a).keep (bl (w.alloc (.cells #[.int .i64 z, .int .i64 d, .int .i64 s, .int .i64 l, .int .i64 a] 23)) (.cells #[.slice x.A n x.c] 26)) (by simp)).keep (bl ((w.alloc (.cells #[.int .i64 z, .int .i64 d, .int .i64 s, .int .i64 l, .int .i64 a] 23)).alloc (.cells #[.slice x.A n x.c] 26)) (.cells #[.slice y.A m y.c] 26)) (by simp; omega)
  have X1 := (c1_new (w.alloc (.cells #[.int .i64 z, .int .i64 d, .int .i64 s, .int .i64 l, .int .i64 a] 23)) (.slice x.A n x.c) 26).keep (bl ((w.alloc (.cells #[.int .i64 z, .int .i64 d, .int .i64 s, .int .i64 l, .int .i64 a] 23)).alloc (.cells #[.slice x.A n x.c] 26)) (.cells #[.slice y.A m y.c] 26)) (by simp)
  have Y1 := c1_new ((w.alloc (.cells #[.int .i64 z, .int .i64 d, .int .i64 s, .int .i64 l, .int .i64 a] 23)).alloc (.cells #[.slice x.A n x.c] 26)) (.slice y.A m y.c) 26
  rw [show (w.alloc (.cells #[.int .i64 z, .int .i64 d, .int .i64 s, .int .i64 l, .int .i64 a] 23)).heap.size = w.heap.size + 1 by simp] at X1
  rw [show ((w.alloc (.cells #[.int .i64 z, .int .i64 d, .int .i64 s, .int .i64 l, .int .i64 a] 23)).alloc (.cells #[.slice x.A n x.c] 26)).heap.size = w.heap.size + 2 by simp] at Y1
  have hb0 := kal (kal (bl w (.cells #[.int .i64 z, .int .i64 d, .int .i64 s, .int .i64 l, .int .i64 a] 23)) (.cells #[.slice x.A n x.c] 26)) (.cells #[.slice y.A m y.c] 26)
  have l1 : w.heap.size + 2 < (((w.alloc (.cells #[.int .i64 z, .int .i64 d, .int .i64 s, .int .i64 l, .int .i64 a] 23)).alloc (.cells #[.slice x.A n x.c] 26)).alloc (.cells #[.slice y.A m y.c] 26)).heap.size := by simp
  unfold TV.v
  rw [hxn, hym]
  go_enter Try.func4, Try.ntmps4
  go_upto_region 1 with fail
  generalize (((w.alloc (.cells #[.int .i64 z, .int .i64 d, .int .i64 s, .int .i64 l, .int .i64 a] 23)).alloc (.cells #[.slice x.A n x.c] 26)).alloc (.cells #[.slice y.A m y.c] 26)) = w0 at *
  obtain ⟨g0, g1, g2, g3, g4⟩ := id GG
  have x0 := X1.c0
  have y0 := Y1.c0
  clear hc hx hy hxg hyg hxn hym
  have HWK := Lib.hid (fun W (hW : Below w.heap.size w W) => wk_tab W (HC.out.next hW))
  go_wp2_with (first
    | (go_at_call 9; (with_reducible refine (HB.out _ hb0).mono ?_); rintro e wq ⟨⟨Y, yc, rfl⟩, hbq⟩; replace GG := GG.keep hbq (by omega); replace X1 := X1.keep hbq (by omega); replace Y1 := Y1.keep hbq (by omega); replace l1 := Nat.lt_of_lt_of_le l1 hbq.size; clear g0 g1 g2 g3 g4 x0 y0; obtain ⟨g0, g1, g2, g3, g4⟩ := id GG; have x0 := X1.c0; have y0 := Y1.c0; replace hb0 := bt hb0 hbq; clear hbq)
    | (go_at_call 9; (with_reducible refine (HD.out _ hb0).mono ?_); rintro e wq ⟨⟨Y, yc, rfl⟩, hbq⟩; replace GG := GG.keep hbq (by omega); replace X1 := X1.keep hbq (by omega); replace Y1 := Y1.keep hbq (by omega); replace l1 := Nat.lt_of_lt_of_le l1 hbq.size; clear g0 g1 g2 g3 g4 x0 y0; obtain ⟨g0, g1, g2, g3, g4⟩ := id GG; have x0 := X1.c0; have y0 := Y1.c0; replace hb0 := bt hb0 hbq; clear hbq)
    | (go_at_call 15; (with_reducible refine (HWK.out _ hb0).mono ?_); rintro e wz ⟨rfl, hbz⟩))
  go_ret
  exact ⟨rfl, bt hb0 hbz⟩
set_option maxRecDepth 100000 in
set_option maxHeartbeats 4000000 in
theorem tk_ny (z d s l a : Int) (x y : TV) (n m : Nat) (cut : Int) (w : World) (hxn : x.es.length = n) (hym : y.es.length = m) (hc : Ctt w) (hx : x.In w w.heap.size) (hy : y.In w w.heap.size) (hn20 : n ≤ 20) (hm20 : m ≤ 20) (hxg : ¬ (Ok z d s l a ∧ Good d x.es)) (hyg : Ok z d s l a ∧ Good d y.es) :
    Calls Try.prog 4 #[.agg #[.int .i64 z, .int .i64 d, .int .i64 s, .int .i64 l, .int .i64 a], x.v, y.v, .int .i64 cut] w fun e w' => e = .returned (.bool true) ∧ Below w.heap.size w w' := by
  have HB := Lib.hid (show ∀ W, Below w.heap.size w W → Calls Try.prog 9 #[.agg #[.int .i64 z, .int .i64 d, .int .i64 s, .int .i64 l, .int .i64 a], .agg #[.slice x.A n x.c]] W fun e w' => NonE 1 e ∧ Below W.heap.size W w' from fun W hW => by
    have h9 := hc.bytes_no z d s l a x W hW hxg (hx.next hW) (by omega)
    unfold TV.v at h9
    rwa [hxn] at h9)
  have HD := Lib.hid (show ∀ W, Below w.heap.size w W → Calls Try.prog 9 #[.agg #[.int .i64 z, .int .i64 d, .int .i64 s, .int .i64 l, .int .i64 a], .agg #[.slice y.A m y.c]] W fun e w' => BytE W.heap.size (m * 9) (encT y.es) 0 e w' ∧ Below W.heap.size W w' from fun W hW => by
    have h9 := hc.bytes z d s l a y W hW hyg.1 (hy.next hW) hyg.2
    unfold TV.v at h9
    rwa [hym] at h9)
  have HC := Lib.hid hc
  have i1 : ¬ (20 : Int) < (n : Int) := by omega
  have i2 : ¬ (20 : Int) < (m : Int) := by omega
  have GG := ((g5_new w z d s l a).keep (bl (w.alloc (.cells #[.int .i64 z, .int .i64 d, .int .i64 s, .int .i64 l, .int .i64 a] 23)) (.cells #[.slice x.A n x.c] 26)) (by simp)).keep (bl ((w.alloc (.cells #[.int .i64 z, .int .i64 d, .int .i64 s, .int .i64 l, .int .i64 a] 23)).alloc (.cells #[.slice x.A n x.c] 26)) (.cells #[.slice y.A m y.c] 26)) (by simp; omega)
  have X1 := (c1_new (w.alloc (.cells #[.int .i64 z, .int .i64 d, .int .i64 s, .int .i64 l, .int .i64 a] 23)) (.slice x.A n x.c) 26).keep (bl ((w.alloc (.cells #[.int .i64 z, .int .i64 d, .int .i64 s, .int .i64 l, .int .i64 a] 23)).alloc (.cells #[.slice x.A n x.c] 26)) (.cells #[.slice y.A m y.c] 26)) (by simp)
  have Y1 := c1_new ((w.alloc (.cells #[.int .i64 z, .int .i64 d, .int .i64 s, .int .i64 l, .int .i64 a] 23)).alloc (.cells #[.slice x.A n x.c] 26)) (.slice y.A m y.c) 26
  rw [show (w.alloc (.cells #[.int .i64 z, .int .i64 d, .int .i64 s, .int .i64 l, .int .i64 a] 23)).heap.size = w.heap.size + 1 by simp] at X1
  rw [show ((w.alloc (.cells #[.int .i64 z, .int .i64 d, .int .i64 s, .int .i64 l, .int .i64 a] 23)).alloc (.cells #[.slice x.A n x.c] 26)).heap.size = w.heap.size + 2 by simp] at Y1
  have hb0 := kal (kal (bl w (.cells #[.int .i64 z, .int .i64 d, .int .i64 s, .int .i64 l, .int .i64 a] 23)) (.cells #[.slice x.A n x.c] 26)) (.cells #[.slice y.A m y.c] 26)
  have l1 : w.heap.size + 2 < (((w.alloc (.cells #[.int .i64 z, .int .i64 d, .int .i64 s, .int .i64 l, .int .i64 a] 23)).alloc (.cells #[.slice x.A n x.c] 26)).alloc (.cells #[.slice y.A m y.c] 26)).heap.size := by simp
  unfold TV.v
  rw [hxn, hym]
  go_enter Try.func4, Try.ntmps4
  go_upto_region 1 with fail
  generalize (((w.alloc (.cells #[.int .i64 z, .int .i64 d, .int .i64 s, .int .i64 l, .int .i64 a] 23)).alloc (.cells #[.slice x.A n x.c] 26)).alloc (.cells #[.slice y.A m y.c] 26)) = w0 at *
  obtain ⟨g0, g1, g2, g3, g4⟩ := id GG
  have x0 := X1.c0
  have y0 := Y1.c0
  clear hc hx hy hxg hyg hxn hym
  have HWK := Lib.hid (fun W (hW : Below w.heap.size w W) => wk_tab W (HC.out.next hW))
  go_wp2_with (first
    | (go_at_call 9; (with_reducible refine (HB.out _ hb0).mono ?_); rintro e wq ⟨⟨Y, yc, rfl⟩, hbq⟩; replace GG := GG.keep hbq (by omega); replace X1 := X1.keep hbq (by omega); replace Y1 := Y1.keep hbq (by omega); replace l1 := Nat.lt_of_lt_of_le l1 hbq.size; clear g0 g1 g2 g3 g4 x0 y0; obtain ⟨g0, g1, g2, g3, g4⟩ := id GG; have x0 := X1.c0; have y0 := Y1.c0; replace hb0 := bt hb0 hbq; clear hbq)
    | (go_at_call 9; (with_reducible refine (HD.out _ hb0).mono ?_); rintro e wq ⟨⟨Y, yc, rfl, -, -⟩, hbq⟩; replace GG := GG.keep hbq (by omega); replace X1 := X1.keep hbq (by omega); replace Y1 := Y1.keep hbq (by omega); replace l1 := Nat.lt_of_lt_of_le l1 hbq.size; clear g0 g1 g2 g3 g4 x0 y0; obtain ⟨g0, g1, g2, g3, g4⟩ := id GG; have x0 := X1.c0; have y0 := Y1.c0; replace hb0 := bt hb0 hbq; clear hbq)
    | (go_at_call 15; (with_reducible refine (HWK.out _ hb0).mono ?_); rintro e wz ⟨rfl, hbz⟩))
  go_ret
  exact ⟨rfl, bt hb0 hbz⟩
set_option maxRecDepth 100000 in
set_option maxHeartbeats 4000000 in
theorem tk_yn (z d s l a : Int) (x y : TV) (n m : Nat) (cut : Int) (w : World) (hxn : x.es.length = n) (hym : y.es.length = m) (hc : Ctt w) (hx : x.In w w.heap.size) (hy : y.In w w.heap.size) (hn20 : n ≤ 20) (hm20 : m ≤ 20) (hxg : Ok z d s l a ∧ Good d x.es) (hyg : ¬ (Ok z d s l a ∧ Good d y.es)) :
    Calls Try.prog 4 #[.agg #[.int .i64 z, .int .i64 d, .int .i64 s, .int .i64 l, .int .i64 a], x.v, y.v, .int .i64 cut] w fun e w' => e = .returned (.bool true) ∧ Below w.heap.size w w' := by
  have HB := Lib.hid (show ∀ W, Below w.heap.size w W → Calls Try.prog 9 #[.agg #[.int .i64 z, .int .i64 d, .int .i64 s, .int .i64 l, .int .i64 a], .agg #[.slice x.A n x.c]] W fun e w' => BytE W.heap.size (n * 9) (encT x.es) 0 e w' ∧ Below W.heap.size W w' from fun W hW => by
    have h9 := hc.bytes z d s l a x W hW hxg.1 (hx.next hW) hxg.2
    unfold TV.v at h9
    rwa [hxn] at h9)
  have HD := Lib.hid (show ∀ W, Below w.heap.size w W → Calls Try.prog 9 #[.agg #[.int .i64 z, .int .i64 d, .int .i64 s, .int .i64 l, .int .i64 a], .agg #[.slice y.A m y.c]] W fun e w' => NonE 1 e ∧ Below W.heap.size W w' from fun W hW => by
    have h9 := hc.bytes_no z d s l a y W hW hyg (hy.next hW) (by omega)
    unfold TV.v at h9
    rwa [hym] at h9)
  have HC := Lib.hid hc
  have i1 : ¬ (20 : Int) < (n : Int) := by omega
  have i2 : ¬ (20 : Int) < (m : Int) := by omega
  have GG := ((g5_new w z d s l a).keep (bl (w.alloc (.cells #[.int .i64 z, .int .i64 d, .int .i64 s, .int .i64 l, .int .i64 a] 23)) (.cells #[.slice x.A n x.c] 26)) (by simp)).keep (bl ((w.alloc (.cells #[.int .i64 z, .int .i64 d, .int .i64 s, .int .i64 l, .int .i64 a] 23)).alloc (.cells #[.slice x.A n x.c] 26)) (.cells #[.slice y.A m y.c] 26)) (by simp; omega)
  have X1 := (c1_new (w.alloc (.cells #[.int .i64 z, .int .i64 d, .int .i64 s, .int .i64 l, .int .i64 a] 23)) (.slice x.A n x.c) 26).keep (bl ((w.alloc (.cells #[.int .i64 z, .int .i64 d, .int .i64 s, .int .i64 l, .int .i64 a] 23)).alloc (.cells #[.slice x.A n x.c] 26)) (.cells #[.slice y.A m y.c] 26)) (by simp)
  have Y1 := c1_new ((w.alloc (.cells #[.int .i64 z, .int .i64 d, .int .i64 s, .int .i64 l, .int .i64 a] 23)).alloc (.cells #[.slice x.A n x.c] 26)) (.slice y.A m y.c) 26
  rw [show (w.alloc (.cells #[.int .i64 z, .int .i64 d, .int .i64 s, .int .i64 l, .int .i64 a] 23)).heap.size = w.heap.size + 1 by simp] at X1
  rw [show ((w.alloc (.cells #[.int .i64 z, .int .i64 d, .int .i64 s, .int .i64 l, .int .i64 a] 23)).alloc (.cells #[.slice x.A n x.c] 26)).heap.size = w.heap.size + 2 by simp] at Y1
  have hb0 := kal (kal (bl w (.cells #[.int .i64 z, .int .i64 d, .int .i64 s, .int .i64 l, .int .i64 a] 23)) (.cells #[.slice x.A n x.c] 26)) (.cells #[.slice y.A m y.c] 26)
  have l1 : w.heap.size + 2 < (((w.alloc (.cells #[.int .i64 z, .int .i64 d, .int .i64 s, .int .i64 l, .int .i64 a] 23)).alloc (.cells #[.slice x.A n x.c] 26)).alloc (.cells #[.slice y.A m y.c] 26)).heap.size := by simp
  unfold TV.v
  rw [hxn, hym]
  go_enter Try.func4, Try.ntmps4
  go_upto_region 1 with fail
  generalize (((w.alloc (.cells #[.int .i64 z, .int .i64 d, .int .i64 s, .int .i64 l, .int .i64 a] 23)).alloc (.cells #[.slice x.A n x.c] 26)).alloc (.cells #[.slice y.A m y.c] 26)) = w0 at *
  obtain ⟨g0, g1, g2, g3, g4⟩ := id GG
  have x0 := X1.c0
  have y0 := Y1.c0
  clear hc hx hy hxg hyg hxn hym
  have HWK := Lib.hid (fun W (hW : Below w.heap.size w W) => wk_tab W (HC.out.next hW))
  go_wp2_with (first
    | (go_at_call 9; (with_reducible refine (HB.out _ hb0).mono ?_); rintro e wq ⟨⟨Y, yc, rfl, -, -⟩, hbq⟩; replace GG := GG.keep hbq (by omega); replace X1 := X1.keep hbq (by omega); replace Y1 := Y1.keep hbq (by omega); replace l1 := Nat.lt_of_lt_of_le l1 hbq.size; clear g0 g1 g2 g3 g4 x0 y0; obtain ⟨g0, g1, g2, g3, g4⟩ := id GG; have x0 := X1.c0; have y0 := Y1.c0; replace hb0 := bt hb0 hbq; clear hbq)
    | (go_at_call 9; (with_reducible refine (HD.out _ hb0).mono ?_); rintro e wq ⟨⟨Y, yc, rfl⟩, hbq⟩; replace GG := GG.keep hbq (by omega); replace X1 := X1.keep hbq (by omega); replace Y1 := Y1.keep hbq (by omega); replace l1 := Nat.lt_of_lt_of_le l1 hbq.size; clear g0 g1 g2 g3 g4 x0 y0; obtain ⟨g0, g1, g2, g3, g4⟩ := id GG; have x0 := X1.c0; have y0 := Y1.c0; replace hb0 := bt hb0 hbq; clear hbq)
    | (go_at_call 15; (with_reducible refine (HWK.out _ hb0).mono ?_); rintro e wz ⟨rfl, hbz⟩))
  go_ret
  exact ⟨rfl, bt hb0 hbz⟩
set_option maxRecDepth 100000 in
set_option maxHeartbeats 4000000 in
theorem tk_both (c : Bool) (q q2 k : Nat) (z d s l a : Int) (x y : TV) (n m : Nat) (cut : Int) (w : World) (hxn : x.es.length = n) (hym : y.es.length = m) (hc : Ctt w) (hx : x.In w w.heap.size) (hy : y.In w w.heap.size) (hn20 : n ≤ 20) (hm20 : m ≤ 20) (ho : Ok z d s l a) (hg : Good d x.es) (hg2 : Good d y.es)
    (hq : n * 9 = q) (hq2 : m * 9 = q2) (hq0 : 0 < q) (hqm : q ≤ 96) (hkq : k < q) (hK : (IntKind.u64.wrap cut).tmod (q : Int) = (k : Int)) (hce : decide (x.es = y.es) = c) :
    Calls Try.prog 4 #[.agg #[.int .i64 z, .int .i64 d, .int .i64 s, .int .i64 l, .int .i64 a], x.v, y.v, .int .i64 cut] w fun e w' => e = .returned (.bool true) ∧ Below w.heap.size w w' := by
  have o2 := ho.2.1
  have told := told_of (by omega) hg
  have hxq : (encT x.es).length = q := by rw [encT_length, hxn]; exact hq
  have hyq : (encT y.es).length = q2 := by rw [encT_length, hym]; exact hq2
  have HB := Lib.hid (show ∀ W, Below w.heap.size w W → Calls Try.prog 9 #[.agg #[.int .i64 z, .int .i64 d, .int .i64 s, .int .i64 l, .int .i64 a], .agg #[.slice x.A n x.c]] W fun e w' => BytE W.heap.size q (encT x.es) 0 e w' ∧ Below W.heap.size W w' from fun W hW => by
    have h9 := hc.bytes z d s l a x W hW ho (hx.next hW) hg
    unfold TV.v at h9
    rwa [hxn, hq] at h9)
  have HD := Lib.hid (show ∀ W, Below w.heap.size w W → Calls Try.prog 9 #[.agg #[.int .i64 z, .int .i64 d, .int .i64 s, .int .i64 l, .int .i64 a], .agg #[.slice y.A m y.c]] W fun e w' => BytE W.heap.size q2 (encT y.es) 0 e w' ∧ Below W.heap.size W w' from fun W hW => by
    have h9 := hc.bytes z d s l a y W hW ho (hy.next hW) hg2
    unfold TV.v at h9
    rwa [hym, hq2] at h9)
  have HR := Lib.hid (show ∀ (W : World) (A : Option Addr) (c : Nat), Below w.heap.size w W → Sl W W.heap.size A (encT x.es) → q ≤ c → c ≤ maxLen → Calls Try.prog 10 #[.agg #[.int .i64 z, .int .i64 d, .int .i64 s, .int .i64 l, .int .i64 a], .slice A q c] W fun e w' => TbE W.heap.size x.es 0 e w' ∧ Below W.heap.size W w' from fun W A c hW h1 h2 h3 => by
    have h9 := hc.read z d s l a A q c _ W hW ho hxq h2 h3 (by omega) h1 told.1
    rwa [told.2] at h9)
  have HRC := Lib.hid (show ∀ (W : World) (A : Option Addr) (c : Nat), Below w.heap.size w W → Sl W W.heap.size A (encT x.es) → q ≤ c → c ≤ maxLen → Calls Try.prog 10 #[.agg #[.int .i64 z, .int .i64 d, .int .i64 s, .int .i64 l, .int .i64 a], .slice A k c] W fun e w' => TbE W.heap.size [] 4 e w' ∧ Below W.heap.size W w' from fun W A c hW h1 h2 h3 =>
    hc.read_no z d s l a A k c ((encT x.es).take k) W hW ho (by rw [List.length_take]; omega) (by omega) h3 (by omega) (h1.take k) fun h => by
      have h9 := h.1
      have h8 := told.1.1
      rw [List.length_take] at h9
      omega)
  have HRM := Lib.hid (show ∀ (W : World) (A : Option Addr) (c : Nat), Below w.heap.size w W → Sl W W.heap.size A (encT x.es ++ [0]) → q + 1 ≤ c → c ≤ maxLen → Calls Try.prog 10 #[.agg #[.int .i64 z, .int .i64 d, .int .i64 s, .int .i64 l, .int .i64 a], .slice A (q + 1) c] W fun e w' => TbE W.heap.size [] 4 e w' ∧ Below W.heap.size W w' from fun W A c hW h1 h2 h3 =>
    hc.read_no z d s l a A (q + 1) c _ W hW ho (by rw [List.length_append, hxq]; rfl) h2 h3 (by omega) h1 fun h => by
      have h9 := h.1
      have h8 := told.1.1
      rw [List.length_append] at h9
      simp only [List.length_cons, List.length_nil] at h9
      omega)
  have HX := Lib.hid hx
  have HY := Lib.hid hy
  have HQ := Lib.hid hxq
  have HQ2 := Lib.hid hyq
  have HXN := Lib.hid hxn
  have HYM := Lib.hid hym
  have HEN := Lib.hid (show decide (encT x.es = encT y.es) = c by
    rw [← hce]
    exact decide_eq_decide.2 ⟨fun h => encT_inj hg.2.1 hg2.2.1 h, fun h => by rw [h]⟩)
  have HCE := Lib.hid hce
  have HC := Lib.hid hc
  have i1 : ¬ (20 : Int) < (n : Int) := by omega
  have i2 : ¬ (20 : Int) < (m : Int) := by omega
  have GG := ((g5_new w z d s l a).keep (bl (w.alloc (.cells #[.int .i64 z, .int .i64 d, .int .i64 s, .int .i64 l, .int .i64 a] 23)) (.cells #[.slice x.A n x.c] 26)) (by simp)).keep (bl ((w.alloc (.cells #[.int .i64 z, .int .i64 d, .int .i64 s, .int .i64 l, .int .i64 a] 23)).alloc (.cells #[.slice x.A n x.c] 26)) (.cells #[.slice y.A m y.c] 26)) (by simp; omega)
  have X1 := (c1_new (w.alloc (.cells #[.int .i64 z, .int .i64 d, .int .i64 s, .int .i64 l, .int .i64 a] 23)) (.slice x.A n x.c) 26).keep (bl ((w.alloc (.cells #[.int .i64 z, .int .i64 d, .int .i64 s, .int .i64 l, .int .i64 a] 23)).alloc (.cells #[.slice x.A n x.c] 26)) (.cells #[.slice y.A m y.c] 26)) (by simp)
  have Y1 := c1_new ((w.alloc (.cells #[.int .i64 z, .int .i64 d, .int .i64 s, .int .i64 l, .int .i64 a] 23)).alloc (.cells #[.slice x.A n x.c] 26)) (.slice y.A m y.c) 26
  rw [show (w.alloc (.cells #[.int .i64 z, .int .i64 d, .int .i64 s, .int .i64 l, .int .i64 a] 23)).heap.size = w.heap.size + 1 by simp] at X1
  rw [show ((w.alloc (.cells #[.int .i64 z, .int .i64 d, .int .i64 s, .int .i64 l, .int .i64 a] 23)).alloc (.cells #[.slice x.A n x.c] 26)).heap.size = w.heap.size + 2 by simp] at Y1
  have hb0 := kal (kal (bl w (.cells #[.int .i64 z, .int .i64 d, .int .i64 s, .int .i64 l, .int .i64 a] 23)) (.cells #[.slice x.A n x.c] 26)) (.cells #[.slice y.A m y.c] 26)
  have l1 : w.heap.size + 2 < (((w.alloc (.cells #[.int .i64 z, .int .i64 d, .int .i64 s, .int .i64 l, .int .i64 a] 23)).alloc (.cells #[.slice x.A n x.c] 26)).alloc (.cells #[.slice y.A m y.c] 26)).heap.size := by simp
  unfold TV.v
  rw [hxn, hym]
  go_enter Try.func4, Try.ntmps4
  go_upto_region 1 with fail
  generalize (((w.alloc (.cells #[.int .i64 z, .int .i64 d, .int .i64 s, .int .i64 l, .int .i64 a] 23)).alloc (.cells #[.slice x.A n x.c] 26)).alloc (.cells #[.slice y.A m y.c] 26)) = w0 at *
  obtain ⟨g0, g1, g2, g3, g4⟩ := id GG
  have x0 := X1.c0
  have y0 := Y1.c0
  clear hx hy hc hg hg2 ho hq hq2 hce hxn hym hxq hyq told
  go_upto_region 5 with (first
    | (go_at_call 9; (with_reducible refine (HB.out _ hb0).mono ?_); rintro e wB ⟨⟨X5, y5, rfl, -, p5⟩, hbq⟩; obtain ⟨X5', y5', hv5, k5, m5, s5, -⟩ := p5.form; simp only [Value.slice.injEq] at hv5; obtain ⟨rfl, -, rfl⟩ := hv5; replace GG := GG.keep hbq (by omega); replace X1 := X1.keep hbq (by omega); replace Y1 := Y1.keep hbq (by omega); replace l1 := Nat.lt_of_lt_of_le l1 hbq.size; clear g0 g1 g2 g3 g4 x0 y0; obtain ⟨g0, g1, g2, g3, g4⟩ := id GG; have x0 := X1.c0; have y0 := Y1.c0; replace hb0 := bt hb0 hbq; clear hbq)
    | (go_at_call 9; (with_reducible refine (HD.out _ hb0).mono ?_); rintro e wD ⟨⟨X6, y6, rfl, -, p6⟩, hbq⟩; obtain ⟨X6', y6', hv6, k6, m6, s6, -⟩ := p6.form; simp only [Value.slice.injEq] at hv6; obtain ⟨rfl, -, rfl⟩ := hv6; have s5 := s5.next hbq; replace GG := GG.keep hbq (by omega); replace X1 := X1.keep hbq (by omega); replace Y1 := Y1.keep hbq (by omega); replace l1 := Nat.lt_of_lt_of_le l1 hbq.size; clear g0 g1 g2 g3 g4 x0 y0; obtain ⟨g0, g1, g2, g3, g4⟩ := id GG; have x0 := X1.c0; have y0 := Y1.c0; replace hb0 := bt hb0 hbq; clear hbq))
  clear HB HD p5 p6 i1 i2
  rw [HQ.out] at k5
  rw [HQ2.out] at k6
  have q0 : ¬ (q : Int) = 0 := by omega
  have q1 : ((q : Int) == 0) = false := beq_eq_false_iff_ne.2 q0
  have q2' : ¬ (96 : Int) < (q : Int) := by omega
  obtain ⟨bX, oX, rfl, -, -⟩ := s5 (by rw [HQ.out]; omega)
  go_upto_region 8 with (go_at_call 10; (with_reducible refine (HR.out _ _ _ hb0 s5 k5 m5).mono ?_); rintro e wR ⟨⟨u, heu, hud0, huo⟩, hbq⟩; rw [TV.v] at heu; subst heu; have hud1 := Lib.hid hud0; clear hud0; have s5 := s5.next hbq; have s6 := s6.next hbq; replace GG := GG.keep hbq (by omega); replace X1 := X1.keep hbq (by omega); replace Y1 := Y1.keep hbq (by omega); replace l1 := Nat.lt_of_lt_of_le l1 hbq.size; clear g0 g1 g2 g3 g4 x0 y0; obtain ⟨g0, g1, g2, g3, g4⟩ := id GG; have x0 := X1.c0; have y0 := Y1.c0; replace hb0 := bt hb0 hbq; clear hbq)
  have hul : u.es.length = n := by rw [hud1.out]; exact HXN.out
  rw [hul]
  have hx6 := bl wR (.cells #[.slice u.A n u.c] 26)
  have U1 := c1_new wR (.slice u.A n u.c) 26
  have lU : wR.heap.size < (wR.alloc (.cells #[.slice u.A n u.c] 26)).heap.size := by simp
  have HUO := Lib.hid (TV.Own.inn (TV.Own.below huo hx6))
  have HUL := Lib.hid hul
  have s5n := s5.next hx6
  have s6n := s6.next hx6
  replace GG := GG.keep hx6 (by omega)
  replace X1 := X1.keep hx6 (by omega)
  replace Y1 := Y1.keep hx6 l1
  replace hb0 := bt hb0 hx6
  obtain ⟨gu, hgu⟩ : ∃ g, g = wR.heap.size := ⟨_, rfl⟩
  rw [← hgu] at U1 lU ⊢
  replace l1 : w.heap.size + 2 < (wR.alloc (.cells #[.slice u.A n u.c] 26)).heap.size := Nat.lt_of_lt_of_le l1 hx6.size
  clear g0 g1 g2 g3 g4 x0 y0
  clear huo hul hx6 hgu HR s5 s6
  generalize wR.alloc (.cells #[.slice u.A n u.c] 26) = w4 at *
  have HA1 := Lib.hid (show ∀ W, Below w4.heap.size w4 W → Calls Try.prog 14 #[.agg #[.slice u.A n u.c], .agg #[.slice x.A n x.c]] W fun e w' => e = .returned (.bool true) ∧ Below W.heap.size W w' from fun W hW => by
    have h := tab_same u x W (HUO.out.next hW) (HX.out.next (bt hb0 hW)) (by rw [HUL.out]; omega)
    unfold TV.v at h
    rwa [decide_eq_true hud1.out, HUL.out, HXN.out] at h)
  have HA2 := Lib.hid (show ∀ W, Below w4.heap.size w4 W → Calls Try.prog 19 #[.slice (some ⟨bX, oX, none⟩) q y5, .slice X6 q2 y6] W fun e w' => e = .returned (.bool c) ∧ Below W.heap.size W w' from fun W hW => by
    have h := keep_any (some ⟨bX, oX, none⟩) X6 y5 y6 _ _ (encT x.es) (encT y.es) W (s5n.next hW) (s6n.next hW) (Nat.le_refl _) (Nat.le_refl _) (by rw [HQ.out]; omega)
    rwa [HEN.out, HQ.out, HQ2.out] at h)
  have HA3 := Lib.hid (show ∀ W, Below w4.heap.size w4 W → Calls Try.prog 14 #[.agg #[.slice x.A n x.c], .agg #[.slice y.A m y.c]] W fun e w' => e = .returned (.bool c) ∧ Below W.heap.size W w' from fun W hW => by
    have h := tab_same x y W (HX.out.next (bt hb0 hW)) (HY.out.next (bt hb0 hW)) (by rw [HXN.out]; omega)
    unfold TV.v at h
    rwa [HCE.out, HXN.out, HYM.out] at h)
  go_cut [98] from 72 to 98 (fun v wx => v = .bool false ∧ Below w4.heap.size w4 wx)
  case first =>
    have HF := Lib.hid (show ∀ W, Below w4.heap.size w4 W → W.cell? ⟨w.heap.size + 1, 0, none⟩ = some (.slice x.A n x.c) ∧ W.cell? ⟨w.heap.size + 2, 0, none⟩ = some (.slice y.A m y.c) ∧ W.cell? ⟨gu, 0, none⟩ = some (.slice u.A n u.c) ∧ Below w4.heap.size w4 W from fun W h => ⟨kst h (by omega) X1.c0, kst h (by omega) Y1.c0, kst h lU U1.c0, h⟩)
    clear X1 Y1 U1 GG s5n s6n HQ HQ2 HRC HRM HEN HX HY HCE HC
    cases c
    all_goals
      have q2n : ¬ ((96 : Int) < (q : Int)) := by omega
      have q2d : decide ((96 : Int) < (q : Int)) = false := decide_eq_false q2n
      go_region_held3 (fun W => W.cell? ⟨w.heap.size + 1, 0, none⟩ = some (.slice x.A n x.c) ∧ W.cell? ⟨w.heap.size + 2, 0, none⟩ = some (.slice y.A m y.c) ∧ W.cell? ⟨gu, 0, none⟩ = some (.slice u.A n u.c) ∧ Below w4.heap.size w4 W)
        ((first
          | exact HF.out _ (below_dr (Below.refl _ _))
          | exact HF.out _ hb3
          | exact HF.out _ hb2
          | exact HF.out _ hb1
          | fail))
        (first
          | (go_at_call 14; (with_reducible refine (HA1.out _ (below_dr (Below.refl _ _))).mono ?_); rintro e wq1 ⟨rfl, hbq⟩; have hb1 := bt (below_dr (Below.refl w4.heap.size w4)) hbq; clear hbq)
          | (go_at_call 19; (with_reducible refine (HA2.out _ hb1).mono ?_); rintro e wq2 ⟨rfl, hbq⟩; have hb2 := bt hb1 hbq; clear hbq)
          | (go_at_call 14; (with_reducible refine (HA3.out _ hb2).mono ?_); rintro e wq3 ⟨rfl, hbq⟩; have hb3 := bt hb2 hbq; clear hbq)
          | fail)
      all_goals (go_wp2_with fail; go_meet)
      all_goals exact ⟨rfl, hb3⟩
  case rest =>
    obtain ⟨w5, rfl⟩ : ∃ x, x = wc := ⟨wc, rfl⟩
    obtain ⟨rfl, hb5⟩ := hcut
    have GG5 := GG.keep hb5 (by omega)
    have s55 := s5n.next hb5
    have l5 := hb5.size
    have hb05 := bt hb0 hb5
    clear X1 Y1 U1 GG s5n s6n HA1 HA2 HA3 hb5
    go_upto_region 10 with fail
    go_cut [16] from 100 to 112 (fun v wx => v = .int .i64 4 ∧ Below w5.heap.size w5 wx)
    case first =>
      obtain ⟨g0, g1, g2, g3, g4⟩ := id GG5
      have HF := Lib.hid (show ∀ W, Below w5.heap.size w5 W → W.cell? ⟨w.heap.size, 0, none⟩ = some (.int .i64 z) ∧ W.cell? ⟨w.heap.size, 1, none⟩ = some (.int .i64 d) ∧ W.cell? ⟨w.heap.size, 2, none⟩ = some (.int .i64 s) ∧ W.cell? ⟨w.heap.size, 3, none⟩ = some (.int .i64 l) ∧ W.cell? ⟨w.heap.size, 4, none⟩ = some (.int .i64 a) ∧ Below w5.heap.size w5 W from fun W h => ⟨kst h (by omega) g0, kst h (by omega) g1, kst h (by omega) g2, kst h (by omega) g3, kst h (by omega) g4, h⟩)
      have HR2 := Lib.hid (show ∀ W, Below w5.heap.size w5 W → Calls Try.prog 10 #[.agg #[.int .i64 z, .int .i64 d, .int .i64 s, .int .i64 l, .int .i64 a], .slice (some ⟨bX, oX, none⟩) k y5] W fun e w' => TbE W.heap.size [] 4 e w' ∧ Below W.heap.size W w' from fun W hW => HRC.out W _ _ (bt hb05 hW) (s55.next hW) k5 m5)
      have wq : IntKind.u64.wrap (q : Int) = q := IntWalk.u64_in _ (by omega)
      have wk1 : IntKind.u64.wrap (k : Int) = k := IntWalk.u64_in _ (by omega)
      have wk2 : IntKind.i64.wrap (k : Int) = k := IntWalk.i64_in _ (by omega)
      have b1' : (0 : Int) ≤ (k : Int) := by omega
      have b2' : (k : Int) ≤ (y5 : Int) := by omega
      have b3' : (k : Int) ≤ (q : Int) := by omega
      have b4' : ((k : Int)).toNat = k := by omega
      have q0i : ((q : Int) == 0) = false := beq_eq_false_iff_ne.2 q0
      have q0n : ¬ q = 0 := by omega
      have q0b : (q == 0) = false := beq_eq_false_iff_ne.2 q0n
      clear g0 g1 g2 g3 g4 GG5 s55
      go_region_held3 (fun W => W.cell? ⟨w.heap.size, 0, none⟩ = some (.int .i64 z) ∧ W.cell? ⟨w.heap.size, 1, none⟩ = some (.int .i64 d) ∧ W.cell? ⟨w.heap.size, 2, none⟩ = some (.int .i64 s) ∧ W.cell? ⟨w.heap.size, 3, none⟩ = some (.int .i64 l) ∧ W.cell? ⟨w.heap.size, 4, none⟩ = some (.int .i64 a) ∧ Below w5.heap.size w5 W)
        ((refine HF.out _ ?_; first
          | with_reducible exact (below_dr hb1).setCell (p := ⟨w5.heap.size, 0, none⟩) (Nat.le_refl _) _
          | with_reducible exact hb1.setCell (p := ⟨w5.heap.size, 0, none⟩) (Nat.le_refl _) _
          | with_reducible exact hb1
          | with_reducible exact below_dr hb1
          | with_reducible exact kal (below_dr hb1) _
          | with_reducible exact kal hb1 _
          | with_reducible exact below_dr (bl w5 _)
          | with_reducible exact bl w5 _
          | with_reducible exact below_dr (Below.refl _ _)
          | with_reducible exact Below.refl _ _
          | fail))
        (first
          | (go_at_call 10; (with_reducible refine (HR2.out _ (below_dr (Below.refl _ _))).mono ?_); rintro e wq1 ⟨⟨u1, heu, -, -⟩, hbq⟩; rw [TV.v] at heu; subst heu; have hb1 := bt (below_dr (Below.refl w5.heap.size w5)) hbq; clear hbq)
          | (go_at_call 10; (with_reducible refine (HR2.out _ (below_dr (bl w5 _))).mono ?_); rintro e wq1 ⟨⟨u1, heu, -, -⟩, hbq⟩; rw [TV.v] at heu; subst heu; have hb1 := bt (below_dr (bl w5 _)) hbq; obtain ⟨z0, f0⟩ := (c1_new w5 (.slice none 0 0) 26).keep (B := (w5.alloc (.cells #[.slice none 0 0] 26)).heap.size) (below_dr (Below.refl _ _)) (by simp) |>.keep hbq (by simp); clear hbq)
          | fail)
      all_goals (go_wp2_with fail; go_meet)
      all_goals (refine ⟨rfl, ?_⟩; first | with_reducible exact (below_dr hb1).setCell (p := ⟨w5.heap.size, 0, none⟩) (Nat.le_refl _) _ | with_reducible exact hb1.setCell (p := ⟨w5.heap.size, 0, none⟩) (Nat.le_refl _) _ | with_reducible exact kal hb1 _ | with_reducible exact kal (below_dr hb1) _)
    case rest =>
      obtain ⟨w6, rfl⟩ : ∃ x, x = wc := ⟨wc, rfl⟩
      obtain ⟨rfl, hb6⟩ := hcut
      have GG6 := GG5.keep hb6 (by omega)
      have s66 := s55.next hb6
      have hb06 := bt hb05 hb6
      have l6 : w.heap.size + 2 < w6.heap.size := by have := hb6.size; omega
      clear GG5 s55 hb6 HRC
      go_upto_region 11 with fail
      go_cut [18] from 114 to 121 (fun v wx => v = .int .i64 4 ∧ Below w6.heap.size w6 wx)
      case first =>
        obtain ⟨g0, g1, g2, g3, g4⟩ := id GG6
        have HF := Lib.hid (show ∀ W, Below w6.heap.size w6 W → W.cell? ⟨w.heap.size, 0, none⟩ = some (.int .i64 z) ∧ W.cell? ⟨w.heap.size, 1, none⟩ = some (.int .i64 d) ∧ W.cell? ⟨w.heap.size, 2, none⟩ = some (.int .i64 s) ∧ W.cell? ⟨w.heap.size, 3, none⟩ = some (.int .i64 l) ∧ W.cell? ⟨w.heap.size, 4, none⟩ = some (.int .i64 a) ∧ Below w6.heap.size w6 W from fun W h => ⟨kst h (by omega) g0, kst h (by omega) g1, kst h (by omega) g2, kst h (by omega) g3, kst h (by omega) g4, h⟩)
        have HT2 := Lib.hid (show ∀ W, Below w6.heap.size w6 W → Calls Try.prog 22 #[.slice (some ⟨bX, oX, none⟩) q y5] W fun e w' => One W.heap.size (encT x.es) e w' ∧ Below W.heap.size W w' ∧ Below w6.heap.size w6 w' ∧ w6.heap.size ≤ W.heap.size from fun W hW => by
          have h := twin_any (some ⟨bX, oX, none⟩) y5 _ (encT x.es) W (s66.next hW) (by rw [HQ.out]; omega)
          rw [HQ.out] at h
          exact h.mono fun e w' h => ⟨h.1, h.2, bt hW h.2, hW.size⟩)
        have HR3 := Lib.hid (show ∀ (W : World) (A : Option Addr) (n : Nat), Below w6.heap.size w6 W → Sl W W.heap.size A (encT x.es ++ [0]) → q + 1 ≤ n → n ≤ maxLen → Calls Try.prog 10 #[.agg #[.int .i64 z, .int .i64 d, .int .i64 s, .int .i64 l, .int .i64 a], .slice A (q + 1) n] W fun e w' => TbE W.heap.size [] 4 e w' ∧ Below W.heap.size W w' ∧ Below w6.heap.size w6 w' from fun W A n hW h1 h2 h3 =>
          (HRM.out W A n (bt hb06 hW) h1 h2 h3).mono fun e w' h => ⟨h.1, h.2, bt hW h.2⟩)
        have HSZ := Lib.hid (show ∀ (W : World) (o : Obj), (W.alloc o).heap.size = W.heap.size + 1 from fun W o => by simp)
        have HQM := Lib.hid (show (encT x.es ++ [0]).length = q + 1 by rw [List.length_append, HQ.out]; rfl)
        clear g0 g1 g2 g3 g4 GG6 s66 HRM
        go_region_held3 (fun W => W.cell? ⟨w.heap.size, 0, none⟩ = some (.int .i64 z) ∧ W.cell? ⟨w.heap.size, 1, none⟩ = some (.int .i64 d) ∧ W.cell? ⟨w.heap.size, 2, none⟩ = some (.int .i64 s) ∧ W.cell? ⟨w.heap.size, 3, none⟩ = some (.int .i64 l) ∧ W.cell? ⟨w.heap.size, 4, none⟩ = some (.int .i64 a) ∧ Below w6.heap.size w6 W)
          ((refine HF.out _ ?_; first
          | (with_reducible refine below_set1 hb ?_; omega)
          | (with_reducible refine below_set1 (below_dr hb) ?_; omega)
          | (first | with_reducible exact hb | with_reducible exact below_dr hb | with_reducible exact kal hb _ | with_reducible exact below_dr (kal hb _) | with_reducible exact kal (kal hb _) _ | with_reducible exact below_dr (kal (kal hb _) _) | with_reducible exact bl w6 _ | with_reducible exact below_dr (bl w6 _) | with_reducible exact kal (bl w6 _) _ | with_reducible exact below_dr (kal (bl w6 _) _) | with_reducible exact below_dr (Below.refl _ _) | with_reducible exact Below.refl _ _ | fail)))
          (first
            | (go_at_call 22; (with_reducible refine (HT2.out _ ?_).mono ?_); (focus (first | with_reducible exact hb | with_reducible exact below_dr hb | with_reducible exact kal hb _ | with_reducible exact below_dr (kal hb _) | with_reducible exact kal (kal hb _) _ | with_reducible exact below_dr (kal (kal hb _) _) | with_reducible exact bl w6 _ | with_reducible exact below_dr (bl w6 _) | with_reducible exact kal (bl w6 _) _ | with_reducible exact below_dr (kal (bl w6 _) _) | with_reducible exact below_dr (Below.refl _ _) | with_reducible exact Below.refl _ _ | fail)); rintro e w1 ⟨⟨v2, rfl, o2⟩, hbq, hb, hle⟩; have hs1 := hb.size; (first | (have hzn : Zer w1 (w6.heap.size) := ?_; rotate_left; (focus (refine Zer.nx ?_ hbq; (first | with_reducible exact hz | with_reducible exact hz.dr | with_reducible exact hz.al _ | with_reducible exact (hz.al _).dr | (with_reducible refine zer_at ?_; (first | rfl | (simp; done))) | (with_reducible refine (zer_at ?_).dr; (first | rfl | (simp; done))) | (with_reducible refine (zer_at ?_).al _; (first | rfl | (simp; done))) | (with_reducible refine ((zer_at ?_).al _).dr; (first | rfl | (simp; done))) | fail); done))) | (have hzn : Zer w1 (w6.heap.size + 1) := ?_; rotate_left; (focus (refine Zer.nx ?_ hbq; (first | with_reducible exact hz | with_reducible exact hz.dr | with_reducible exact hz.al _ | with_reducible exact (hz.al _).dr | (with_reducible refine zer_at ?_; (first | rfl | (simp; done))) | (with_reducible refine (zer_at ?_).dr; (first | rfl | (simp; done))) | (with_reducible refine (zer_at ?_).al _; (first | rfl | (simp; done))) | (with_reducible refine ((zer_at ?_).al _).dr; (first | rfl | (simp; done))) | fail); done))) | have hzn := True.intro); have hz := hzn; clear hzn)
            | (refine step_app8 _ rfl (.tmp 116) (.tmp 117) _ _ rfl w6.heap.size 5 t8 v2 (encT x.es) rfl ?_ _ [0] rfl ?_ ?_ ?_ ?_; (focus (first | with_reducible exact o2.less hle | with_reducible exact (o2.less hle).drew | with_reducible exact (o2.less hle).alloc _ | with_reducible exact ((o2.less hle).alloc _).drew | with_reducible exact ((o2.less hle).alloc _).alloc _ | with_reducible exact (((o2.less hle).alloc _).alloc _).drew | fail)); (focus (first | exact src_zero (u := .slice (some ⟨w1.heap.size, 0, none⟩) 1 1) rfl (blk_new rfl) | exact src_zero (u := .slice (some ⟨w1.heap.size, 0, none⟩) 1 1) rfl (blk_old (blk_new rfl)) | exact src_zero (u := .slice (some ⟨w1.heap.size + 1, 0, none⟩) 1 1) rfl (blk_new (HSZ.out _ _).symm) | exact src_zero (u := .slice (some ⟨w6.heap.size, 0, none⟩) 1 1) rfl (blk_next hbq (blk_drew (blk_new rfl))) | exact src_zero (u := .slice (some ⟨w6.heap.size, 0, none⟩) 1 1) rfl (blk_old (blk_next hbq (blk_drew (blk_new rfl)))) | exact src_zero (u := .slice (some ⟨w6.heap.size, 0, none⟩) 1 1) rfl (blk_next hbq (blk_drew (blk_old (blk_new rfl)))) | exact src_zero (u := .slice (some ⟨w6.heap.size, 0, none⟩) 1 1) rfl (blk_old (blk_next hbq (blk_drew (blk_old (blk_new rfl))))) | exact src_zero (u := .slice (some ⟨w6.heap.size + 1, 0, none⟩) 1 1) rfl (blk_next hbq (blk_drew (blk_new (HSZ.out _ _).symm))) | exact src_zero (u := .slice (some ⟨w6.heap.size + 1, 0, none⟩) 1 1) rfl (blk_old (blk_next hbq (blk_drew (blk_new (HSZ.out _ _).symm)))) | fail)); (focus (rw [HQ.out]; show q + 1 ≤ 140737488355328; omega)); (focus (refine Below.size (B := w6.heap.size) (w := w6) ?_; (first | with_reducible exact hb | with_reducible exact below_dr hb | with_reducible exact kal hb _ | with_reducible exact below_dr (kal hb _) | with_reducible exact kal (kal hb _) _ | with_reducible exact below_dr (kal (kal hb _) _) | with_reducible exact bl w6 _ | with_reducible exact below_dr (bl w6 _) | with_reducible exact kal (bl w6 _) _ | with_reducible exact below_dr (kal (bl w6 _) _) | with_reducible exact below_dr (Below.refl _ _) | with_reducible exact Below.refl _ _ | fail))); intro v4 w4 o4 hg4 hat4; have hbn : Below w6.heap.size w6 w4 := (by refine Below.grown ?_ hg4 ?_ ?_; (focus (first | with_reducible exact hb | with_reducible exact below_dr hb | with_reducible exact kal hb _ | with_reducible exact below_dr (kal hb _) | with_reducible exact kal (kal hb _) _ | with_reducible exact below_dr (kal (kal hb _) _) | with_reducible exact bl w6 _ | with_reducible exact below_dr (bl w6 _) | with_reducible exact kal (bl w6 _) _ | with_reducible exact below_dr (kal (bl w6 _) _) | with_reducible exact below_dr (Below.refl _ _) | with_reducible exact Below.refl _ _ | fail)); (focus (refine Below.size (B := w6.heap.size) (w := w6) ?_; (first | with_reducible exact hb | with_reducible exact below_dr hb | with_reducible exact kal hb _ | with_reducible exact below_dr (kal hb _) | with_reducible exact kal (kal hb _) _ | with_reducible exact below_dr (kal (kal hb _) _) | with_reducible exact bl w6 _ | with_reducible exact below_dr (bl w6 _) | with_reducible exact kal (bl w6 _) _ | with_reducible exact below_dr (kal (bl w6 _) _) | with_reducible exact below_dr (Below.refl _ _) | with_reducible exact Below.refl _ _ | fail))); (focus (intro k hk; exact Nat.le_trans hle (World.ownsRow.lt o2 k hk).1))); clear hb; have hb := hbn; clear hbn; have hs4 := hb.size; (first | (have hzn : Zer w4 (w6.heap.size) := ?_; rotate_left; (focus (refine Zer.gr ?_ hg4 ?_; (focus ((first | with_reducible exact hz | with_reducible exact hz.dr | with_reducible exact hz.al _ | with_reducible exact (hz.al _).dr | (with_reducible refine zer_at ?_; (first | rfl | (simp; done))) | (with_reducible refine (zer_at ?_).dr; (first | rfl | (simp; done))) | (with_reducible refine (zer_at ?_).al _; (first | rfl | (simp; done))) | (with_reducible refine ((zer_at ?_).al _).dr; (first | rfl | (simp; done))) | fail))); (focus (intro e; have h1 := (World.ownsRow.lt o2 _ e.symm).1; have h2 := (World.ownsRow.lt o2 _ e.symm).2; first | omega | (simp at h1; done) | (simp at h1; omega) | (simp at h2; done) | (simp at h1 h2; omega))); done))) | (have hzn : Zer w4 (w6.heap.size + 1) := ?_; rotate_left; (focus (refine Zer.gr ?_ hg4 ?_; (focus ((first | with_reducible exact hz | with_reducible exact hz.dr | with_reducible exact hz.al _ | with_reducible exact (hz.al _).dr | (with_reducible refine zer_at ?_; (first | rfl | (simp; done))) | (with_reducible refine (zer_at ?_).dr; (first | rfl | (simp; done))) | (with_reducible refine (zer_at ?_).al _; (first | rfl | (simp; done))) | (with_reducible refine ((zer_at ?_).al _).dr; (first | rfl | (simp; done))) | fail))); (focus (intro e; have h1 := (World.ownsRow.lt o2 _ e.symm).1; have h2 := (World.ownsRow.lt o2 _ e.symm).2; first | omega | (simp at h1; done) | (simp at h1; omega) | (simp at h2; done) | (simp at h1 h2; omega))); done))) | (have hzn : Zer w4 (w1.heap.size) := ?_; rotate_left; (focus (refine Zer.gr ?_ hg4 ?_; (focus ((first | with_reducible exact hz | with_reducible exact hz.dr | with_reducible exact hz.al _ | with_reducible exact (hz.al _).dr | (with_reducible refine zer_at ?_; (first | rfl | (simp; done))) | (with_reducible refine (zer_at ?_).dr; (first | rfl | (simp; done))) | (with_reducible refine (zer_at ?_).al _; (first | rfl | (simp; done))) | (with_reducible refine ((zer_at ?_).al _).dr; (first | rfl | (simp; done))) | fail))); (focus (intro e; have h1 := (World.ownsRow.lt o2 _ e.symm).1; have h2 := (World.ownsRow.lt o2 _ e.symm).2; first | omega | (simp at h1; done) | (simp at h1; omega) | (simp at h2; done) | (simp at h1 h2; omega))); done))) | (have hzn : Zer w4 (w1.heap.size + 1) := ?_; rotate_left; (focus (refine Zer.gr ?_ hg4 ?_; (focus ((first | with_reducible exact hz | with_reducible exact hz.dr | with_reducible exact hz.al _ | with_reducible exact (hz.al _).dr | (with_reducible refine zer_at ?_; (first | rfl | (simp; done))) | (with_reducible refine (zer_at ?_).dr; (first | rfl | (simp; done))) | (with_reducible refine (zer_at ?_).al _; (first | rfl | (simp; done))) | (with_reducible refine ((zer_at ?_).al _).dr; (first | rfl | (simp; done))) | fail))); (focus (intro e; have h1 := (World.ownsRow.lt o2 _ e.symm).1; have h2 := (World.ownsRow.lt o2 _ e.symm).2; first | omega | (simp at h1; done) | (simp at h1; omega) | (simp at h2; done) | (simp at h1 h2; omega))); done))) | have hzn := True.intro); clear hz; have hz := hzn; clear hzn; obtain ⟨X4, y4, rfl, o4'⟩ := own_q o4 HQM.out; obtain ⟨X4', y4', hv4, k4, m4, s4, -⟩ := o4'.form; simp only [Value.slice.injEq] at hv4; obtain ⟨rfl, -, rfl⟩ := hv4; rw [HQM.out] at k4)
            | (go_at_call 10; (with_reducible refine (HR3.out _ _ _ ?_ ?_ k4 m4).mono ?_); (focus (first | with_reducible exact hb | with_reducible exact below_dr hb | with_reducible exact kal hb _ | with_reducible exact below_dr (kal hb _) | with_reducible exact kal (kal hb _) _ | with_reducible exact below_dr (kal (kal hb _) _) | with_reducible exact bl w6 _ | with_reducible exact below_dr (bl w6 _) | with_reducible exact kal (bl w6 _) _ | with_reducible exact below_dr (kal (bl w6 _) _) | with_reducible exact below_dr (Below.refl _ _) | with_reducible exact Below.refl _ _ | fail)); (focus (first | with_reducible exact s4 | with_reducible exact s4.next (bl w4 _) | with_reducible exact s4.next (below_dr (bl w4 _)) | with_reducible exact s4.next (below_dr (Below.refl _ _)) | fail)); rintro e w7 ⟨⟨u1, heu, -, -⟩, hbr, hbn⟩; rw [TV.v] at heu; subst heu; clear hb; have hb := hbn; clear hbn; (first | (have hzn : Zer w7 (w6.heap.size) := ?_; rotate_left; (focus (refine Zer.nx ?_ hbr; (first | with_reducible exact hz | with_reducible exact hz.dr | with_reducible exact hz.al _ | with_reducible exact (hz.al _).dr | (with_reducible refine zer_at ?_; (first | rfl | (simp; done))) | (with_reducible refine (zer_at ?_).dr; (first | rfl | (simp; done))) | (with_reducible refine (zer_at ?_).al _; (first | rfl | (simp; done))) | (with_reducible refine ((zer_at ?_).al _).dr; (first | rfl | (simp; done))) | fail); done))) | (have hzn : Zer w7 (w6.heap.size + 1) := ?_; rotate_left; (focus (refine Zer.nx ?_ hbr; (first | with_reducible exact hz | with_reducible exact hz.dr | with_reducible exact hz.al _ | with_reducible exact (hz.al _).dr | (with_reducible refine zer_at ?_; (first | rfl | (simp; done))) | (with_reducible refine (zer_at ?_).dr; (first | rfl | (simp; done))) | (with_reducible refine (zer_at ?_).al _; (first | rfl | (simp; done))) | (with_reducible refine ((zer_at ?_).al _).dr; (first | rfl | (simp; done))) | fail); done))) | (have hzn : Zer w7 (w1.heap.size) := ?_; rotate_left; (focus (refine Zer.nx ?_ hbr; (first | with_reducible exact hz | with_reducible exact hz.dr | with_reducible exact hz.al _ | with_reducible exact (hz.al _).dr | (with_reducible refine zer_at ?_; (first | rfl | (simp; done))) | (with_reducible refine (zer_at ?_).dr; (first | rfl | (simp; done))) | (with_reducible refine (zer_at ?_).al _; (first | rfl | (simp; done))) | (with_reducible refine ((zer_at ?_).al _).dr; (first | rfl | (simp; done))) | fail); done))) | (have hzn : Zer w7 (w1.heap.size + 1) := ?_; rotate_left; (focus (refine Zer.nx ?_ hbr; (first | with_reducible exact hz | with_reducible exact hz.dr | with_reducible exact hz.al _ | with_reducible exact (hz.al _).dr | (with_reducible refine zer_at ?_; (first | rfl | (simp; done))) | (with_reducible refine (zer_at ?_).dr; (first | rfl | (simp; done))) | (with_reducible refine (zer_at ?_).al _; (first | rfl | (simp; done))) | (with_reducible refine ((zer_at ?_).al _).dr; (first | rfl | (simp; done))) | fail); done))) | (have hzn : Zer w7 (w4.heap.size) := ?_; rotate_left; (focus (refine Zer.nx ?_ hbr; (first | with_reducible exact hz | with_reducible exact hz.dr | with_reducible exact hz.al _ | with_reducible exact (hz.al _).dr | (with_reducible refine zer_at ?_; (first | rfl | (simp; done))) | (with_reducible refine (zer_at ?_).dr; (first | rfl | (simp; done))) | (with_reducible refine (zer_at ?_).al _; (first | rfl | (simp; done))) | (with_reducible refine ((zer_at ?_).al _).dr; (first | rfl | (simp; done))) | fail); done))) | have hzn := True.intro); clear hz; (try obtain ⟨z0, f0⟩ := hzn); (try clear hzn))
            | fail)
        all_goals (go_wp2_with fail; go_meet)
        all_goals (refine ⟨rfl, ?_⟩; first | (with_reducible refine below_set1 hb ?_; omega) | (with_reducible refine below_set1 (below_dr hb) ?_; omega) | (first | with_reducible exact hb | with_reducible exact below_dr hb | with_reducible exact kal hb _ | with_reducible exact below_dr (kal hb _) | with_reducible exact kal (kal hb _) _ | with_reducible exact below_dr (kal (kal hb _) _) | with_reducible exact bl w6 _ | with_reducible exact below_dr (bl w6 _) | with_reducible exact kal (bl w6 _) _ | with_reducible exact below_dr (kal (bl w6 _) _) | with_reducible exact below_dr (Below.refl _ _) | with_reducible exact Below.refl _ _ | fail))
      case rest =>
        obtain ⟨w7, rfl⟩ : ∃ x, x = wc := ⟨wc, rfl⟩
        obtain ⟨rfl, hb7⟩ := hcut
        have hb07 := bt hb06 hb7
        go_wp2_with (go_at_call 15; (with_reducible refine (wk_tab _ (HC.out.next hb07)).mono ?_); rintro e wz ⟨rfl, hbz⟩)
        go_ret
        exact ⟨rfl, bt hb07 hbz⟩
end Go.Proofs.Ytldknkikekaifaa.tbl
