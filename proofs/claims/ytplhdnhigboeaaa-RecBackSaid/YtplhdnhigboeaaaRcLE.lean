/-
  RecBack: what is written is read; unlike records have unlike bytes; cut short, or with a byte more, they are none; they are never too long for a sector. Conditions: 'Crd'.
-/
import Derived.Test.YtplhdnhigboeaaaRcQ
import Derived.Test.YtplhdnhigboeaaaRcK
import Derived.Test.YtplhdnhigboeaaaRcS
import Derived.Test.YtplhdnhigboeaaaGGm
import Derived.Deep.CutRange
namespace Go.Proofs.Ytplhdnhigboeaaa.lrc
open Go.RowKit Go.Lib
open Go.Proofs.Ytplhdnhigboeaaa.gmt (Ok)
open Go.Proofs.Ytplhdnhigboeaaa.anc (bl kal kst ks bm ka)
open Go.Proofs.Ytplhdnhigboeaaa.tbl (C1 c1_new G5 g5_new)
open Go.Proofs.Ytplhdnhigboeaaa.img

theorem blk_new {W : World} {o : Obj} {k : Nat} (h : k = W.heap.size) : (W.alloc o).heap[k]? = some o := by subst h; exact heap_alloc_new W o
theorem blk_old {W : World} {o v : Obj} {k : Nat} (h : W.heap[k]? = some v) : (W.alloc o).heap[k]? = some v := by
  have hk := (Array.getElem?_eq_some_iff.1 h).1
  have e : (W.alloc o).heap[k]? = W.heap[k]? := by first | exact heap_alloc_old W o k hk | exact heap_alloc_old W o hk
  rw [e]; exact h
theorem blk_next {W W' : World} {v : Obj} {k : Nat} (hb : Below W.heap.size W W') (h : W.heap[k]? = some v) : W'.heap[k]? = some v := (hb.block k (Array.getElem?_eq_some_iff.1 h).1).trans h
theorem blk_grown {W W' : World} {v : Obj} {k : Nat} {r : Option Nat} (hg : W.grownBy W' r) (hr : some k ≠ r) (h : W.heap[k]? = some v) : W'.heap[k]? = some v := (hg.block k (Array.getElem?_eq_some_iff.1 h).1 hr).trans h
theorem blk_drew {W : World} {v : Obj} {k : Nat} (h : W.heap[k]? = some v) : W.drew.heap[k]? = some v := h
theorem below_set8 {B g : Nat} {a W : World} {v0 v1 v2 v3 v4 v5 v6 v7 : Value} (h : Below B a W) (hg : B ≤ g) : Below B a ((((((((W.setCell ⟨g, 0, none⟩ v0).setCell ⟨g, 1, none⟩ v1).setCell ⟨g, 2, none⟩ v2).setCell ⟨g, 3, none⟩ v3).setCell ⟨g, 4, none⟩ v4).setCell ⟨g, 5, none⟩ v5).setCell ⟨g, 6, none⟩ v6).setCell ⟨g, 7, none⟩ v7) := ((((((((h.setCell (p := ⟨g, 0, none⟩) hg v0).setCell (p := ⟨g, 1, none⟩) hg v1).setCell (p := ⟨g, 2, none⟩) hg v2).setCell (p := ⟨g, 3, none⟩) hg v3).setCell (p := ⟨g, 4, none⟩) hg v4).setCell (p := ⟨g, 5, none⟩) hg v5).setCell (p := ⟨g, 6, none⟩) hg v6).setCell (p := ⟨g, 7, none⟩) hg v7)
theorem src_zero {W : World} {u : Value} {g : Nat} {t : TypeId} {fr : Nat × Nat} (hu : u = .slice (some ⟨g, 0, none⟩) 1 1) (hg : W.heap[g]? = some (.cells #[.int .u8 0] t fr)) : Src Try.prog 1 24 u [(0 : UInt8)].length (cells8 [0]) W := by
  subst hu
  exact src_at Try.underlying24 0 0 rfl t g fr hg
theorem own_q {w : World} {base q : Nat} {e : TypeId} {v : Value} {l : List UInt8} (h : Own w base e v l) (hq : l.length = q) : ∃ X c, v = .slice X q c ∧ Own w base e (.slice X q c) l := by
  obtain ⟨A, c, rfl, -⟩ := h.form
  rw [hq] at h ⊢
  exact ⟨A, c, rfl, h⟩
/-- Eight cells that may be written. -/
structure Oct (W : World) (g : Nat) (a0 a1 a2 a3 a4 a5 a6 a7 : Value) : Prop where
  c0 : W.cell? ⟨g, 0, none⟩ = some a0
  c1 : W.cell? ⟨g, 1, none⟩ = some a1
  c2 : W.cell? ⟨g, 2, none⟩ = some a2
  c3 : W.cell? ⟨g, 3, none⟩ = some a3
  c4 : W.cell? ⟨g, 4, none⟩ = some a4
  c5 : W.cell? ⟨g, 5, none⟩ = some a5
  c6 : W.cell? ⟨g, 6, none⟩ = some a6
  c7 : W.cell? ⟨g, 7, none⟩ = some a7
  f0 : W.frozen? ⟨g, 0, none⟩ = false
  f1 : W.frozen? ⟨g, 1, none⟩ = false
  f2 : W.frozen? ⟨g, 2, none⟩ = false
  f3 : W.frozen? ⟨g, 3, none⟩ = false
  f4 : W.frozen? ⟨g, 4, none⟩ = false
  f5 : W.frozen? ⟨g, 5, none⟩ = false
  f6 : W.frozen? ⟨g, 6, none⟩ = false
  f7 : W.frozen? ⟨g, 7, none⟩ = false
section
variable {W W' : World} {g : Nat} {a0 a1 a2 a3 a4 a5 a6 a7 : Value}
theorem oct_new (w : World) (a0 a1 a2 a3 a4 a5 a6 a7 : Value) (t : TypeId) : Oct (w.alloc (.cells #[a0, a1, a2, a3, a4, a5, a6, a7] t)) w.heap.size a0 a1 a2 a3 a4 a5 a6 a7 := by
  have h := heap_alloc_new w (.cells #[a0, a1, a2, a3, a4, a5, a6, a7] t)
  constructor <;> first | (rw [cell_of_row _ _ _ _ _ _ h]; rfl) | exact World.frozen?_alloc_new _ _ _ _
theorem Oct.keep {B : Nat} (h : Oct W g a0 a1 a2 a3 a4 a5 a6 a7) (hb : Below B W W') (hg : g < B) : Oct W' g a0 a1 a2 a3 a4 a5 a6 a7 := ⟨ks hb hg h.c0, ks hb hg h.c1, ks hb hg h.c2, ks hb hg h.c3, ks hb hg h.c4, ks hb hg h.c5, ks hb hg h.c6, ks hb hg h.c7, (hb.frozen (p := ⟨g, 0, none⟩) hg).trans h.f0, (hb.frozen (p := ⟨g, 1, none⟩) hg).trans h.f1, (hb.frozen (p := ⟨g, 2, none⟩) hg).trans h.f2, (hb.frozen (p := ⟨g, 3, none⟩) hg).trans h.f3, (hb.frozen (p := ⟨g, 4, none⟩) hg).trans h.f4, (hb.frozen (p := ⟨g, 5, none⟩) hg).trans h.f5, (hb.frozen (p := ⟨g, 6, none⟩) hg).trans h.f6, (hb.frozen (p := ⟨g, 7, none⟩) hg).trans h.f7⟩
theorem Oct.lt (h : Oct W g a0 a1 a2 a3 a4 a5 a6 a7) : g < W.heap.size := World.block_lt_of_cell? W _ h.c0
end
/-- Eight zero cells, just laid. -/
def Zer (W : World) (g : Nat) : Prop := Oct W g (.int .i64 0) (.int .i64 0) (.int .i64 0) (.int .i64 0) (.int .i64 0) (.int .i64 0) (.int .i64 0) (.slice none 0 0)
theorem zer_at {w : World} {g : Nat} (h : g = w.heap.size) : Zer (w.alloc (.cells #[.int .i64 0, .int .i64 0, .int .i64 0, .int .i64 0, .int .i64 0, .int .i64 0, .int .i64 0, .slice none 0 0] 28)) g := by subst h; exact oct_new w _ _ _ _ _ _ _ _ _
theorem Zer.dr {W : World} {g : Nat} (h : Zer W g) : Zer W.drew g := Oct.keep (B := g + 1) h (below_dr (Below.refl _ _)) (Nat.lt_succ_self _)
theorem Zer.al {W : World} {g : Nat} (h : Zer W g) (o : Obj) : Zer (W.alloc o) g := Oct.keep h (bl W o) (Oct.lt h)
theorem Zer.nx {W W' : World} {g : Nat} (h : Zer W g) (hb : Below W.heap.size W W') : Zer W' g := Oct.keep h hb (Oct.lt h)
theorem Zer.gr {W W' : World} {g : Nat} {r : Option Nat} (h : Zer W g) (hg : W.grownBy W' r) (hr : some g ≠ r) : Zer W' g := by
  have hb : W'.heap[g]? = W.heap[g]? := hg.block g (Oct.lt h) hr
  constructor
  all_goals first | exact (World.cell?_of_block (a := ⟨g, _, none⟩) hb).trans h.c0 | exact (World.cell?_of_block (a := ⟨g, _, none⟩) hb).trans h.c1 | exact (World.cell?_of_block (a := ⟨g, _, none⟩) hb).trans h.c2 | exact (World.cell?_of_block (a := ⟨g, _, none⟩) hb).trans h.c3 | exact (World.cell?_of_block (a := ⟨g, _, none⟩) hb).trans h.c4 | exact (World.cell?_of_block (a := ⟨g, _, none⟩) hb).trans h.c5 | exact (World.cell?_of_block (a := ⟨g, _, none⟩) hb).trans h.c6 | exact (World.cell?_of_block (a := ⟨g, _, none⟩) hb).trans h.c7 | exact (World.frozen?_of_block (a := ⟨g, _, none⟩) hb).trans h.f0 | exact (World.frozen?_of_block (a := ⟨g, _, none⟩) hb).trans h.f1 | exact (World.frozen?_of_block (a := ⟨g, _, none⟩) hb).trans h.f2 | exact (World.frozen?_of_block (a := ⟨g, _, none⟩) hb).trans h.f3 | exact (World.frozen?_of_block (a := ⟨g, _, none⟩) hb).trans h.f4 | exact (World.frozen?_of_block (a := ⟨g, _, none⟩) hb).trans h.f5 | exact (World.frozen?_of_block (a := ⟨g, _, none⟩) hb).trans h.f6 | exact (World.frozen?_of_block (a := ⟨g, _, none⟩) hb).trans h.f7
set_option maxRecDepth 100000 in
set_option maxHeartbeats 8000000 in
theorem back_both (c : Bool) (q q2 k : Nat) (z d s l a cut : Int) (r p : RcR) (n m : Nat) (w : World) (hc : Crd w) (hx : BIn w w.heap.size r.i) (hy : BIn w w.heap.size p.i) (hxn : r.i.l.length = n) (hym : p.i.l.length = m) (ho : Ok z d s l a) (hn2 : n ≤ 200) (hm2 : m ≤ 200) (hg : RecOk z d r.d) (hg2 : RecOk z d p.d) (hq : (encR r.d).length = q) (hq2 : (encR p.d).length = q2) (hkq : k < q) (hK : (IntKind.u64.wrap cut).tmod (q : Int) = (k : Int)) (hce : c = true ↔ r.d = p.d) :
    Calls Try.prog 4 #[.agg #[.int .i64 z, .int .i64 d, .int .i64 s, .int .i64 l, .int .i64 a], .agg #[.int .i64 r.kd, .int .i64 r.sq, .int .i64 r.ep, .int .i64 r.ps, .int .i64 r.nm, .int .i64 r.i.z, .int .i64 r.i.wh, .slice r.i.A n r.i.c], .agg #[.int .i64 p.kd, .int .i64 p.sq, .int .i64 p.ep, .int .i64 p.ps, .int .i64 p.nm, .int .i64 p.i.z, .int .i64 p.i.wh, .slice p.i.A m p.i.c], .int .i64 cut] w fun e w' => e = .returned (.bool true) ∧ Below w.heap.size w w' := by
  have hd := ho.2.1
  have hz4 := ho.1.2
  have hqb := encR_short hg hd
  have hq59 : 11 ≤ q ∧ q ≤ 59 := by rw [← hq]; exact hqb
  have hqb2 := encR_short hg2 hd
  have hq259 : 11 ≤ q2 ∧ q2 ≤ 59 := by rw [← hq2]; exact hqb2
  obtain ⟨E, hE⟩ : ∃ E, E = encR r.d := ⟨_, rfl⟩
  obtain ⟨E2, hE2⟩ : ∃ E2, E2 = encR p.d := ⟨_, rfl⟩
  have hEq : E.length = q := by rw [hE]; exact hq
  have hEq2 : E2.length = q2 := by rw [hE2]; exact hq2
  have hro := rdOk_of hg hz4 hd
  have hrn := (recN_of hg hz4 hd).1
  rw [← hE] at hro hrn
  have HB := Lib.hid (show ∀ W, Below w.heap.size w W → Calls Try.prog 11 #[.agg #[.int .i64 z, .int .i64 d, .int .i64 s, .int .i64 l, .int .i64 a], .agg #[.int .i64 r.kd, .int .i64 r.sq, .int .i64 r.ep, .int .i64 r.ps, .int .i64 r.nm, .int .i64 r.i.z, .int .i64 r.i.wh, .slice r.i.A n r.i.c]] W fun e w' => (∃ (X : Option Addr) (c : Nat), e = .returned (.tuple #[.slice X q c, .int .i64 0]) ∧ Own w' W.heap.size 5 (.slice X q c) E) ∧ Below W.heap.size W w' from fun W hW => by
    have h9 := hc.bytes z d s l a r n W hW ho (hx.next hW) hxn hg
    unfold BytR at h9
    rw [← hE, hEq] at h9
    exact h9)
  have HD := Lib.hid (show ∀ W, Below w.heap.size w W → Calls Try.prog 11 #[.agg #[.int .i64 z, .int .i64 d, .int .i64 s, .int .i64 l, .int .i64 a], .agg #[.int .i64 p.kd, .int .i64 p.sq, .int .i64 p.ep, .int .i64 p.ps, .int .i64 p.nm, .int .i64 p.i.z, .int .i64 p.i.wh, .slice p.i.A m p.i.c]] W fun e w' => (∃ (X : Option Addr) (c : Nat), e = .returned (.tuple #[.slice X q2 c, .int .i64 0]) ∧ Own w' W.heap.size 5 (.slice X q2 c) E2) ∧ Below W.heap.size W w' from fun W hW => by
    have h9 := hc.bytes z d s l a p m W hW ho (hy.next hW) hym hg2
    unfold BytR at h9
    rw [← hE2, hEq2] at h9
    exact h9)
  have HR := Lib.hid (show ∀ (W : World) (A : Option Addr) (c : Nat), Below w.heap.size w W → Sl W W.heap.size A E → q ≤ c → c ≤ maxLen → Calls Try.prog 12 #[.agg #[.int .i64 z, .int .i64 d, .int .i64 s, .int .i64 l, .int .i64 a], .slice A q c] W fun e w' => (∃ (Z : Option Addr) (zc : Nat), e = .returned (.tuple #[.agg #[.int .i64 r.kd, .int .i64 r.sq, .int .i64 r.ep, .int .i64 r.ps, .int .i64 r.nm, .int .i64 r.i.z, .int .i64 r.i.wh, .slice Z n zc], .int .i64 0]) ∧ BIn w' w'.heap.size ⟨r.i.z, r.i.wh, Z, zc, r.i.l⟩) ∧ Below W.heap.size W w' from fun W A c hW h1 h2 h3 => by
    have h9 := hc.read z d s l a A q c E W hW ho hEq h2 h3 (by omega) h1 hro
    rw [hrn] at h9
    refine h9.mono ?_
    rintro e w' ⟨⟨Z, zc, rfl, ho⟩, hb⟩
    have hoz := own_bytes ho
    refine ⟨⟨Z, zc, ?_, hoz.2.2.2, hoz.2.1, hoz.2.2.1⟩, hb⟩
    show Ending.returned (.tuple #[.agg #[.int .i64 r.kd, .int .i64 r.sq, .int .i64 r.ep, .int .i64 r.ps, .int .i64 r.nm, .int .i64 r.i.z, .int .i64 r.i.wh, .slice Z r.i.l.length zc], .int .i64 0]) = _
    rw [hxn])
  have HRC := Lib.hid (show ∀ (W : World) (A : Option Addr) (c : Nat), Below w.heap.size w W → Sl W W.heap.size A E → q ≤ c → c ≤ maxLen → Calls Try.prog 12 #[.agg #[.int .i64 z, .int .i64 d, .int .i64 s, .int .i64 l, .int .i64 a], .slice A k c] W fun e w' => RdNo 4 e ∧ Below W.heap.size W w' from fun W A c hW h1 h2 h3 =>
    hc.read_no 4 z d s l a A k c (E.take k) W hW (.inr ⟨ho, fun h => cut_none hro.1 (by omega) h.1, rfl⟩) (by rw [List.length_take]; omega) (by omega) h3 (by omega) (h1.take k))
  have HRM := Lib.hid (show ∀ (W : World) (A : Option Addr) (c : Nat), Below w.heap.size w W → Sl W W.heap.size A (E ++ [0]) → q + 1 ≤ c → c ≤ maxLen → Calls Try.prog 12 #[.agg #[.int .i64 z, .int .i64 d, .int .i64 s, .int .i64 l, .int .i64 a], .slice A (q + 1) c] W fun e w' => RdNo 4 e ∧ Below W.heap.size W w' from fun W A c hW h1 h2 h3 =>
    hc.read_no 4 z d s l a A (q + 1) c _ W hW (.inr ⟨ho, fun h => more_none hro.1 (c := [0]) rfl h.1, rfl⟩) (by rw [List.length_append, hEq]; rfl) h2 h3 (by omega) h1)
  have HX := Lib.hid hx
  have HY := Lib.hid hy
  have HQ := Lib.hid hEq
  have HQ2 := Lib.hid hEq2
  have HXN := Lib.hid hxn
  have HYM := Lib.hid hym
  have HEN := Lib.hid (show decide (E = E2) = c by
    rw [Bool.eq_iff_iff, decide_eq_true_eq, hce, hE, hE2]
    exact ⟨fun h => encR_inj hg hz4 hd hg2 hz4 hd h, fun h => by rw [h]⟩)
  have HCE := Lib.hid hce
  have HC := Lib.hid hc
  have i1 : ¬ (200 : Int) < (n : Int) := by omega
  have i2 : ¬ (200 : Int) < (m : Int) := by omega
  have s1 : (w.alloc (.cells #[.int .i64 z, .int .i64 d, .int .i64 s, .int .i64 l, .int .i64 a] 23)).heap.size = w.heap.size + 1 := by simp
  have s2 : ((w.alloc (.cells #[.int .i64 z, .int .i64 d, .int .i64 s, .int .i64 l, .int .i64 a] 23)).alloc (.cells #[.int .i64 r.kd, .int .i64 r.sq, .int .i64 r.ep, .int .i64 r.ps, .int .i64 r.nm, .int .i64 r.i.z, .int .i64 r.i.wh, .slice r.i.A n r.i.c] 28)).heap.size = w.heap.size + 2 := by simp
  have b2 := bl (w.alloc (.cells #[.int .i64 z, .int .i64 d, .int .i64 s, .int .i64 l, .int .i64 a] 23)) (.cells #[.int .i64 r.kd, .int .i64 r.sq, .int .i64 r.ep, .int .i64 r.ps, .int .i64 r.nm, .int .i64 r.i.z, .int .i64 r.i.wh, .slice r.i.A n r.i.c] 28)
  have b3 := bl ((w.alloc (.cells #[.int .i64 z, .int .i64 d, .int .i64 s, .int .i64 l, .int .i64 a] 23)).alloc (.cells #[.int .i64 r.kd, .int .i64 r.sq, .int .i64 r.ep, .int .i64 r.ps, .int .i64 r.nm, .int .i64 r.i.z, .int .i64 r.i.wh, .slice r.i.A n r.i.c] 28)) (.cells #[.int .i64 p.kd, .int .i64 p.sq, .int .i64 p.ep, .int .i64 p.ps, .int .i64 p.nm, .int .i64 p.i.z, .int .i64 p.i.wh, .slice p.i.A m p.i.c] 28)
  have GG := ((g5_new w z d s l a).keep b2 (by omega)).keep b3 (by omega)
  have X1 := (c8_new (w.alloc (.cells #[.int .i64 z, .int .i64 d, .int .i64 s, .int .i64 l, .int .i64 a] 23)) (.int .i64 r.kd) (.int .i64 r.sq) (.int .i64 r.ep) (.int .i64 r.ps) (.int .i64 r.nm) (.int .i64 r.i.z) (.int .i64 r.i.wh) (.slice r.i.A n r.i.c) 28).keep b3 (by omega)
  have Y1 := c8_new ((w.alloc (.cells #[.int .i64 z, .int .i64 d, .int .i64 s, .int .i64 l, .int .i64 a] 23)).alloc (.cells #[.int .i64 r.kd, .int .i64 r.sq, .int .i64 r.ep, .int .i64 r.ps, .int .i64 r.nm, .int .i64 r.i.z, .int .i64 r.i.wh, .slice r.i.A n r.i.c] 28)) (.int .i64 p.kd) (.int .i64 p.sq) (.int .i64 p.ep) (.int .i64 p.ps) (.int .i64 p.nm) (.int .i64 p.i.z) (.int .i64 p.i.wh) (.slice p.i.A m p.i.c) 28
  rw [s1] at X1
  rw [s2] at Y1
  have hb0 := kal (kal (bl w (.cells #[.int .i64 z, .int .i64 d, .int .i64 s, .int .i64 l, .int .i64 a] 23)) (.cells #[.int .i64 r.kd, .int .i64 r.sq, .int .i64 r.ep, .int .i64 r.ps, .int .i64 r.nm, .int .i64 r.i.z, .int .i64 r.i.wh, .slice r.i.A n r.i.c] 28)) (.cells #[.int .i64 p.kd, .int .i64 p.sq, .int .i64 p.ep, .int .i64 p.ps, .int .i64 p.nm, .int .i64 p.i.z, .int .i64 p.i.wh, .slice p.i.A m p.i.c] 28)
  have l1 : w.heap.size + 2 < (((w.alloc (.cells #[.int .i64 z, .int .i64 d, .int .i64 s, .int .i64 l, .int .i64 a] 23)).alloc (.cells #[.int .i64 r.kd, .int .i64 r.sq, .int .i64 r.ep, .int .i64 r.ps, .int .i64 r.nm, .int .i64 r.i.z, .int .i64 r.i.wh, .slice r.i.A n r.i.c] 28)).alloc (.cells #[.int .i64 p.kd, .int .i64 p.sq, .int .i64 p.ep, .int .i64 p.ps, .int .i64 p.nm, .int .i64 p.i.z, .int .i64 p.i.wh, .slice p.i.A m p.i.c] 28)).heap.size := by simp
  clear s1 s2 b2 b3
  clear hx hy hc hg hg2 ho hq hq2 hce hxn hym hEq hEq2 hE hE2 hro hrn hqb hqb2
  go_enter Try.func4, Try.ntmps4
  go_upto_region 1 with fail
  generalize (((w.alloc (.cells #[.int .i64 z, .int .i64 d, .int .i64 s, .int .i64 l, .int .i64 a] 23)).alloc (.cells #[.int .i64 r.kd, .int .i64 r.sq, .int .i64 r.ep, .int .i64 r.ps, .int .i64 r.nm, .int .i64 r.i.z, .int .i64 r.i.wh, .slice r.i.A n r.i.c] 28)).alloc (.cells #[.int .i64 p.kd, .int .i64 p.sq, .int .i64 p.ep, .int .i64 p.ps, .int .i64 p.nm, .int .i64 p.i.z, .int .i64 p.i.wh, .slice p.i.A m p.i.c] 28)) = w0 at *
  obtain ⟨g0, g1, g2, g3, g4⟩ := id GG
  obtain ⟨x0, x1, x2, x3, x4, x5, x6, x7⟩ := id X1
  obtain ⟨y0, y1, y2, y3, y4, y5, y6, y7⟩ := id Y1
  go_upto_region 5 with (first
    | (go_at_call 11; (with_reducible refine (HB.out _ hb0).mono ?_); rintro e wB ⟨⟨X5, c5, rfl, p5⟩, hbq⟩; obtain ⟨hl5, k5, m5, s5⟩ := own_bytes p5; replace GG := GG.keep hbq (by omega); replace X1 := X1.keep hbq (by omega); replace Y1 := Y1.keep hbq (by omega); replace l1 := Nat.lt_of_lt_of_le l1 hbq.size; clear g0 g1 g2 g3 g4 x0 x1 x2 x3 x4 x5 x6 x7 y0 y1 y2 y3 y4 y5 y6 y7; obtain ⟨g0, g1, g2, g3, g4⟩ := id GG; obtain ⟨x0, x1, x2, x3, x4, x5, x6, x7⟩ := id X1; obtain ⟨y0, y1, y2, y3, y4, y5, y6, y7⟩ := id Y1; replace hb0 := bt hb0 hbq; clear hbq)
    | (go_at_call 11; (with_reducible refine (HD.out _ hb0).mono ?_); rintro e wD ⟨⟨X6, c6, rfl, p6⟩, hbq⟩; obtain ⟨hl6, k6, m6, s6⟩ := own_bytes p6; have s5 := s5.next hbq; replace GG := GG.keep hbq (by omega); replace X1 := X1.keep hbq (by omega); replace Y1 := Y1.keep hbq (by omega); replace l1 := Nat.lt_of_lt_of_le l1 hbq.size; clear g0 g1 g2 g3 g4 x0 x1 x2 x3 x4 x5 x6 x7 y0 y1 y2 y3 y4 y5 y6 y7; obtain ⟨g0, g1, g2, g3, g4⟩ := id GG; obtain ⟨x0, x1, x2, x3, x4, x5, x6, x7⟩ := id X1; obtain ⟨y0, y1, y2, y3, y4, y5, y6, y7⟩ := id Y1; replace hb0 := bt hb0 hbq; clear hbq))
  clear HB HD p5 p6 i1 i2 hl5 hl6
  have q0 : ¬ (q : Int) = 0 := by omega
  have q1 : ((q : Int) == 0) = false := beq_eq_false_iff_ne.2 q0
  have q2' : ¬ (96 : Int) < (q : Int) := by omega
  obtain ⟨bX, oX, rfl, -, -⟩ := s5 (by rw [HQ.out]; omega)
  go_upto_region 8 with (go_at_call 12; (with_reducible refine (HR.out _ _ _ hb0 s5 k5 m5).mono ?_); rintro e wR ⟨⟨Z, zc, rfl, hzi⟩, hbq⟩; have s5 := s5.next hbq; have s6 := s6.next hbq; replace GG := GG.keep hbq (by omega); replace X1 := X1.keep hbq (by omega); replace Y1 := Y1.keep hbq (by omega); replace l1 := Nat.lt_of_lt_of_le l1 hbq.size; clear g0 g1 g2 g3 g4 x0 x1 x2 x3 x4 x5 x6 x7 y0 y1 y2 y3 y4 y5 y6 y7; obtain ⟨g0, g1, g2, g3, g4⟩ := id GG; obtain ⟨x0, x1, x2, x3, x4, x5, x6, x7⟩ := id X1; obtain ⟨y0, y1, y2, y3, y4, y5, y6, y7⟩ := id Y1; replace hb0 := bt hb0 hbq; clear hbq)
  have hx6 := bl wR (.cells #[.int .i64 r.kd, .int .i64 r.sq, .int .i64 r.ep, .int .i64 r.ps, .int .i64 r.nm, .int .i64 r.i.z, .int .i64 r.i.wh, .slice Z n zc] 28)
  have U1 := c8_new wR (.int .i64 r.kd) (.int .i64 r.sq) (.int .i64 r.ep) (.int .i64 r.ps) (.int .i64 r.nm) (.int .i64 r.i.z) (.int .i64 r.i.wh) (.slice Z n zc) 28
  have lU : wR.heap.size < (wR.alloc (.cells #[.int .i64 r.kd, .int .i64 r.sq, .int .i64 r.ep, .int .i64 r.ps, .int .i64 r.nm, .int .i64 r.i.z, .int .i64 r.i.wh, .slice Z n zc] 28)).heap.size := by simp
  have HZI := Lib.hid (show BIn _ _ _ from hzi.next hx6)
  have s5n := s5.next hx6
  have s6n := s6.next hx6
  replace GG := GG.keep hx6 (by omega)
  replace X1 := X1.keep hx6 (by omega)
  replace Y1 := Y1.keep hx6 l1
  replace hb0 := bt hb0 hx6
  obtain ⟨gu, hgu⟩ : ∃ g, g = wR.heap.size := ⟨_, rfl⟩
  rw [← hgu] at U1 lU ⊢
  replace l1 : w.heap.size + 2 < (wR.alloc (.cells #[.int .i64 r.kd, .int .i64 r.sq, .int .i64 r.ep, .int .i64 r.ps, .int .i64 r.nm, .int .i64 r.i.z, .int .i64 r.i.wh, .slice Z n zc] 28)).heap.size := Nat.lt_of_lt_of_le l1 hx6.size
  clear g0 g1 g2 g3 g4 x0 x1 x2 x3 x4 x5 x6 x7 y0 y1 y2 y3 y4 y5 y6 y7
  clear hzi hx6 hgu HR s5 s6
  generalize wR.alloc (.cells #[.int .i64 r.kd, .int .i64 r.sq, .int .i64 r.ep, .int .i64 r.ps, .int .i64 r.nm, .int .i64 r.i.z, .int .i64 r.i.wh, .slice Z n zc] 28) = w4 at *
  have HA1 := Lib.hid (show ∀ W, Below w4.heap.size w4 W → Calls Try.prog 19 #[.agg #[.int .i64 r.kd, .int .i64 r.sq, .int .i64 r.ep, .int .i64 r.ps, .int .i64 r.nm, .int .i64 r.i.z, .int .i64 r.i.wh, .slice Z n zc], .agg #[.int .i64 r.kd, .int .i64 r.sq, .int .i64 r.ep, .int .i64 r.ps, .int .i64 r.nm, .int .i64 r.i.z, .int .i64 r.i.wh, .slice r.i.A n r.i.c]] W fun e w' => e = .returned (.bool true) ∧ Below W.heap.size W w' from fun W hW => krec_d true ⟨r.kd, r.sq, r.ep, r.ps, r.nm, ⟨r.i.z, r.i.wh, Z, zc, r.i.l⟩⟩ r n n W (HZI.out.next hW) (HX.out.next (bt hb0 hW)) HXN.out HXN.out (by omega) (iff_of_true rfl rfl))
  have HA2 := Lib.hid (show ∀ W, Below w4.heap.size w4 W → Calls Try.prog 26 #[.slice (some ⟨bX, oX, none⟩) q c5, .slice X6 q2 c6] W fun e w' => e = .returned (.bool c) ∧ Below W.heap.size W w' from fun W hW => by
    have h := keep_any (some ⟨bX, oX, none⟩) X6 c5 c6 _ _ E E2 W (s5n.next hW) (s6n.next hW) (Nat.le_refl _) (Nat.le_refl _) (by rw [HQ.out]; omega)
    rwa [HEN.out, HQ.out, HQ2.out] at h)
  have HA3 := Lib.hid (show ∀ W, Below w4.heap.size w4 W → Calls Try.prog 19 #[.agg #[.int .i64 r.kd, .int .i64 r.sq, .int .i64 r.ep, .int .i64 r.ps, .int .i64 r.nm, .int .i64 r.i.z, .int .i64 r.i.wh, .slice r.i.A n r.i.c], .agg #[.int .i64 p.kd, .int .i64 p.sq, .int .i64 p.ep, .int .i64 p.ps, .int .i64 p.nm, .int .i64 p.i.z, .int .i64 p.i.wh, .slice p.i.A m p.i.c]] W fun e w' => e = .returned (.bool c) ∧ Below W.heap.size W w' from fun W hW => krec_d c r p n m W (HX.out.next (bt hb0 hW)) (HY.out.next (bt hb0 hW)) HXN.out HYM.out (by omega) HCE.out)
  go_cut [100] from 74 to 100 (fun v wx => v = .bool false ∧ Below w4.heap.size w4 wx)
  case first =>
    have HF := Lib.hid (show ∀ W, Below w4.heap.size w4 W → (W.cell? ⟨w.heap.size + 1, 0, none⟩ = some (.int .i64 r.kd) ∧ W.cell? ⟨w.heap.size + 1, 1, none⟩ = some (.int .i64 r.sq) ∧ W.cell? ⟨w.heap.size + 1, 2, none⟩ = some (.int .i64 r.ep) ∧ W.cell? ⟨w.heap.size + 1, 3, none⟩ = some (.int .i64 r.ps) ∧ W.cell? ⟨w.heap.size + 1, 4, none⟩ = some (.int .i64 r.nm) ∧ W.cell? ⟨w.heap.size + 1, 5, none⟩ = some (.int .i64 r.i.z) ∧ W.cell? ⟨w.heap.size + 1, 6, none⟩ = some (.int .i64 r.i.wh) ∧ W.cell? ⟨w.heap.size + 1, 7, none⟩ = some (.slice r.i.A n r.i.c)) ∧ (W.cell? ⟨w.heap.size + 2, 0, none⟩ = some (.int .i64 p.kd) ∧ W.cell? ⟨w.heap.size + 2, 1, none⟩ = some (.int .i64 p.sq) ∧ W.cell? ⟨w.heap.size + 2, 2, none⟩ = some (.int .i64 p.ep) ∧ W.cell? ⟨w.heap.size + 2, 3, none⟩ = some (.int .i64 p.ps) ∧ W.cell? ⟨w.heap.size + 2, 4, none⟩ = some (.int .i64 p.nm) ∧ W.cell? ⟨w.heap.size + 2, 5, none⟩ = some (.int .i64 p.i.z) ∧ W.cell? ⟨w.heap.size + 2, 6, none⟩ = some (.int .i64 p.i.wh) ∧ W.cell? ⟨w.heap.size + 2, 7, none⟩ = some (.slice p.i.A m p.i.c)) ∧ (W.cell? ⟨gu, 0, none⟩ = some (.int .i64 r.kd) ∧ W.cell? ⟨gu, 1, none⟩ = some (.int .i64 r.sq) ∧ W.cell? ⟨gu, 2, none⟩ = some (.int .i64 r.ep) ∧ W.cell? ⟨gu, 3, none⟩ = some (.int .i64 r.ps) ∧ W.cell? ⟨gu, 4, none⟩ = some (.int .i64 r.nm) ∧ W.cell? ⟨gu, 5, none⟩ = some (.int .i64 r.i.z) ∧ W.cell? ⟨gu, 6, none⟩ = some (.int .i64 r.i.wh) ∧ W.cell? ⟨gu, 7, none⟩ = some (.slice Z n zc)) ∧ Below w4.heap.size w4 W from fun W h => by
      obtain ⟨x0, x1, x2, x3, x4, x5, x6, x7⟩ := id X1
      obtain ⟨y0, y1, y2, y3, y4, y5, y6, y7⟩ := id Y1
      obtain ⟨u0, u1, u2, u3, u4, u5, u6, u7⟩ := id U1
      exact ⟨⟨kst h (by omega) x0, kst h (by omega) x1, kst h (by omega) x2, kst h (by omega) x3, kst h (by omega) x4, kst h (by omega) x5, kst h (by omega) x6, kst h (by omega) x7⟩, ⟨kst h (by omega) y0, kst h (by omega) y1, kst h (by omega) y2, kst h (by omega) y3, kst h (by omega) y4, kst h (by omega) y5, kst h (by omega) y6, kst h (by omega) y7⟩, ⟨kst h (by omega) u0, kst h (by omega) u1, kst h (by omega) u2, kst h (by omega) u3, kst h (by omega) u4, kst h (by omega) u5, kst h (by omega) u6, kst h (by omega) u7⟩, h⟩)
    clear X1 Y1 U1 GG s5n s6n HQ HQ2 HRC HRM HEN HX HY HCE HC
    cases c
    all_goals
      have q2n : ¬ ((96 : Int) < (q : Int)) := by omega
      have q2d : decide ((96 : Int) < (q : Int)) = false := decide_eq_false q2n
      go_region_held3 (fun W => (W.cell? ⟨w.heap.size + 1, 0, none⟩ = some (.int .i64 r.kd) ∧ W.cell? ⟨w.heap.size + 1, 1, none⟩ = some (.int .i64 r.sq) ∧ W.cell? ⟨w.heap.size + 1, 2, none⟩ = some (.int .i64 r.ep) ∧ W.cell? ⟨w.heap.size + 1, 3, none⟩ = some (.int .i64 r.ps) ∧ W.cell? ⟨w.heap.size + 1, 4, none⟩ = some (.int .i64 r.nm) ∧ W.cell? ⟨w.heap.size + 1, 5, none⟩ = some (.int .i64 r.i.z) ∧ W.cell? ⟨w.heap.size + 1, 6, none⟩ = some (.int .i64 r.i.wh) ∧ W.cell? ⟨w.heap.size + 1, 7, none⟩ = some (.slice r.i.A n r.i.c)) ∧ (W.cell? ⟨w.heap.size + 2, 0, none⟩ = some (.int .i64 p.kd) ∧ W.cell? ⟨w.heap.size + 2, 1, none⟩ = some (.int .i64 p.sq) ∧ W.cell? ⟨w.heap.size + 2, 2, none⟩ = some (.int .i64 p.ep) ∧ W.cell? ⟨w.heap.size + 2, 3, none⟩ = some (.int .i64 p.ps) ∧ W.cell? ⟨w.heap.size + 2, 4, none⟩ = some (.int .i64 p.nm) ∧ W.cell? ⟨w.heap.size + 2, 5, none⟩ = some (.int .i64 p.i.z) ∧ W.cell? ⟨w.heap.size + 2, 6, none⟩ = some (.int .i64 p.i.wh) ∧ W.cell? ⟨w.heap.size + 2, 7, none⟩ = some (.slice p.i.A m p.i.c)) ∧ (W.cell? ⟨gu, 0, none⟩ = some (.int .i64 r.kd) ∧ W.cell? ⟨gu, 1, none⟩ = some (.int .i64 r.sq) ∧ W.cell? ⟨gu, 2, none⟩ = some (.int .i64 r.ep) ∧ W.cell? ⟨gu, 3, none⟩ = some (.int .i64 r.ps) ∧ W.cell? ⟨gu, 4, none⟩ = some (.int .i64 r.nm) ∧ W.cell? ⟨gu, 5, none⟩ = some (.int .i64 r.i.z) ∧ W.cell? ⟨gu, 6, none⟩ = some (.int .i64 r.i.wh) ∧ W.cell? ⟨gu, 7, none⟩ = some (.slice Z n zc)) ∧ Below w4.heap.size w4 W)
        ((first
          | with_reducible exact HF.out _ (below_dr (Below.refl _ _))
          | with_reducible exact HF.out _ hb3
          | with_reducible exact HF.out _ hb2
          | with_reducible exact HF.out _ hb1
          | fail))
        (first
          | (go_at_call 19; (with_reducible refine (HA1.out _ (below_dr (Below.refl _ _))).mono ?_); rintro e wq1 ⟨rfl, hbq⟩; have hb1 := bt (below_dr (Below.refl w4.heap.size w4)) hbq; clear hbq)
          | (go_at_call 26; (with_reducible refine (HA2.out _ hb1).mono ?_); rintro e wq2 ⟨rfl, hbq⟩; have hb2 := bt hb1 hbq; clear hbq)
          | (go_at_call 19; (with_reducible refine (HA3.out _ hb2).mono ?_); rintro e wq3 ⟨rfl, hbq⟩; have hb3 := bt hb2 hbq; clear hbq)
          | fail)
      all_goals (go_wp2_with fail; go_meet)
      all_goals exact ⟨rfl, hb3⟩
  case rest =>
    obtain ⟨w5, rfl⟩ : ∃ x, x = wc := ⟨wc, rfl⟩
    obtain ⟨rfl, hb5⟩ := hcut
    have GG5 := GG.keep hb5 (by omega)
    have s55 := s5n.next hb5
    have l5 := hb5.size
    have hb05 := bt hb0 hb5
    clear X1 Y1 U1 GG s5n s6n HA1 HA2 HA3 hb5
    go_upto_region 10 with fail
    go_cut [16] from 102 to 114 (fun v wx => v = .int .i64 4 ∧ Below w5.heap.size w5 wx)
    case first =>
      obtain ⟨g0, g1, g2, g3, g4⟩ := id GG5
      have HF := Lib.hid (show ∀ W, Below w5.heap.size w5 W → W.cell? ⟨w.heap.size, 0, none⟩ = some (.int .i64 z) ∧ W.cell? ⟨w.heap.size, 1, none⟩ = some (.int .i64 d) ∧ W.cell? ⟨w.heap.size, 2, none⟩ = some (.int .i64 s) ∧ W.cell? ⟨w.heap.size, 3, none⟩ = some (.int .i64 l) ∧ W.cell? ⟨w.heap.size, 4, none⟩ = some (.int .i64 a) ∧ Below w5.heap.size w5 W from fun W h => ⟨kst h (by omega) g0, kst h (by omega) g1, kst h (by omega) g2, kst h (by omega) g3, kst h (by omega) g4, h⟩)
      have HR2 := Lib.hid (show ∀ W, Below w5.heap.size w5 W → Calls Try.prog 12 #[.agg #[.int .i64 z, .int .i64 d, .int .i64 s, .int .i64 l, .int .i64 a], .slice (some ⟨bX, oX, none⟩) k c5] W fun e w' => RdNo 4 e ∧ Below W.heap.size W w' from fun W hW => HRC.out W _ _ (bt hb05 hW) (s55.next hW) k5 m5)
      have wq : IntKind.u64.wrap (q : Int) = q := IntWalk.u64_in _ (by omega)
      have wk1 : IntKind.u64.wrap (k : Int) = k := IntWalk.u64_in _ (by omega)
      have wk2 : IntKind.i64.wrap (k : Int) = k := IntWalk.i64_in _ (by omega)
      have b1' : (0 : Int) ≤ (k : Int) := by omega
      have b2' : (k : Int) ≤ (c5 : Int) := by omega
      have b3' : (k : Int) ≤ (q : Int) := by omega
      have b4' : ((k : Int)).toNat = k := by omega
      have q0i : ((q : Int) == 0) = false := beq_eq_false_iff_ne.2 q0
      have q0n : ¬ q = 0 := by omega
      have q0b : (q == 0) = false := beq_eq_false_iff_ne.2 q0n
      clear g0 g1 g2 g3 g4 GG5 s55
      go_region_held3 (fun W => W.cell? ⟨w.heap.size, 0, none⟩ = some (.int .i64 z) ∧ W.cell? ⟨w.heap.size, 1, none⟩ = some (.int .i64 d) ∧ W.cell? ⟨w.heap.size, 2, none⟩ = some (.int .i64 s) ∧ W.cell? ⟨w.heap.size, 3, none⟩ = some (.int .i64 l) ∧ W.cell? ⟨w.heap.size, 4, none⟩ = some (.int .i64 a) ∧ Below w5.heap.size w5 W)
        ((refine HF.out _ ?_; first
          | with_reducible exact below_set8 (below_dr hb1) (Nat.le_refl _)
          | with_reducible exact below_set8 hb1 (Nat.le_refl _)
          | with_reducible exact hb1
          | with_reducible exact below_dr hb1
          | with_reducible exact kal (below_dr hb1) _
          | with_reducible exact kal hb1 _
          | with_reducible exact below_dr (bl w5 _)
          | with_reducible exact bl w5 _
          | with_reducible exact below_dr (Below.refl _ _)
          | with_reducible exact Below.refl _ _
          | fail))
        (first
          | (go_at_call 12; (with_reducible refine (HR2.out _ (below_dr (Below.refl _ _))).mono ?_); rintro e wq1 ⟨⟨Z1, zc1, -, rfl⟩, hbq⟩; have hb1 := bt (below_dr (Below.refl w5.heap.size w5)) hbq; clear hbq)
          | (go_at_call 12; (with_reducible refine (HR2.out _ (below_dr (bl w5 _))).mono ?_); rintro e wq1 ⟨⟨Z1, zc1, -, rfl⟩, hbq⟩; have hb1 := bt (below_dr (bl w5 _)) hbq; obtain ⟨z0, z1, z2, z3, z4, z5, z6, z7, f0, f1, f2, f3, f4, f5, f6, f7⟩ := (oct_new w5 (.int .i64 0) (.int .i64 0) (.int .i64 0) (.int .i64 0) (.int .i64 0) (.int .i64 0) (.int .i64 0) (.slice none 0 0) 28).keep (B := (w5.alloc (.cells #[.int .i64 0, .int .i64 0, .int .i64 0, .int .i64 0, .int .i64 0, .int .i64 0, .int .i64 0, .slice none 0 0] 28)).heap.size) (below_dr (Below.refl _ _)) (by simp) |>.keep hbq (by simp); clear hbq)
          | fail)
      all_goals (go_wp2_with fail; go_meet)
      all_goals (refine ⟨rfl, ?_⟩; first | with_reducible exact below_set8 (below_dr hb1) (Nat.le_refl _) | with_reducible exact below_set8 hb1 (Nat.le_refl _) | with_reducible exact kal hb1 _ | with_reducible exact kal (below_dr hb1) _)
    case rest =>
      obtain ⟨w6, rfl⟩ : ∃ x, x = wc := ⟨wc, rfl⟩
      obtain ⟨rfl, hb6⟩ := hcut
      have GG6 := GG5.keep hb6 (by omega)
      have s66 := s55.next hb6
      have hb06 := bt hb05 hb6
      have l6 : w.heap.size + 2 < w6.heap.size := by have := hb6.size; omega
      clear GG5 s55 hb6 HRC
      go_upto_region 11 with fail
      go_cut [18] from 116 to 123 (fun v wx => v = .int .i64 4 ∧ Below w6.heap.size w6 wx)
      case first =>
        obtain ⟨g0, g1, g2, g3, g4⟩ := id GG6
        have HF := Lib.hid (show ∀ W, Below w6.heap.size w6 W → W.cell? ⟨w.heap.size, 0, none⟩ = some (.int .i64 z) ∧ W.cell? ⟨w.heap.size, 1, none⟩ = some (.int .i64 d) ∧ W.cell? ⟨w.heap.size, 2, none⟩ = some (.int .i64 s) ∧ W.cell? ⟨w.heap.size, 3, none⟩ = some (.int .i64 l) ∧ W.cell? ⟨w.heap.size, 4, none⟩ = some (.int .i64 a) ∧ Below w6.heap.size w6 W from fun W h => ⟨kst h (by omega) g0, kst h (by omega) g1, kst h (by omega) g2, kst h (by omega) g3, kst h (by omega) g4, h⟩)
        have HT2 := Lib.hid (show ∀ W, Below w6.heap.size w6 W → Calls Try.prog 29 #[.slice (some ⟨bX, oX, none⟩) q c5] W fun e w' => One W.heap.size E e w' ∧ Below W.heap.size W w' ∧ Below w6.heap.size w6 w' ∧ w6.heap.size ≤ W.heap.size from fun W hW => by
          have h := twin_any (some ⟨bX, oX, none⟩) c5 _ E W (s66.next hW) (by rw [HQ.out]; omega)
          rw [HQ.out] at h
          exact h.mono fun e w' h => ⟨h.1, h.2, bt hW h.2, hW.size⟩)
        have HR3 := Lib.hid (show ∀ (W : World) (A : Option Addr) (n : Nat), Below w6.heap.size w6 W → Sl W W.heap.size A (E ++ [0]) → q + 1 ≤ n → n ≤ maxLen → Calls Try.prog 12 #[.agg #[.int .i64 z, .int .i64 d, .int .i64 s, .int .i64 l, .int .i64 a], .slice A (q + 1) n] W fun e w' => RdNo 4 e ∧ Below W.heap.size W w' ∧ Below w6.heap.size w6 w' from fun W A n hW h1 h2 h3 =>
          (HRM.out W A n (bt hb06 hW) h1 h2 h3).mono fun e w' h => ⟨h.1, h.2, bt hW h.2⟩)
        have HSZ := Lib.hid (show ∀ (W : World) (o : Obj), (W.alloc o).heap.size = W.heap.size + 1 from fun W o => by simp)
        have HQM := Lib.hid (show (E ++ [0]).length = q + 1 by rw [List.length_append, HQ.out]; rfl)
        clear g0 g1 g2 g3 g4 GG6 s66 HRM
        go_region_held3 (fun W => W.cell? ⟨w.heap.size, 0, none⟩ = some (.int .i64 z) ∧ W.cell? ⟨w.heap.size, 1, none⟩ = some (.int .i64 d) ∧ W.cell? ⟨w.heap.size, 2, none⟩ = some (.int .i64 s) ∧ W.cell? ⟨w.heap.size, 3, none⟩ = some (.int .i64 l) ∧ W.cell? ⟨w.heap.size, 4, none⟩ = some (.int .i64 a) ∧ Below w6.heap.size w6 W)
          ((refine HF.out _ ?_; first
          | (with_reducible refine below_set8 hb ?_; omega)
          | (with_reducible refine below_set8 (below_dr hb) ?_; omega)
          | (first | with_reducible exact hb | with_reducible exact below_dr hb | with_reducible exact kal hb _ | with_reducible exact below_dr (kal hb _) | with_reducible exact kal (kal hb _) _ | with_reducible exact below_dr (kal (kal hb _) _) | with_reducible exact bl w6 _ | with_reducible exact below_dr (bl w6 _) | with_reducible exact kal (bl w6 _) _ | with_reducible exact below_dr (kal (bl w6 _) _) | with_reducible exact below_dr (Below.refl _ _) | with_reducible exact Below.refl _ _ | fail)))
          (first
            | (go_at_call 29; (with_reducible refine (HT2.out _ ?_).mono ?_); (focus (first | with_reducible exact hb | with_reducible exact below_dr hb | with_reducible exact kal hb _ | with_reducible exact below_dr (kal hb _) | with_reducible exact kal (kal hb _) _ | with_reducible exact below_dr (kal (kal hb _) _) | with_reducible exact bl w6 _ | with_reducible exact below_dr (bl w6 _) | with_reducible exact kal (bl w6 _) _ | with_reducible exact below_dr (kal (bl w6 _) _) | with_reducible exact below_dr (Below.refl _ _) | with_reducible exact Below.refl _ _ | fail)); rintro e w1 ⟨⟨v2, rfl, o2⟩, hbq, hb, hle⟩; have hs1 := hb.size; (first | (have hzn : Zer w1 (w6.heap.size) := ?_; rotate_left; (focus (refine Zer.nx ?_ hbq; (first | with_reducible exact hz | with_reducible exact hz.dr | with_reducible exact hz.al _ | with_reducible exact (hz.al _).dr | (with_reducible refine zer_at ?_; (first | rfl | (simp; done))) | (with_reducible refine (zer_at ?_).dr; (first | rfl | (simp; done))) | (with_reducible refine (zer_at ?_).al _; (first | rfl | (simp; done))) | (with_reducible refine ((zer_at ?_).al _).dr; (first | rfl | (simp; done))) | fail); done))) | (have hzn : Zer w1 (w6.heap.size + 1) := ?_; rotate_left; (focus (refine Zer.nx ?_ hbq; (first | with_reducible exact hz | with_reducible exact hz.dr | with_reducible exact hz.al _ | with_reducible exact (hz.al _).dr | (with_reducible refine zer_at ?_; (first | rfl | (simp; done))) | (with_reducible refine (zer_at ?_).dr; (first | rfl | (simp; done))) | (with_reducible refine (zer_at ?_).al _; (first | rfl | (simp; done))) | (with_reducible refine ((zer_at ?_).al _).dr; (first | rfl | (simp; done))) | fail); done))) | have hzn := True.intro); have hz := hzn; clear hzn)
            | (refine step_app8 _ rfl (.tmp 118) (.tmp 119) _ _ rfl w6.heap.size 5 t8 v2 E rfl ?_ _ [0] rfl ?_ ?_ ?_ ?_; (focus (first | with_reducible exact o2.less hle | with_reducible exact (o2.less hle).drew | with_reducible exact (o2.less hle).alloc _ | with_reducible exact ((o2.less hle).alloc _).drew | with_reducible exact ((o2.less hle).alloc _).alloc _ | with_reducible exact (((o2.less hle).alloc _).alloc _).drew | fail)); (focus (first | exact src_zero (u := .slice (some ⟨w1.heap.size, 0, none⟩) 1 1) rfl (blk_new rfl) | exact src_zero (u := .slice (some ⟨w1.heap.size, 0, none⟩) 1 1) rfl (blk_old (blk_new rfl)) | exact src_zero (u := .slice (some ⟨w1.heap.size + 1, 0, none⟩) 1 1) rfl (blk_new (HSZ.out _ _).symm) | exact src_zero (u := .slice (some ⟨w6.heap.size, 0, none⟩) 1 1) rfl (blk_next hbq (blk_drew (blk_new rfl))) | exact src_zero (u := .slice (some ⟨w6.heap.size, 0, none⟩) 1 1) rfl (blk_old (blk_next hbq (blk_drew (blk_new rfl)))) | exact src_zero (u := .slice (some ⟨w6.heap.size, 0, none⟩) 1 1) rfl (blk_next hbq (blk_drew (blk_old (blk_new rfl)))) | exact src_zero (u := .slice (some ⟨w6.heap.size, 0, none⟩) 1 1) rfl (blk_old (blk_next hbq (blk_drew (blk_old (blk_new rfl))))) | exact src_zero (u := .slice (some ⟨w6.heap.size + 1, 0, none⟩) 1 1) rfl (blk_next hbq (blk_drew (blk_new (HSZ.out _ _).symm))) | exact src_zero (u := .slice (some ⟨w6.heap.size + 1, 0, none⟩) 1 1) rfl (blk_old (blk_next hbq (blk_drew (blk_new (HSZ.out _ _).symm)))) | fail)); (focus (rw [HQ.out]; show q + 1 ≤ 140737488355328; omega)); (focus (refine Below.size (B := w6.heap.size) (w := w6) ?_; (first | with_reducible exact hb | with_reducible exact below_dr hb | with_reducible exact kal hb _ | with_reducible exact below_dr (kal hb _) | with_reducible exact kal (kal hb _) _ | with_reducible exact below_dr (kal (kal hb _) _) | with_reducible exact bl w6 _ | with_reducible exact below_dr (bl w6 _) | with_reducible exact kal (bl w6 _) _ | with_reducible exact below_dr (kal (bl w6 _) _) | with_reducible exact below_dr (Below.refl _ _) | with_reducible exact Below.refl _ _ | fail))); intro v4 w4 o4 hg4 hat4; have hbn : Below w6.heap.size w6 w4 := (by refine Below.grown ?_ hg4 ?_ ?_; (focus (first | with_reducible exact hb | with_reducible exact below_dr hb | with_reducible exact kal hb _ | with_reducible exact below_dr (kal hb _) | with_reducible exact kal (kal hb _) _ | with_reducible exact below_dr (kal (kal hb _) _) | with_reducible exact bl w6 _ | with_reducible exact below_dr (bl w6 _) | with_reducible exact kal (bl w6 _) _ | with_reducible exact below_dr (kal (bl w6 _) _) | with_reducible exact below_dr (Below.refl _ _) | with_reducible exact Below.refl _ _ | fail)); (focus (refine Below.size (B := w6.heap.size) (w := w6) ?_; (first | with_reducible exact hb | with_reducible exact below_dr hb | with_reducible exact kal hb _ | with_reducible exact below_dr (kal hb _) | with_reducible exact kal (kal hb _) _ | with_reducible exact below_dr (kal (kal hb _) _) | with_reducible exact bl w6 _ | with_reducible exact below_dr (bl w6 _) | with_reducible exact kal (bl w6 _) _ | with_reducible exact below_dr (kal (bl w6 _) _) | with_reducible exact below_dr (Below.refl _ _) | with_reducible exact Below.refl _ _ | fail))); (focus (intro k hk; exact Nat.le_trans hle (World.ownsRow.lt o2 k hk).1))); clear hb; have hb := hbn; clear hbn; have hs4 := hb.size; (first | (have hzn : Zer w4 (w6.heap.size) := ?_; rotate_left; (focus (refine Zer.gr ?_ hg4 ?_; (focus ((first | with_reducible exact hz | with_reducible exact hz.dr | with_reducible exact hz.al _ | with_reducible exact (hz.al _).dr | (with_reducible refine zer_at ?_; (first | rfl | (simp; done))) | (with_reducible refine (zer_at ?_).dr; (first | rfl | (simp; done))) | (with_reducible refine (zer_at ?_).al _; (first | rfl | (simp; done))) | (with_reducible refine ((zer_at ?_).al _).dr; (first | rfl | (simp; done))) | fail))); (focus (intro e; have h1 := (World.ownsRow.lt o2 _ e.symm).1; have h2 := (World.ownsRow.lt o2 _ e.symm).2; first | omega | (simp at h1; done) | (simp at h1; omega) | (simp at h2; done) | (simp at h1 h2; omega))); done))) | (have hzn : Zer w4 (w6.heap.size + 1) := ?_; rotate_left; (focus (refine Zer.gr ?_ hg4 ?_; (focus ((first | with_reducible exact hz | with_reducible exact hz.dr | with_reducible exact hz.al _ | with_reducible exact (hz.al _).dr | (with_reducible refine zer_at ?_; (first | rfl | (simp; done))) | (with_reducible refine (zer_at ?_).dr; (first | rfl | (simp; done))) | (with_reducible refine (zer_at ?_).al _; (first | rfl | (simp; done))) | (with_reducible refine ((zer_at ?_).al _).dr; (first | rfl | (simp; done))) | fail))); (focus (intro e; have h1 := (World.ownsRow.lt o2 _ e.symm).1; have h2 := (World.ownsRow.lt o2 _ e.symm).2; first | omega | (simp at h1; done) | (simp at h1; omega) | (simp at h2; done) | (simp at h1 h2; omega))); done))) | (have hzn : Zer w4 (w1.heap.size) := ?_; rotate_left; (focus (refine Zer.gr ?_ hg4 ?_; (focus ((first | with_reducible exact hz | with_reducible exact hz.dr | with_reducible exact hz.al _ | with_reducible exact (hz.al _).dr | (with_reducible refine zer_at ?_; (first | rfl | (simp; done))) | (with_reducible refine (zer_at ?_).dr; (first | rfl | (simp; done))) | (with_reducible refine (zer_at ?_).al _; (first | rfl | (simp; done))) | (with_reducible refine ((zer_at ?_).al _).dr; (first | rfl | (simp; done))) | fail))); (focus (intro e; have h1 := (World.ownsRow.lt o2 _ e.symm).1; have h2 := (World.ownsRow.lt o2 _ e.symm).2; first | omega | (simp at h1; done) | (simp at h1; omega) | (simp at h2; done) | (simp at h1 h2; omega))); done))) | (have hzn : Zer w4 (w1.heap.size + 1) := ?_; rotate_left; (focus (refine Zer.gr ?_ hg4 ?_; (focus ((first | with_reducible exact hz | with_reducible exact hz.dr | with_reducible exact hz.al _ | with_reducible exact (hz.al _).dr | (with_reducible refine zer_at ?_; (first | rfl | (simp; done))) | (with_reducible refine (zer_at ?_).dr; (first | rfl | (simp; done))) | (with_reducible refine (zer_at ?_).al _; (first | rfl | (simp; done))) | (with_reducible refine ((zer_at ?_).al _).dr; (first | rfl | (simp; done))) | fail))); (focus (intro e; have h1 := (World.ownsRow.lt o2 _ e.symm).1; have h2 := (World.ownsRow.lt o2 _ e.symm).2; first | omega | (simp at h1; done) | (simp at h1; omega) | (simp at h2; done) | (simp at h1 h2; omega))); done))) | have hzn := True.intro); clear hz; have hz := hzn; clear hzn; obtain ⟨X4, y4, rfl, o4'⟩ := own_q o4 HQM.out; obtain ⟨X4', y4', hv4, k4, m4, s4, -⟩ := o4'.form; simp only [Value.slice.injEq] at hv4; obtain ⟨rfl, -, rfl⟩ := hv4; rw [HQM.out] at k4)
            | (go_at_call 12; (with_reducible refine (HR3.out _ _ _ ?_ ?_ k4 m4).mono ?_); (focus (first | with_reducible exact hb | with_reducible exact below_dr hb | with_reducible exact kal hb _ | with_reducible exact below_dr (kal hb _) | with_reducible exact kal (kal hb _) _ | with_reducible exact below_dr (kal (kal hb _) _) | with_reducible exact bl w6 _ | with_reducible exact below_dr (bl w6 _) | with_reducible exact kal (bl w6 _) _ | with_reducible exact below_dr (kal (bl w6 _) _) | with_reducible exact below_dr (Below.refl _ _) | with_reducible exact Below.refl _ _ | fail)); (focus (first | with_reducible exact s4 | with_reducible exact s4.next (bl w4 _) | with_reducible exact s4.next (below_dr (bl w4 _)) | with_reducible exact s4.next (below_dr (Below.refl _ _)) | fail)); rintro e w7 ⟨⟨Z1, zc1, -, rfl⟩, hbr, hbn⟩; clear hb; have hb := hbn; clear hbn; (first | (have hzn : Zer w7 (w6.heap.size) := ?_; rotate_left; (focus (refine Zer.nx ?_ hbr; (first | with_reducible exact hz | with_reducible exact hz.dr | with_reducible exact hz.al _ | with_reducible exact (hz.al _).dr | (with_reducible refine zer_at ?_; (first | rfl | (simp; done))) | (with_reducible refine (zer_at ?_).dr; (first | rfl | (simp; done))) | (with_reducible refine (zer_at ?_).al _; (first | rfl | (simp; done))) | (with_reducible refine ((zer_at ?_).al _).dr; (first | rfl | (simp; done))) | fail); done))) | (have hzn : Zer w7 (w6.heap.size + 1) := ?_; rotate_left; (focus (refine Zer.nx ?_ hbr; (first | with_reducible exact hz | with_reducible exact hz.dr | with_reducible exact hz.al _ | with_reducible exact (hz.al _).dr | (with_reducible refine zer_at ?_; (first | rfl | (simp; done))) | (with_reducible refine (zer_at ?_).dr; (first | rfl | (simp; done))) | (with_reducible refine (zer_at ?_).al _; (first | rfl | (simp; done))) | (with_reducible refine ((zer_at ?_).al _).dr; (first | rfl | (simp; done))) | fail); done))) | (have hzn : Zer w7 (w1.heap.size) := ?_; rotate_left; (focus (refine Zer.nx ?_ hbr; (first | with_reducible exact hz | with_reducible exact hz.dr | with_reducible exact hz.al _ | with_reducible exact (hz.al _).dr | (with_reducible refine zer_at ?_; (first | rfl | (simp; done))) | (with_reducible refine (zer_at ?_).dr; (first | rfl | (simp; done))) | (with_reducible refine (zer_at ?_).al _; (first | rfl | (simp; done))) | (with_reducible refine ((zer_at ?_).al _).dr; (first | rfl | (simp; done))) | fail); done))) | (have hzn : Zer w7 (w1.heap.size + 1) := ?_; rotate_left; (focus (refine Zer.nx ?_ hbr; (first | with_reducible exact hz | with_reducible exact hz.dr | with_reducible exact hz.al _ | with_reducible exact (hz.al _).dr | (with_reducible refine zer_at ?_; (first | rfl | (simp; done))) | (with_reducible refine (zer_at ?_).dr; (first | rfl | (simp; done))) | (with_reducible refine (zer_at ?_).al _; (first | rfl | (simp; done))) | (with_reducible refine ((zer_at ?_).al _).dr; (first | rfl | (simp; done))) | fail); done))) | (have hzn : Zer w7 (w4.heap.size) := ?_; rotate_left; (focus (refine Zer.nx ?_ hbr; (first | with_reducible exact hz | with_reducible exact hz.dr | with_reducible exact hz.al _ | with_reducible exact (hz.al _).dr | (with_reducible refine zer_at ?_; (first | rfl | (simp; done))) | (with_reducible refine (zer_at ?_).dr; (first | rfl | (simp; done))) | (with_reducible refine (zer_at ?_).al _; (first | rfl | (simp; done))) | (with_reducible refine ((zer_at ?_).al _).dr; (first | rfl | (simp; done))) | fail); done))) | have hzn := True.intro); clear hz; (try obtain ⟨z0, z1, z2, z3, z4, z5, z6, z7, f0, f1, f2, f3, f4, f5, f6, f7⟩ := hzn); (try clear hzn))
            | fail)
        all_goals (go_wp2_with fail; go_meet)
        all_goals (refine ⟨rfl, ?_⟩; first | (with_reducible refine below_set8 hb ?_; omega) | (with_reducible refine below_set8 (below_dr hb) ?_; omega) | (first | with_reducible exact hb | with_reducible exact below_dr hb | with_reducible exact kal hb _ | with_reducible exact below_dr (kal hb _) | with_reducible exact kal (kal hb _) _ | with_reducible exact below_dr (kal (kal hb _) _) | with_reducible exact bl w6 _ | with_reducible exact below_dr (bl w6 _) | with_reducible exact kal (bl w6 _) _ | with_reducible exact below_dr (kal (bl w6 _) _) | with_reducible exact below_dr (Below.refl _ _) | with_reducible exact Below.refl _ _ | fail))
      case rest =>
        obtain ⟨w7, rfl⟩ : ∃ x, x = wc := ⟨wc, rfl⟩
        obtain ⟨rfl, hb7⟩ := hcut
        have hb07 := bt hb06 hb7
        go_wp2_with (go_at_call 20; (with_reducible refine (wk_rec _ (HC.out.next hb07)).mono ?_); rintro e wz ⟨rfl, hbz⟩)
        go_ret
        exact ⟨rfl, bt hb07 hbz⟩
set_option maxRecDepth 100000 in
set_option maxHeartbeats 8000000 in
theorem back_long (z d s l a cut : Int) (r p : RcR) (n m : Nat) (w : World) (h : (200 : Int) < (n : Int) ∨ (¬ (200 : Int) < (n : Int) ∧ (200 : Int) < (m : Int))) :
    Calls Try.prog 4 #[.agg #[.int .i64 z, .int .i64 d, .int .i64 s, .int .i64 l, .int .i64 a], .agg #[.int .i64 r.kd, .int .i64 r.sq, .int .i64 r.ep, .int .i64 r.ps, .int .i64 r.nm, .int .i64 r.i.z, .int .i64 r.i.wh, .slice r.i.A n r.i.c], .agg #[.int .i64 p.kd, .int .i64 p.sq, .int .i64 p.ep, .int .i64 p.ps, .int .i64 p.nm, .int .i64 p.i.z, .int .i64 p.i.wh, .slice p.i.A m p.i.c], .int .i64 cut] w fun e w' => e = .returned (.bool true) ∧ Below w.heap.size w w' := by
  have s1 : (w.alloc (.cells #[.int .i64 z, .int .i64 d, .int .i64 s, .int .i64 l, .int .i64 a] 23)).heap.size = w.heap.size + 1 := by simp
  have s2 : ((w.alloc (.cells #[.int .i64 z, .int .i64 d, .int .i64 s, .int .i64 l, .int .i64 a] 23)).alloc (.cells #[.int .i64 r.kd, .int .i64 r.sq, .int .i64 r.ep, .int .i64 r.ps, .int .i64 r.nm, .int .i64 r.i.z, .int .i64 r.i.wh, .slice r.i.A n r.i.c] 28)).heap.size = w.heap.size + 2 := by simp
  have b2 := bl (w.alloc (.cells #[.int .i64 z, .int .i64 d, .int .i64 s, .int .i64 l, .int .i64 a] 23)) (.cells #[.int .i64 r.kd, .int .i64 r.sq, .int .i64 r.ep, .int .i64 r.ps, .int .i64 r.nm, .int .i64 r.i.z, .int .i64 r.i.wh, .slice r.i.A n r.i.c] 28)
  have b3 := bl ((w.alloc (.cells #[.int .i64 z, .int .i64 d, .int .i64 s, .int .i64 l, .int .i64 a] 23)).alloc (.cells #[.int .i64 r.kd, .int .i64 r.sq, .int .i64 r.ep, .int .i64 r.ps, .int .i64 r.nm, .int .i64 r.i.z, .int .i64 r.i.wh, .slice r.i.A n r.i.c] 28)) (.cells #[.int .i64 p.kd, .int .i64 p.sq, .int .i64 p.ep, .int .i64 p.ps, .int .i64 p.nm, .int .i64 p.i.z, .int .i64 p.i.wh, .slice p.i.A m p.i.c] 28)
  have GG := ((g5_new w z d s l a).keep b2 (by omega)).keep b3 (by omega)
  have X1 := (c8_new (w.alloc (.cells #[.int .i64 z, .int .i64 d, .int .i64 s, .int .i64 l, .int .i64 a] 23)) (.int .i64 r.kd) (.int .i64 r.sq) (.int .i64 r.ep) (.int .i64 r.ps) (.int .i64 r.nm) (.int .i64 r.i.z) (.int .i64 r.i.wh) (.slice r.i.A n r.i.c) 28).keep b3 (by omega)
  have Y1 := c8_new ((w.alloc (.cells #[.int .i64 z, .int .i64 d, .int .i64 s, .int .i64 l, .int .i64 a] 23)).alloc (.cells #[.int .i64 r.kd, .int .i64 r.sq, .int .i64 r.ep, .int .i64 r.ps, .int .i64 r.nm, .int .i64 r.i.z, .int .i64 r.i.wh, .slice r.i.A n r.i.c] 28)) (.int .i64 p.kd) (.int .i64 p.sq) (.int .i64 p.ep) (.int .i64 p.ps) (.int .i64 p.nm) (.int .i64 p.i.z) (.int .i64 p.i.wh) (.slice p.i.A m p.i.c) 28
  rw [s1] at X1
  rw [s2] at Y1
  have hb0 := kal (kal (bl w (.cells #[.int .i64 z, .int .i64 d, .int .i64 s, .int .i64 l, .int .i64 a] 23)) (.cells #[.int .i64 r.kd, .int .i64 r.sq, .int .i64 r.ep, .int .i64 r.ps, .int .i64 r.nm, .int .i64 r.i.z, .int .i64 r.i.wh, .slice r.i.A n r.i.c] 28)) (.cells #[.int .i64 p.kd, .int .i64 p.sq, .int .i64 p.ep, .int .i64 p.ps, .int .i64 p.nm, .int .i64 p.i.z, .int .i64 p.i.wh, .slice p.i.A m p.i.c] 28)
  have l1 : w.heap.size + 2 < (((w.alloc (.cells #[.int .i64 z, .int .i64 d, .int .i64 s, .int .i64 l, .int .i64 a] 23)).alloc (.cells #[.int .i64 r.kd, .int .i64 r.sq, .int .i64 r.ep, .int .i64 r.ps, .int .i64 r.nm, .int .i64 r.i.z, .int .i64 r.i.wh, .slice r.i.A n r.i.c] 28)).alloc (.cells #[.int .i64 p.kd, .int .i64 p.sq, .int .i64 p.ep, .int .i64 p.ps, .int .i64 p.nm, .int .i64 p.i.z, .int .i64 p.i.wh, .slice p.i.A m p.i.c] 28)).heap.size := by simp
  clear s1 s2 b2 b3
  rcases h with h | ⟨h, h2⟩
  · go_enter Try.func4, Try.ntmps4
    go_upto_region 1 with fail
    generalize (((w.alloc (.cells #[.int .i64 z, .int .i64 d, .int .i64 s, .int .i64 l, .int .i64 a] 23)).alloc (.cells #[.int .i64 r.kd, .int .i64 r.sq, .int .i64 r.ep, .int .i64 r.ps, .int .i64 r.nm, .int .i64 r.i.z, .int .i64 r.i.wh, .slice r.i.A n r.i.c] 28)).alloc (.cells #[.int .i64 p.kd, .int .i64 p.sq, .int .i64 p.ep, .int .i64 p.ps, .int .i64 p.nm, .int .i64 p.i.z, .int .i64 p.i.wh, .slice p.i.A m p.i.c] 28)) = w0 at *
    obtain ⟨g0, g1, g2, g3, g4⟩ := id GG
    obtain ⟨x0, x1, x2, x3, x4, x5, x6, x7⟩ := id X1
    obtain ⟨y0, y1, y2, y3, y4, y5, y6, y7⟩ := id Y1
    go_wp2_with fail
    go_ret
    exact ⟨rfl, hb0⟩
  · go_enter Try.func4, Try.ntmps4
    go_upto_region 1 with fail
    generalize (((w.alloc (.cells #[.int .i64 z, .int .i64 d, .int .i64 s, .int .i64 l, .int .i64 a] 23)).alloc (.cells #[.int .i64 r.kd, .int .i64 r.sq, .int .i64 r.ep, .int .i64 r.ps, .int .i64 r.nm, .int .i64 r.i.z, .int .i64 r.i.wh, .slice r.i.A n r.i.c] 28)).alloc (.cells #[.int .i64 p.kd, .int .i64 p.sq, .int .i64 p.ep, .int .i64 p.ps, .int .i64 p.nm, .int .i64 p.i.z, .int .i64 p.i.wh, .slice p.i.A m p.i.c] 28)) = w0 at *
    obtain ⟨g0, g1, g2, g3, g4⟩ := id GG
    obtain ⟨x0, x1, x2, x3, x4, x5, x6, x7⟩ := id X1
    obtain ⟨y0, y1, y2, y3, y4, y5, y6, y7⟩ := id Y1
    go_wp2_with fail
    go_ret
    exact ⟨rfl, hb0⟩
set_option maxRecDepth 100000 in
set_option maxHeartbeats 8000000 in
theorem back_none (b1 b2 : Bool) (z d s l a cut : Int) (r p : RcR) (n m : Nat) (w : World) (hc : Crd w) (hx : BIn w w.heap.size r.i) (hy : BIn w w.heap.size p.i) (hxn : r.i.l.length = n) (hym : p.i.l.length = m) (hn2 : ¬ (200 : Int) < (n : Int)) (hm2 : ¬ (200 : Int) < (m : Int)) (hb : ¬ (b1 = true ∧ b2 = true)) (h1 : b1 = true ↔ Ok z d s l a ∧ RecOk z d r.d) (h2 : b2 = true ↔ Ok z d s l a ∧ RecOk z d p.d) :
    Calls Try.prog 4 #[.agg #[.int .i64 z, .int .i64 d, .int .i64 s, .int .i64 l, .int .i64 a], .agg #[.int .i64 r.kd, .int .i64 r.sq, .int .i64 r.ep, .int .i64 r.ps, .int .i64 r.nm, .int .i64 r.i.z, .int .i64 r.i.wh, .slice r.i.A n r.i.c], .agg #[.int .i64 p.kd, .int .i64 p.sq, .int .i64 p.ep, .int .i64 p.ps, .int .i64 p.nm, .int .i64 p.i.z, .int .i64 p.i.wh, .slice p.i.A m p.i.c], .int .i64 cut] w fun e w' => e = .returned (.bool true) ∧ Below w.heap.size w w' := by
  have CB : ∀ (b : Bool) (r : RcR) (n : Nat), BIn w w.heap.size r.i → r.i.l.length = n → n ≤ 1048576 → (b = true ↔ Ok z d s l a ∧ RecOk z d r.d) → ∀ W, Below w.heap.size w W → Calls Try.prog 11 #[.agg #[.int .i64 z, .int .i64 d, .int .i64 s, .int .i64 l, .int .i64 a], .agg #[.int .i64 r.kd, .int .i64 r.sq, .int .i64 r.ep, .int .i64 r.ps, .int .i64 r.nm, .int .i64 r.i.z, .int .i64 r.i.wh, .slice r.i.A n r.i.c]] W fun e w' => (∃ (X : Option Addr) (q c : Nat), e = .returned (.tuple #[.slice X q c, .int .i64 (if b = true then 0 else 1)]) ∧ (b = false → q = 0)) ∧ Below W.heap.size W w' := fun b r n hx hn hn1 hbb W hW => by
    cases b
    · refine (hc.bytes_no z d s l a r n W hW (fun h => Bool.false_ne_true (hbb.2 h)) (hx.next hW) hn hn1).mono ?_
      rintro e w' ⟨⟨X, c, rfl⟩, hb⟩
      exact ⟨⟨X, 0, c, rfl, fun _ => rfl⟩, hb⟩
    · refine (hc.bytes z d s l a r n W hW (hbb.1 rfl).1 (hx.next hW) hn (hbb.1 rfl).2).mono ?_
      rintro e w' ⟨⟨X, c, rfl, -⟩, hb⟩
      exact ⟨⟨X, _, c, rfl, fun h => absurd h (by decide)⟩, hb⟩
  have HB := Lib.hid (CB b1 r n hx hxn (by omega) h1)
  have HD := Lib.hid (CB b2 p m hy hym (by omega) h2)
  have HWK := Lib.hid (fun W (hW : Below w.heap.size w W) => wk_rec W (hc.next hW))
  have s1 : (w.alloc (.cells #[.int .i64 z, .int .i64 d, .int .i64 s, .int .i64 l, .int .i64 a] 23)).heap.size = w.heap.size + 1 := by simp
  have s2 : ((w.alloc (.cells #[.int .i64 z, .int .i64 d, .int .i64 s, .int .i64 l, .int .i64 a] 23)).alloc (.cells #[.int .i64 r.kd, .int .i64 r.sq, .int .i64 r.ep, .int .i64 r.ps, .int .i64 r.nm, .int .i64 r.i.z, .int .i64 r.i.wh, .slice r.i.A n r.i.c] 28)).heap.size = w.heap.size + 2 := by simp
  have b2 := bl (w.alloc (.cells #[.int .i64 z, .int .i64 d, .int .i64 s, .int .i64 l, .int .i64 a] 23)) (.cells #[.int .i64 r.kd, .int .i64 r.sq, .int .i64 r.ep, .int .i64 r.ps, .int .i64 r.nm, .int .i64 r.i.z, .int .i64 r.i.wh, .slice r.i.A n r.i.c] 28)
  have b3 := bl ((w.alloc (.cells #[.int .i64 z, .int .i64 d, .int .i64 s, .int .i64 l, .int .i64 a] 23)).alloc (.cells #[.int .i64 r.kd, .int .i64 r.sq, .int .i64 r.ep, .int .i64 r.ps, .int .i64 r.nm, .int .i64 r.i.z, .int .i64 r.i.wh, .slice r.i.A n r.i.c] 28)) (.cells #[.int .i64 p.kd, .int .i64 p.sq, .int .i64 p.ep, .int .i64 p.ps, .int .i64 p.nm, .int .i64 p.i.z, .int .i64 p.i.wh, .slice p.i.A m p.i.c] 28)
  have GG := ((g5_new w z d s l a).keep b2 (by omega)).keep b3 (by omega)
  have X1 := (c8_new (w.alloc (.cells #[.int .i64 z, .int .i64 d, .int .i64 s, .int .i64 l, .int .i64 a] 23)) (.int .i64 r.kd) (.int .i64 r.sq) (.int .i64 r.ep) (.int .i64 r.ps) (.int .i64 r.nm) (.int .i64 r.i.z) (.int .i64 r.i.wh) (.slice r.i.A n r.i.c) 28).keep b3 (by omega)
  have Y1 := c8_new ((w.alloc (.cells #[.int .i64 z, .int .i64 d, .int .i64 s, .int .i64 l, .int .i64 a] 23)).alloc (.cells #[.int .i64 r.kd, .int .i64 r.sq, .int .i64 r.ep, .int .i64 r.ps, .int .i64 r.nm, .int .i64 r.i.z, .int .i64 r.i.wh, .slice r.i.A n r.i.c] 28)) (.int .i64 p.kd) (.int .i64 p.sq) (.int .i64 p.ep) (.int .i64 p.ps) (.int .i64 p.nm) (.int .i64 p.i.z) (.int .i64 p.i.wh) (.slice p.i.A m p.i.c) 28
  rw [s1] at X1
  rw [s2] at Y1
  have hb0 := kal (kal (bl w (.cells #[.int .i64 z, .int .i64 d, .int .i64 s, .int .i64 l, .int .i64 a] 23)) (.cells #[.int .i64 r.kd, .int .i64 r.sq, .int .i64 r.ep, .int .i64 r.ps, .int .i64 r.nm, .int .i64 r.i.z, .int .i64 r.i.wh, .slice r.i.A n r.i.c] 28)) (.cells #[.int .i64 p.kd, .int .i64 p.sq, .int .i64 p.ep, .int .i64 p.ps, .int .i64 p.nm, .int .i64 p.i.z, .int .i64 p.i.wh, .slice p.i.A m p.i.c] 28)
  have l1 : w.heap.size + 2 < (((w.alloc (.cells #[.int .i64 z, .int .i64 d, .int .i64 s, .int .i64 l, .int .i64 a] 23)).alloc (.cells #[.int .i64 r.kd, .int .i64 r.sq, .int .i64 r.ep, .int .i64 r.ps, .int .i64 r.nm, .int .i64 r.i.z, .int .i64 r.i.wh, .slice r.i.A n r.i.c] 28)).alloc (.cells #[.int .i64 p.kd, .int .i64 p.sq, .int .i64 p.ep, .int .i64 p.ps, .int .i64 p.nm, .int .i64 p.i.z, .int .i64 p.i.wh, .slice p.i.A m p.i.c] 28)).heap.size := by simp
  clear s1 s2 b2 b3
  clear hx hy hc hxn hym CB h1 h2
  have hway : (b1 = false ∧ b2 = false) ∨ (b1 = false ∧ b2 = true) ∨ (b1 = true ∧ b2 = false) := by
    cases b1 <;> cases b2 <;> simp at hb ⊢
  clear hb
  rcases hway with ⟨rfl, rfl⟩ | ⟨rfl, rfl⟩ | ⟨rfl, rfl⟩
  all_goals
    go_enter Try.func4, Try.ntmps4
    go_upto_region 1 with fail
    generalize (((w.alloc (.cells #[.int .i64 z, .int .i64 d, .int .i64 s, .int .i64 l, .int .i64 a] 23)).alloc (.cells #[.int .i64 r.kd, .int .i64 r.sq, .int .i64 r.ep, .int .i64 r.ps, .int .i64 r.nm, .int .i64 r.i.z, .int .i64 r.i.wh, .slice r.i.A n r.i.c] 28)).alloc (.cells #[.int .i64 p.kd, .int .i64 p.sq, .int .i64 p.ep, .int .i64 p.ps, .int .i64 p.nm, .int .i64 p.i.z, .int .i64 p.i.wh, .slice p.i.A m p.i.c] 28)) = w0 at *
    obtain ⟨g0, g1, g2, g3, g4⟩ := id GG
    obtain ⟨x0, x1, x2, x3, x4, x5, x6, x7⟩ := id X1
    obtain ⟨y0, y1, y2, y3, y4, y5, y6, y7⟩ := id Y1
    go_upto_region 5 with (first
      | (go_at_call 11; (with_reducible refine (HB.out _ hb0).mono ?_); rintro e wB ⟨⟨X5, q5, c5, rfl, hq5⟩, hbq⟩; have hq5b := Lib.hid hq5; clear hq5; replace GG := GG.keep hbq (by omega); replace X1 := X1.keep hbq (by omega); replace Y1 := Y1.keep hbq (by omega); replace l1 := Nat.lt_of_lt_of_le l1 hbq.size; clear g0 g1 g2 g3 g4 x0 x1 x2 x3 x4 x5 x6 x7 y0 y1 y2 y3 y4 y5 y6 y7; obtain ⟨g0, g1, g2, g3, g4⟩ := id GG; obtain ⟨x0, x1, x2, x3, x4, x5, x6, x7⟩ := id X1; obtain ⟨y0, y1, y2, y3, y4, y5, y6, y7⟩ := id Y1; replace hb0 := bt hb0 hbq; clear hbq)
      | (go_at_call 11; (with_reducible refine (HD.out _ hb0).mono ?_); rintro e wD ⟨⟨X6, q6, c6, rfl, hq6⟩, hbq⟩; have hq6b := Lib.hid hq6; clear hq6; replace GG := GG.keep hbq (by omega); replace X1 := X1.keep hbq (by omega); replace Y1 := Y1.keep hbq (by omega); replace l1 := Nat.lt_of_lt_of_le l1 hbq.size; clear g0 g1 g2 g3 g4 x0 x1 x2 x3 x4 x5 x6 x7 y0 y1 y2 y3 y4 y5 y6 y7; obtain ⟨g0, g1, g2, g3, g4⟩ := id GG; obtain ⟨x0, x1, x2, x3, x4, x5, x6, x7⟩ := id X1; obtain ⟨y0, y1, y2, y3, y4, y5, y6, y7⟩ := id Y1; replace hb0 := bt hb0 hbq; clear hbq))
    try (have hq5c := hq5b.out (by first | exact rfl | trivial); subst hq5c)
    try (have hq6c := hq6b.out (by first | exact rfl | trivial); subst hq6c)
    clear hq5b hq6b HB HD
    go_wp2_with (go_at_call 20; (with_reducible refine (HWK.out _ hb0).mono ?_); rintro e wz ⟨rfl, hbz⟩)
    go_ret
    exact ⟨rfl, bt hb0 hbz⟩
/-- The law. -/
theorem back_law (z d s l a cut : Int) (r p : RcR) (n m : Nat) (w : World) (hc : Crd w) (hx : BIn w w.heap.size r.i) (hy : BIn w w.heap.size p.i) (hxn : r.i.l.length = n) (hym : p.i.l.length = m) :
    Calls Try.prog 4 #[.agg #[.int .i64 z, .int .i64 d, .int .i64 s, .int .i64 l, .int .i64 a], .agg #[.int .i64 r.kd, .int .i64 r.sq, .int .i64 r.ep, .int .i64 r.ps, .int .i64 r.nm, .int .i64 r.i.z, .int .i64 r.i.wh, .slice r.i.A n r.i.c], .agg #[.int .i64 p.kd, .int .i64 p.sq, .int .i64 p.ep, .int .i64 p.ps, .int .i64 p.nm, .int .i64 p.i.z, .int .i64 p.i.wh, .slice p.i.A m p.i.c], .int .i64 cut] w fun e w' => e = .returned (.bool true) ∧ Below w.heap.size w w' := by
  by_cases h1 : (200 : Int) < (n : Int)
  · exact back_long z d s l a cut r p n m w (.inl h1)
  by_cases h2 : (200 : Int) < (m : Int)
  · exact back_long z d s l a cut r p n m w (.inr ⟨h1, h2⟩)
  obtain ⟨b1, hb1⟩ := bool_of (Ok z d s l a ∧ RecOk z d r.d)
  obtain ⟨b2, hb2⟩ := bool_of (Ok z d s l a ∧ RecOk z d p.d)
  by_cases hb : b1 = true ∧ b2 = true
  · obtain ⟨ho, hg⟩ := hb1.1 hb.1
    obtain ⟨-, hg2⟩ := hb2.1 hb.2
    have hqb := encR_short hg ho.2.1
    have h := gmt.wrap_mod cut ((encR r.d).length : Int) (by omega)
    obtain ⟨c, hcc⟩ := bool_of (r.d = p.d)
    exact back_both c (encR r.d).length (encR p.d).length ((IntKind.u64.wrap cut).tmod ((encR r.d).length : Int)).toNat z d s l a cut r p n m w hc hx hy hxn hym ho (by omega) (by omega) hg hg2 rfl rfl (by omega) (by omega) hcc
  · exact back_none b1 b2 z d s l a cut r p n m w hc hx hy hxn hym h1 h2 hb hb1 hb2
end Go.Proofs.Ytplhdnhigboeaaa.lrc
