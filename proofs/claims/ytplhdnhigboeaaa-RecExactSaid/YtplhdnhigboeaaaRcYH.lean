/-
  The developers' own parse. Conditions: fewer than 2^32 bytes.
-/
import Derived.Test.YtplhdnhigboeaaaRcYG
namespace Go.Proofs.Ytplhdnhigboeaaa.lrc
open Go.RowKit Go.Lib
open Go.Proofs.Ytplhdnhigboeaaa.gmt (Ok)
open Go.Proofs.Ytplhdnhigboeaaa.anc (bl kal kst ks bm ka)
open Go.Proofs.Ytplhdnhigboeaaa.tbl (C1 c1_new G5 g5_new)
open Go.Proofs.Ytplhdnhigboeaaa.img
open Go.Proofs.Ytplhdnhigboeaaa.pck (le le_length num unrow unrow_any)

/-- Eight cells that may be written. -/
structure Eig (W : World) (g : Nat) (a0 a1 a2 a3 a4 a5 a6 a7 : Value) : Prop where
  c0 : W.cell? ⟨g, 0, none⟩ = some a0
  c1 : W.cell? ⟨g, 1, none⟩ = some a1
  c2 : W.cell? ⟨g, 2, none⟩ = some a2
  c3 : W.cell? ⟨g, 3, none⟩ = some a3
  c4 : W.cell? ⟨g, 4, none⟩ = some a4
  c5 : W.cell? ⟨g, 5, none⟩ = some a5
  c6 : W.cell? ⟨g, 6, none⟩ = some a6
  c7 : W.cell? ⟨g, 7, none⟩ = some a7
  f0 : W.frozen? ⟨g, 0, none⟩ = false
  f1 : W.frozen? ⟨g, 1, none⟩ = false
  f2 : W.frozen? ⟨g, 2, none⟩ = false
  f3 : W.frozen? ⟨g, 3, none⟩ = false
  f4 : W.frozen? ⟨g, 4, none⟩ = false
  f5 : W.frozen? ⟨g, 5, none⟩ = false
  f6 : W.frozen? ⟨g, 6, none⟩ = false
  f7 : W.frozen? ⟨g, 7, none⟩ = false
section
variable {W W' : World} {g : Nat} {a0 a1 a2 a3 a4 a5 a6 a7 : Value}
theorem eig_new (w : World) (a0 a1 a2 a3 a4 a5 a6 a7 : Value) (t : TypeId) : Eig (w.alloc (.cells #[a0, a1, a2, a3, a4, a5, a6, a7] t)) w.heap.size a0 a1 a2 a3 a4 a5 a6 a7 := by
  have h := heap_alloc_new w (.cells #[a0, a1, a2, a3, a4, a5, a6, a7] t)
  constructor <;> first | (rw [cell_of_row _ _ _ _ _ _ h]; rfl) | exact World.frozen?_alloc_new _ _ _ _
theorem Eig.keep {B : Nat} (h : Eig W g a0 a1 a2 a3 a4 a5 a6 a7) (hb : Below B W W') (hg : g < B) : Eig W' g a0 a1 a2 a3 a4 a5 a6 a7 :=
  ⟨(hb.cell (p := ⟨g, 0, none⟩) hg).trans h.c0, (hb.cell (p := ⟨g, 1, none⟩) hg).trans h.c1, (hb.cell (p := ⟨g, 2, none⟩) hg).trans h.c2, (hb.cell (p := ⟨g, 3, none⟩) hg).trans h.c3, (hb.cell (p := ⟨g, 4, none⟩) hg).trans h.c4, (hb.cell (p := ⟨g, 5, none⟩) hg).trans h.c5, (hb.cell (p := ⟨g, 6, none⟩) hg).trans h.c6, (hb.cell (p := ⟨g, 7, none⟩) hg).trans h.c7, (hb.frozen (p := ⟨g, 0, none⟩) hg).trans h.f0, (hb.frozen (p := ⟨g, 1, none⟩) hg).trans h.f1, (hb.frozen (p := ⟨g, 2, none⟩) hg).trans h.f2, (hb.frozen (p := ⟨g, 3, none⟩) hg).trans h.f3, (hb.frozen (p := ⟨g, 4, none⟩) hg).trans h.f4, (hb.frozen (p := ⟨g, 5, none⟩) hg).trans h.f5, (hb.frozen (p := ⟨g, 6, none⟩) hg).trans h.f6, (hb.frozen (p := ⟨g, 7, none⟩) hg).trans h.f7⟩
theorem Eig.set0 (h : Eig W g a0 a1 a2 a3 a4 a5 a6 a7) (v : Value) : Eig (W.setCell ⟨g, 0, none⟩ v) g v a1 a2 a3 a4 a5 a6 a7 := by
  refine ⟨?_, ?_, ?_, ?_, ?_, ?_, ?_, ?_, ?_, ?_, ?_, ?_, ?_, ?_, ?_, ?_⟩
  · exact World.cell?_setCell_same _ _ _ h.c0
  · rw [World.cell?_setCell_other _ _ _ _ (by simp)]; exact h.c1
  · rw [World.cell?_setCell_other _ _ _ _ (by simp)]; exact h.c2
  · rw [World.cell?_setCell_other _ _ _ _ (by simp)]; exact h.c3
  · rw [World.cell?_setCell_other _ _ _ _ (by simp)]; exact h.c4
  · rw [World.cell?_setCell_other _ _ _ _ (by simp)]; exact h.c5
  · rw [World.cell?_setCell_other _ _ _ _ (by simp)]; exact h.c6
  · rw [World.cell?_setCell_other _ _ _ _ (by simp)]; exact h.c7
  · rw [World.frozen?_setCell]; exact h.f0
  · rw [World.frozen?_setCell]; exact h.f1
  · rw [World.frozen?_setCell]; exact h.f2
  · rw [World.frozen?_setCell]; exact h.f3
  · rw [World.frozen?_setCell]; exact h.f4
  · rw [World.frozen?_setCell]; exact h.f5
  · rw [World.frozen?_setCell]; exact h.f6
  · rw [World.frozen?_setCell]; exact h.f7
theorem Eig.set1 (h : Eig W g a0 a1 a2 a3 a4 a5 a6 a7) (v : Value) : Eig (W.setCell ⟨g, 1, none⟩ v) g a0 v a2 a3 a4 a5 a6 a7 := by
  refine ⟨?_, ?_, ?_, ?_, ?_, ?_, ?_, ?_, ?_, ?_, ?_, ?_, ?_, ?_, ?_, ?_⟩
  · rw [World.cell?_setCell_other _ _ _ _ (by simp)]; exact h.c0
  · exact World.cell?_setCell_same _ _ _ h.c1
  · rw [World.cell?_setCell_other _ _ _ _ (by simp)]; exact h.c2
  · rw [World.cell?_setCell_other _ _ _ _ (by simp)]; exact h.c3
  · rw [World.cell?_setCell_other _ _ _ _ (by simp)]; exact h.c4
  · rw [World.cell?_setCell_other _ _ _ _ (by simp)]; exact h.c5
  · rw [World.cell?_setCell_other _ _ _ _ (by simp)]; exact h.c6
  · rw [World.cell?_setCell_other _ _ _ _ (by simp)]; exact h.c7
  · rw [World.frozen?_setCell]; exact h.f0
  · rw [World.frozen?_setCell]; exact h.f1
  · rw [World.frozen?_setCell]; exact h.f2
  · rw [World.frozen?_setCell]; exact h.f3
  · rw [World.frozen?_setCell]; exact h.f4
  · rw [World.frozen?_setCell]; exact h.f5
  · rw [World.frozen?_setCell]; exact h.f6
  · rw [World.frozen?_setCell]; exact h.f7
theorem Eig.set2 (h : Eig W g a0 a1 a2 a3 a4 a5 a6 a7) (v : Value) : Eig (W.setCell ⟨g, 2, none⟩ v) g a0 a1 v a3 a4 a5 a6 a7 := by
  refine ⟨?_, ?_, ?_, ?_, ?_, ?_, ?_, ?_, ?_, ?_, ?_, ?_, ?_, ?_, ?_, ?_⟩
  · rw [World.cell?_setCell_other _ _ _ _ (by simp)]; exact h.c0
  · rw [World.cell?_setCell_other _ _ _ _ (by simp)]; exact h.c1
  · exact World.cell?_setCell_same _ _ _ h.c2
  · rw [World.cell?_setCell_other _ _ _ _ (by simp)]; exact h.c3
  · rw [World.cell?_setCell_other _ _ _ _ (by simp)]; exact h.c4
  · rw [World.cell?_setCell_other _ _ _ _ (by simp)]; exact h.c5
  · rw [World.cell?_setCell_other _ _ _ _ (by simp)]; exact h.c6
  · rw [World.cell?_setCell_other _ _ _ _ (by simp)]; exact h.c7
  · rw [World.frozen?_setCell]; exact h.f0
  · rw [World.frozen?_setCell]; exact h.f1
  · rw [World.frozen?_setCell]; exact h.f2
  · rw [World.frozen?_setCell]; exact h.f3
  · rw [World.frozen?_setCell]; exact h.f4
  · rw [World.frozen?_setCell]; exact h.f5
  · rw [World.frozen?_setCell]; exact h.f6
  · rw [World.frozen?_setCell]; exact h.f7
theorem Eig.set3 (h : Eig W g a0 a1 a2 a3 a4 a5 a6 a7) (v : Value) : Eig (W.setCell ⟨g, 3, none⟩ v) g a0 a1 a2 v a4 a5 a6 a7 := by
  refine ⟨?_, ?_, ?_, ?_, ?_, ?_, ?_, ?_, ?_, ?_, ?_, ?_, ?_, ?_, ?_, ?_⟩
  · rw [World.cell?_setCell_other _ _ _ _ (by simp)]; exact h.c0
  · rw [World.cell?_setCell_other _ _ _ _ (by simp)]; exact h.c1
  · rw [World.cell?_setCell_other _ _ _ _ (by simp)]; exact h.c2
  · exact World.cell?_setCell_same _ _ _ h.c3
  · rw [World.cell?_setCell_other _ _ _ _ (by simp)]; exact h.c4
  · rw [World.cell?_setCell_other _ _ _ _ (by simp)]; exact h.c5
  · rw [World.cell?_setCell_other _ _ _ _ (by simp)]; exact h.c6
  · rw [World.cell?_setCell_other _ _ _ _ (by simp)]; exact h.c7
  · rw [World.frozen?_setCell]; exact h.f0
  · rw [World.frozen?_setCell]; exact h.f1
  · rw [World.frozen?_setCell]; exact h.f2
  · rw [World.frozen?_setCell]; exact h.f3
  · rw [World.frozen?_setCell]; exact h.f4
  · rw [World.frozen?_setCell]; exact h.f5
  · rw [World.frozen?_setCell]; exact h.f6
  · rw [World.frozen?_setCell]; exact h.f7
theorem Eig.set4 (h : Eig W g a0 a1 a2 a3 a4 a5 a6 a7) (v : Value) : Eig (W.setCell ⟨g, 4, none⟩ v) g a0 a1 a2 a3 v a5 a6 a7 := by
  refine ⟨?_, ?_, ?_, ?_, ?_, ?_, ?_, ?_, ?_, ?_, ?_, ?_, ?_, ?_, ?_, ?_⟩
  · rw [World.cell?_setCell_other _ _ _ _ (by simp)]; exact h.c0
  · rw [World.cell?_setCell_other _ _ _ _ (by simp)]; exact h.c1
  · rw [World.cell?_setCell_other _ _ _ _ (by simp)]; exact h.c2
  · rw [World.cell?_setCell_other _ _ _ _ (by simp)]; exact h.c3
  · exact World.cell?_setCell_same _ _ _ h.c4
  · rw [World.cell?_setCell_other _ _ _ _ (by simp)]; exact h.c5
  · rw [World.cell?_setCell_other _ _ _ _ (by simp)]; exact h.c6
  · rw [World.cell?_setCell_other _ _ _ _ (by simp)]; exact h.c7
  · rw [World.frozen?_setCell]; exact h.f0
  · rw [World.frozen?_setCell]; exact h.f1
  · rw [World.frozen?_setCell]; exact h.f2
  · rw [World.frozen?_setCell]; exact h.f3
  · rw [World.frozen?_setCell]; exact h.f4
  · rw [World.frozen?_setCell]; exact h.f5
  · rw [World.frozen?_setCell]; exact h.f6
  · rw [World.frozen?_setCell]; exact h.f7
theorem Eig.set5 (h : Eig W g a0 a1 a2 a3 a4 a5 a6 a7) (v : Value) : Eig (W.setCell ⟨g, 5, none⟩ v) g a0 a1 a2 a3 a4 v a6 a7 := by
  refine ⟨?_, ?_, ?_, ?_, ?_, ?_, ?_, ?_, ?_, ?_, ?_, ?_, ?_, ?_, ?_, ?_⟩
  · rw [World.cell?_setCell_other _ _ _ _ (by simp)]; exact h.c0
  · rw [World.cell?_setCell_other _ _ _ _ (by simp)]; exact h.c1
  · rw [World.cell?_setCell_other _ _ _ _ (by simp)]; exact h.c2
  · rw [World.cell?_setCell_other _ _ _ _ (by simp)]; exact h.c3
  · rw [World.cell?_setCell_other _ _ _ _ (by simp)]; exact h.c4
  · exact World.cell?_setCell_same _ _ _ h.c5
  · rw [World.cell?_setCell_other _ _ _ _ (by simp)]; exact h.c6
  · rw [World.cell?_setCell_other _ _ _ _ (by simp)]; exact h.c7
  · rw [World.frozen?_setCell]; exact h.f0
  · rw [World.frozen?_setCell]; exact h.f1
  · rw [World.frozen?_setCell]; exact h.f2
  · rw [World.frozen?_setCell]; exact h.f3
  · rw [World.frozen?_setCell]; exact h.f4
  · rw [World.frozen?_setCell]; exact h.f5
  · rw [World.frozen?_setCell]; exact h.f6
  · rw [World.frozen?_setCell]; exact h.f7
theorem Eig.set6 (h : Eig W g a0 a1 a2 a3 a4 a5 a6 a7) (v : Value) : Eig (W.setCell ⟨g, 6, none⟩ v) g a0 a1 a2 a3 a4 a5 v a7 := by
  refine ⟨?_, ?_, ?_, ?_, ?_, ?_, ?_, ?_, ?_, ?_, ?_, ?_, ?_, ?_, ?_, ?_⟩
  · rw [World.cell?_setCell_other _ _ _ _ (by simp)]; exact h.c0
  · rw [World.cell?_setCell_other _ _ _ _ (by simp)]; exact h.c1
  · rw [World.cell?_setCell_other _ _ _ _ (by simp)]; exact h.c2
  · rw [World.cell?_setCell_other _ _ _ _ (by simp)]; exact h.c3
  · rw [World.cell?_setCell_other _ _ _ _ (by simp)]; exact h.c4
  · rw [World.cell?_setCell_other _ _ _ _ (by simp)]; exact h.c5
  · exact World.cell?_setCell_same _ _ _ h.c6
  · rw [World.cell?_setCell_other _ _ _ _ (by simp)]; exact h.c7
  · rw [World.frozen?_setCell]; exact h.f0
  · rw [World.frozen?_setCell]; exact h.f1
  · rw [World.frozen?_setCell]; exact h.f2
  · rw [World.frozen?_setCell]; exact h.f3
  · rw [World.frozen?_setCell]; exact h.f4
  · rw [World.frozen?_setCell]; exact h.f5
  · rw [World.frozen?_setCell]; exact h.f6
  · rw [World.frozen?_setCell]; exact h.f7
theorem Eig.set7 (h : Eig W g a0 a1 a2 a3 a4 a5 a6 a7) (v : Value) : Eig (W.setCell ⟨g, 7, none⟩ v) g a0 a1 a2 a3 a4 a5 a6 v := by
  refine ⟨?_, ?_, ?_, ?_, ?_, ?_, ?_, ?_, ?_, ?_, ?_, ?_, ?_, ?_, ?_, ?_⟩
  · rw [World.cell?_setCell_other _ _ _ _ (by simp)]; exact h.c0
  · rw [World.cell?_setCell_other _ _ _ _ (by simp)]; exact h.c1
  · rw [World.cell?_setCell_other _ _ _ _ (by simp)]; exact h.c2
  · rw [World.cell?_setCell_other _ _ _ _ (by simp)]; exact h.c3
  · rw [World.cell?_setCell_other _ _ _ _ (by simp)]; exact h.c4
  · rw [World.cell?_setCell_other _ _ _ _ (by simp)]; exact h.c5
  · rw [World.cell?_setCell_other _ _ _ _ (by simp)]; exact h.c6
  · exact World.cell?_setCell_same _ _ _ h.c7
  · rw [World.frozen?_setCell]; exact h.f0
  · rw [World.frozen?_setCell]; exact h.f1
  · rw [World.frozen?_setCell]; exact h.f2
  · rw [World.frozen?_setCell]; exact h.f3
  · rw [World.frozen?_setCell]; exact h.f4
  · rw [World.frozen?_setCell]; exact h.f5
  · rw [World.frozen?_setCell]; exact h.f6
  · rw [World.frozen?_setCell]; exact h.f7
end
theorem Eig.all {W : World} {g : Nat} {a0 a1 a2 a3 a4 a5 a6 a7 : Value} (h : Eig W g a0 a1 a2 a3 a4 a5 a6 a7) (v0 v1 v2 v3 v4 v5 v6 v7 : Value) : Eig ((((((((W.setCell ⟨g, 0, none⟩ v0).setCell ⟨g, 1, none⟩ v1).setCell ⟨g, 2, none⟩ v2).setCell ⟨g, 3, none⟩ v3).setCell ⟨g, 4, none⟩ v4).setCell ⟨g, 5, none⟩ v5).setCell ⟨g, 6, none⟩ v6).setCell ⟨g, 7, none⟩ v7) g v0 v1 v2 v3 v4 v5 v6 v7 := ((((((((h.set0 v0).set1 v1).set2 v2).set3 v3).set4 v4).set5 v5).set6 v6).set7 v7)
theorem own_all {W : World} {base g : Nat} {e : TypeId} {u : Value} {l : List UInt8} (h : Own W base e u l) (hg : g < base) (v0 v1 v2 v3 v4 v5 v6 v7 : Value) : Own ((((((((W.setCell ⟨g, 0, none⟩ v0).setCell ⟨g, 1, none⟩ v1).setCell ⟨g, 2, none⟩ v2).setCell ⟨g, 3, none⟩ v3).setCell ⟨g, 4, none⟩ v4).setCell ⟨g, 5, none⟩ v5).setCell ⟨g, 6, none⟩ v6).setCell ⟨g, 7, none⟩ v7) base e u l := own_st (own_st (own_st (own_st (own_st (own_st (own_st (own_st h hg v0) hg v1) hg v2) hg v3) hg v4) hg v5) hg v6) hg v7
theorem below_all {w W : World} {B g : Nat} (h : Below B w W) (hg : B ≤ g) (v0 v1 v2 v3 v4 v5 v6 v7 : Value) : Below B w ((((((((W.setCell ⟨g, 0, none⟩ v0).setCell ⟨g, 1, none⟩ v1).setCell ⟨g, 2, none⟩ v2).setCell ⟨g, 3, none⟩ v3).setCell ⟨g, 4, none⟩ v4).setCell ⟨g, 5, none⟩ v5).setCell ⟨g, 6, none⟩ v6).setCell ⟨g, 7, none⟩ v7) :=
  ((((((((h.setCell (p := ⟨g, 0, none⟩) hg v0).setCell (p := ⟨g, 1, none⟩) hg v1).setCell (p := ⟨g, 2, none⟩) hg v2).setCell (p := ⟨g, 3, none⟩) hg v3).setCell (p := ⟨g, 4, none⟩) hg v4).setCell (p := ⟨g, 5, none⟩) hg v5).setCell (p := ⟨g, 6, none⟩) hg v6).setCell (p := ⟨g, 7, none⟩) hg v7)
theorem unrow5_no {b : List UInt8} (h : b.length < 11) : unrow [1, 4, 4, 1, 1] b = .error 4 := by
  by_cases h1 : b.length < 1
  · simp [unrow, h1]
  by_cases h2 : b.length - 1 < 4
  · simp [unrow, h1, h2]
  by_cases h3 : b.length - 5 < 4
  · simp [unrow, h1, h2, h3]
  by_cases h4 : b.length - 9 < 1
  · simp [unrow, h1, h2, h3, h4]
  · simp [unrow, h1, h2, h3, h4, show b.length - 10 < 1 by omega]
theorem unrow5_yes {b : List UInt8} (h : ¬ b.length < 11) : unrow [1, 4, 4, 1, 1] b = .ok ([(at1 b 0 : Int), (at4 b 1 : Int), (at4 b 5 : Int), (at1 b 9 : Int), (at1 b 10 : Int)], b.drop 11) := by
  simp [unrow, at1, at4, show ¬ b.length < 1 by omega, show ¬ b.length - 1 < 4 by omega, show ¬ b.length - 5 < 4 by omega, show ¬ b.length - 9 < 1 by omega, show ¬ b.length - 10 < 1 by omega]
theorem at1_drop (b : List UInt8) (j k : Nat) : at1 (b.drop j) k = at1 b (j + k) := by unfold at1; rw [List.drop_drop]
set_option maxRecDepth 100000 in
set_option maxHeartbeats 8000000 in
theorem parse_short (A : Option Addr) (c n : Nat) (b : List UInt8) (w : World) (hn : b.length = n) (hA : Sl w w.heap.size A b) (hc : n ≤ c) (hm : c ≤ maxLen) (hl : n ≤ 4294967296) (h2 : b.length < 11) :
    Calls Try.prog 35 #[.slice A n c] w fun e w' => e = .returned (.tuple #[.agg #[.int .i64 0, .int .i64 0, .int .i64 0, .int .i64 0, .int .i64 0, .int .i64 0, .int .i64 0, .slice none 0 0], .slice none 0 0, .int .i64 4]) ∧ Below w.heap.size w w' := by
  have TT := eig_new w (.int .i64 0) (.int .i64 0) (.int .i64 0) (.int .i64 0) (.int .i64 0) (.int .i64 0) (.int .i64 0) (.slice none 0 0) 28
  have B0 := bl w (.cells #[.int .i64 0, .int .i64 0, .int .i64 0, .int .i64 0, .int .i64 0, .int .i64 0, .int .i64 0, .slice none 0 0] 28)
  have lw : w.heap.size < (w.alloc (.cells #[.int .i64 0, .int .i64 0, .int .i64 0, .int .i64 0, .int .i64 0, .int .i64 0, .int .i64 0, .slice none 0 0] 28)).heap.size := by simp
  have HU := Lib.hid fun (W : World) (X : Option Addr) (d : Nat) (hW : Below w.heap.size w W) (h : SlV W W.heap.size X (ints [1, 4, 4, 1, 1])) => unrow_er n 5 A X c d b [1, 4, 4, 1, 1] 4 W hn rfl (by omega) hc hm hl (unrow5_no h2) (hA.next hW) h
  clear hn hA hc hm hl h2
  go_enter Try.func35, Try.ntmps35
  go_upto_region 1 with fail
  generalize w.alloc (.cells #[.int .i64 0, .int .i64 0, .int .i64 0, .int .i64 0, .int .i64 0, .int .i64 0, .int .i64 0, .slice none 0 0] 28) = w0 at *
  go_upto_region 2 with (first
    | (go_at_call 64; (with_reducible refine (hsizes_c _).mono ?_); rintro e w1 ⟨rfl, rfl⟩)
    | (go_at_call 63; (with_reducible refine (HU.out _ _ _ (kal B0 _) (hsz_slv _)).mono ?_); rintro e w3 ⟨rfl, hb3⟩))
  have B3 := bt (kal B0 _) hb3
  have T3 := TT.keep (bt (bl _ _) hb3) lw
  obtain ⟨t0, t1, t2, t3, t4, t5, t6, t7, f0, f1, f2, f3, f4, f5, f6, f7⟩ := id T3
  go_wp2_with fail
  have k9 := T3.all (.int .i64 0) (.int .i64 0) (.int .i64 0) (.int .i64 0) (.int .i64 0) (.int .i64 0) (.int .i64 0) (.slice none 0 0)
  exact bodyPost_ret (v := .tuple #[.agg #[.int .i64 0, .int .i64 0, .int .i64 0, .int .i64 0, .int .i64 0, .int .i64 0, .int .i64 0, .slice none 0 0], .slice none 0 0, .int .i64 4]) (by simp [results, Try.results35, go_sem, k9.c0, k9.c1, k9.c2, k9.c3, k9.c4, k9.c5, k9.c6, k9.c7]) rfl ⟨rfl, below_all B3 (Nat.le_refl _) _ _ _ _ _ _ _ _⟩
set_option maxRecDepth 100000 in
set_option maxHeartbeats 8000000 in
theorem parse_ok0 (A : Option Addr) (c n : Nat) (b : List UInt8) (w : World) (hn : b.length = n) (hA : Sl w w.heap.size A b) (hc : n ≤ c) (hm : c ≤ maxLen) (hl : n ≤ 4294967296) (h2 : ¬ b.length < 11) (h0 : at1 b 0 ≠ 1) :
    Calls Try.prog 35 #[.slice A n c] w fun e w' => (∃ Y y, e = .returned (.tuple #[.agg #[.int .i64 (at1 b 0), .int .i64 (at4 b 1), .int .i64 (at4 b 5), .int .i64 (at1 b 9), .int .i64 (at1 b 10), .int .i64 0, .int .i64 0, .slice none 0 0], .slice Y (n - 11) y, .int .i64 0])) ∧ Below w.heap.size w w' := by
  obtain ⟨q, hq⟩ : ∃ q, (b.drop 11).length = q := ⟨_, rfl⟩
  have hqn : q = n - 11 := by rw [← hq, List.length_drop, hn]
  obtain ⟨kd, hkd⟩ : ∃ k, at1 b 0 = k := ⟨_, rfl⟩
  obtain ⟨sq, hsq⟩ : ∃ k, at4 b 1 = k := ⟨_, rfl⟩
  obtain ⟨ep, hep⟩ : ∃ k, at4 b 5 = k := ⟨_, rfl⟩
  obtain ⟨ps, hps⟩ : ∃ k, at1 b 9 = k := ⟨_, rfl⟩
  obtain ⟨nm, hnm⟩ : ∃ k, at1 b 10 = k := ⟨_, rfl⟩
  have hu := unrow5_yes h2
  rw [hkd, hsq, hep, hps, hnm] at hu
  have i1 : ((kd : Int) != 1) = true := bne_iff_ne.2 (by omega)
  have i2 : ((kd : Int) == 1) = false := beq_eq_false_iff_ne.2 (by omega)
  rw [← hqn]
  have HU := Lib.hid fun (W : World) (X : Option Addr) (d : Nat) (hW : Below w.heap.size w W) (h : SlV W W.heap.size X (ints [1, 4, 4, 1, 1])) => unrow_ok n 5 5 q A X c d b (b.drop 11) [1, 4, 4, 1, 1] [(kd : Int), (sq : Int), (ep : Int), (ps : Int), (nm : Int)] W hn rfl (by omega) hc hm hl hu rfl (by omega) hq (hA.next hW) h
  have TT := eig_new w (.int .i64 0) (.int .i64 0) (.int .i64 0) (.int .i64 0) (.int .i64 0) (.int .i64 0) (.int .i64 0) (.slice none 0 0) 28
  have B0 := bl w (.cells #[.int .i64 0, .int .i64 0, .int .i64 0, .int .i64 0, .int .i64 0, .int .i64 0, .int .i64 0, .slice none 0 0] 28)
  have lw : w.heap.size < (w.alloc (.cells #[.int .i64 0, .int .i64 0, .int .i64 0, .int .i64 0, .int .i64 0, .int .i64 0, .int .i64 0, .slice none 0 0] 28)).heap.size := by simp
  clear hn hA hc hm hl h2 hu hq hqn h0
  go_enter Try.func35, Try.ntmps35
  go_upto_region 1 with fail
  generalize w.alloc (.cells #[.int .i64 0, .int .i64 0, .int .i64 0, .int .i64 0, .int .i64 0, .int .i64 0, .int .i64 0, .slice none 0 0] 28) = w0 at *
  have ls : (w0.alloc (.cells #[.int .i64 1, .int .i64 4, .int .i64 4, .int .i64 1, .int .i64 1] 3)).heap.size = w0.heap.size + 1 := by simp
  go_upto_region 4 with (first
    | (go_at_call 64; (with_reducible refine (hsizes_c _).mono ?_); rintro e w1 ⟨rfl, rfl⟩)
    | (go_at_call 63; (with_reducible refine (HU.out _ _ _ (kal B0 _) (hsz_slv _)).mono ?_); rintro e w3 ⟨⟨g, c3, X3, d3, rfl, ⟨k1, k2⟩, ⟨l1, l2⟩, s3, ⟨k3, k4⟩, o3⟩, hb3⟩))
  have B3 := bt (kal B0 _) hb3
  have lb := hb3.size
  have T3 := TT.keep (bt (bl _ _) hb3) lw
  rw [ls] at o3 lb
  obtain ⟨b', off', he, hb', hcs⟩ := s3 (by simp [ints_length])
  cases he
  have e0 := hcs 0 (by simp [ints_length])
  have e1 := hcs 1 (by simp [ints_length])
  have e2 := hcs 2 (by simp [ints_length])
  have e3 := hcs 3 (by simp [ints_length])
  have e4 := hcs 4 (by simp [ints_length])
  rw [ints_get] at e0 e1 e2 e3 e4
  simp only [List.getElem_cons_zero, List.getElem_cons_succ, Nat.zero_add] at e0 e1 e2 e3 e4
  have lw3 : w.heap.size < w3.heap.size := by omega
  replace o3 := o3.less (show w.heap.size + 1 ≤ w0.heap.size + 1 by omega)
  clear TT hb3 hcs hb' s3 HU l1 l2
  refine wp_region_tail (S := fun W => (W.cell? ⟨g, 0, none⟩ = some (.int .i64 kd) ∧ W.cell? ⟨g, 1, none⟩ = some (.int .i64 sq) ∧ W.cell? ⟨g, 2, none⟩ = some (.int .i64 ep) ∧ W.cell? ⟨g, 3, none⟩ = some (.int .i64 ps) ∧ W.cell? ⟨g, 4, none⟩ = some (.int .i64 nm)) ∧ Below w3.heap.size w3 W) 16 rfl (by kernel_rfl) (by kernel_rfl) ⟨⟨e0, e1, e2, e3, e4⟩, below_dr (Below.refl _ _)⟩ (fun hS => ?_)
  simp only [List.take_succ_cons, List.take_zero]
  (refine wpAnyH_take (i := 0) (v := ?_) rfl (by kernel_rfl) (by kernel_rfl) (by kernel_rfl) (fun _ _ _ h => h) (Or.inl ⟨by rfl, ?_⟩) (by assumption) ?_; rotate_left; (focus (intro w hSw; (try dsimp only at hSw); go_split_ands; go_simp <;> with_reducible rfl)); simp only [List.getElem_toArray, List.getElem_cons_zero, Act.put, List.setIfInBounds_toArray, List.set_cons_zero, List.set_cons_succ])
  (refine wpAnyH_take (i := 1) (v := ?_) rfl (by kernel_rfl) (by kernel_rfl) (by kernel_rfl) (fun _ _ _ h => h) (Or.inl ⟨by rfl, ?_⟩) (by assumption) ?_; rotate_left; (focus (intro w hSw; (try dsimp only at hSw); go_split_ands; go_simp <;> with_reducible rfl)); simp only [List.getElem_toArray, List.getElem_cons_zero, List.getElem_cons_succ, Act.put, List.setIfInBounds_toArray, List.set_cons_zero, List.set_cons_succ])
  (refine wpAnyH_take (i := 2) (v := ?_) rfl (by kernel_rfl) (by kernel_rfl) (by kernel_rfl) (fun _ _ _ h => h) (Or.inl ⟨by rfl, ?_⟩) (by assumption) ?_; rotate_left; (focus (intro w hSw; (try dsimp only at hSw); go_split_ands; go_simp <;> with_reducible rfl)); simp only [List.getElem_toArray, List.getElem_cons_zero, List.getElem_cons_succ, Act.put, List.setIfInBounds_toArray, List.set_cons_zero, List.set_cons_succ])
  (refine wpAnyH_take (i := 3) (v := ?_) rfl (by kernel_rfl) (by kernel_rfl) (by kernel_rfl) (fun _ _ _ h => h) (Or.inl ⟨by rfl, ?_⟩) (by assumption) ?_; rotate_left; (focus (intro w hSw; (try dsimp only at hSw); go_split_ands; go_simp <;> with_reducible rfl)); simp only [List.getElem_toArray, List.getElem_cons_zero, List.getElem_cons_succ, Act.put, List.setIfInBounds_toArray, List.set_cons_zero, List.set_cons_succ])
  (refine wpAnyH_take (i := 4) (v := ?_) rfl (by kernel_rfl) (by kernel_rfl) (by kernel_rfl) (fun _ _ _ h => h) (Or.inl ⟨by rfl, ?_⟩) (by assumption) ?_; rotate_left; (focus (intro w hSw; (try dsimp only at hSw); go_split_ands; go_simp <;> with_reducible rfl)); simp only [List.getElem_toArray, List.getElem_cons_zero, List.getElem_cons_succ, Act.put, List.setIfInBounds_toArray, List.set_cons_zero, List.set_cons_succ])
  (refine wpAnyH_take (i := 5) (v := ?_) rfl (by kernel_rfl) (by kernel_rfl) (by kernel_rfl) (fun _ _ _ h => h) (Or.inl ⟨by rfl, ?_⟩) (by assumption) ?_; rotate_left; (focus (intro w hSw; (try dsimp only at hSw); go_split_ands; go_simp <;> with_reducible rfl)); simp only [List.getElem_toArray, List.getElem_cons_zero, List.getElem_cons_succ, Act.put, List.setIfInBounds_toArray, List.set_cons_zero, List.set_cons_succ])
  (refine wpAnyH_take (i := 6) (v := ?_) rfl (by kernel_rfl) (by kernel_rfl) (by kernel_rfl) (fun _ _ _ h => h) (Or.inl ⟨by rfl, ?_⟩) (by assumption) ?_; rotate_left; (focus (intro w hSw; (try dsimp only at hSw); go_split_ands; go_simp <;> with_reducible rfl)); simp only [List.getElem_toArray, List.getElem_cons_zero, List.getElem_cons_succ, Act.put, List.setIfInBounds_toArray, List.set_cons_zero, List.set_cons_succ])
  (refine wpAnyH_take (i := 7) (v := ?_) rfl (by kernel_rfl) (by kernel_rfl) (by kernel_rfl) (fun _ _ _ h => h) (Or.inl ⟨by rfl, ?_⟩) (by assumption) ?_; rotate_left; (focus (intro w hSw; (try dsimp only at hSw); go_split_ands; go_simp <;> with_reducible rfl)); simp only [List.getElem_toArray, List.getElem_cons_zero, List.getElem_cons_succ, Act.put, List.setIfInBounds_toArray, List.set_cons_zero, List.set_cons_succ])
  (refine wpAnyH_take (i := 8) (v := ?_) rfl (by kernel_rfl) (by kernel_rfl) (by kernel_rfl) (fun _ _ _ h => h) (Or.inl ⟨by rfl, ?_⟩) (by assumption) ?_; rotate_left; (focus (intro w hSw; (try dsimp only at hSw); go_split_ands; go_simp <;> with_reducible rfl)); simp only [List.getElem_toArray, List.getElem_cons_zero, List.getElem_cons_succ, Act.put, List.setIfInBounds_toArray, List.set_cons_zero, List.set_cons_succ])
  (refine wpAnyH_take (i := 9) (v := ?_) rfl (by kernel_rfl) (by kernel_rfl) (by kernel_rfl) (fun _ _ _ h => h) (Or.inl ⟨by rfl, ?_⟩) (by assumption) ?_; rotate_left; (focus (intro w hSw; (try dsimp only at hSw); go_split_ands; go_simp <;> with_reducible rfl)); simp only [List.getElem_toArray, List.getElem_cons_zero, List.getElem_cons_succ, Act.put, List.setIfInBounds_toArray, List.set_cons_zero, List.set_cons_succ])
  (refine wpAnyH_take (i := 10) (v := ?_) rfl (by kernel_rfl) (by kernel_rfl) (by kernel_rfl) (fun _ _ _ h => h) (Or.inl ⟨by rfl, ?_⟩) (by assumption) ?_; rotate_left; (focus (intro w hSw; (try dsimp only at hSw); go_split_ands; go_simp <;> with_reducible rfl)); simp only [List.getElem_toArray, List.getElem_cons_zero, List.getElem_cons_succ, Act.put, List.setIfInBounds_toArray, List.set_cons_zero, List.set_cons_succ])
  (refine wpAnyH_take (i := 11) (v := ?_) rfl (by kernel_rfl) (by kernel_rfl) (by kernel_rfl) (fun _ _ _ h => h) (Or.inl ⟨by rfl, ?_⟩) (by assumption) ?_; rotate_left; (focus (intro w hSw; (try dsimp only at hSw); go_split_ands; go_simp <;> with_reducible rfl)); simp only [List.getElem_toArray, List.getElem_cons_zero, List.getElem_cons_succ, Act.put, List.setIfInBounds_toArray, List.set_cons_zero, List.set_cons_succ])
  (refine wpAnyH_take (i := 12) (v := ?_) rfl (by kernel_rfl) (by kernel_rfl) (by kernel_rfl) (fun _ _ _ h => h) (Or.inl ⟨by rfl, ?_⟩) (by assumption) ?_; rotate_left; (focus (intro w hSw; (try dsimp only at hSw); go_split_ands; go_simp <;> with_reducible rfl)); simp only [List.getElem_toArray, List.getElem_cons_zero, List.getElem_cons_succ, Act.put, List.setIfInBounds_toArray, List.set_cons_zero, List.set_cons_succ])
  (refine wpAnyH_take (i := 13) (v := ?_) rfl (by kernel_rfl) (by kernel_rfl) (by kernel_rfl) (fun _ _ _ h => h) (Or.inl ⟨by rfl, ?_⟩) (by assumption) ?_; rotate_left; (focus (intro w hSw; (try dsimp only at hSw); go_split_ands; go_simp <;> with_reducible rfl)); simp only [List.getElem_toArray, List.getElem_cons_zero, List.getElem_cons_succ, Act.put, List.setIfInBounds_toArray, List.set_cons_zero, List.set_cons_succ])
  (refine wpAnyH_take (i := 14) (v := ?_) rfl (by kernel_rfl) (by kernel_rfl) (by kernel_rfl) (fun _ _ _ h => h) (Or.inl ⟨by rfl, ?_⟩) (by assumption) ?_; rotate_left; (focus (intro w hSw; (try dsimp only at hSw); go_split_ands; go_simp <;> with_reducible rfl)); simp only [List.getElem_toArray, List.getElem_cons_zero, List.getElem_cons_succ, Act.put, List.setIfInBounds_toArray, List.set_cons_zero, List.set_cons_succ])
  (refine wpAnyH_take (i := 15) (v := ?_) rfl (by kernel_rfl) (by kernel_rfl) (by kernel_rfl) (fun _ _ _ h => h) (Or.inl ⟨by rfl, ?_⟩) (by assumption) ?_; rotate_left; (focus (intro w hSw; (try dsimp only at hSw); go_split_ands; go_simp <;> with_reducible rfl)); simp only [List.getElem_toArray, List.getElem_cons_zero, List.getElem_cons_succ, Act.put, List.setIfInBounds_toArray, List.set_cons_zero, List.set_cons_succ])
  refine wpAnyH_done (by kernel_rfl) ?_ _
  obtain ⟨t0, t1, t2, t3, t4, t5, t6, t7, f0, f1, f2, f3, f4, f5, f6, f7⟩ := id T3
  simp only [tailQ]
  go_simp
  have T4 := (T3.all (.int .i64 kd) (.int .i64 sq) (.int .i64 ep) (.int .i64 ps) (.int .i64 nm) (.int .i64 0) (.int .i64 0) (.slice none 0 0)).keep (below_dr (Below.refl (w.heap.size + 1) _)) (Nat.lt_succ_self _)
  have o4 := (own_all o3 (Nat.lt_succ_self _) (.int .i64 kd) (.int .i64 sq) (.int .i64 ep) (.int .i64 ps) (.int .i64 nm) (.int .i64 0) (.int .i64 0) (.slice none 0 0)).drew
  have B4 := below_dr (below_all B3 (Nat.le_refl w.heap.size) (.int .i64 kd) (.int .i64 sq) (.int .i64 ep) (.int .i64 ps) (.int .i64 nm) (.int .i64 0) (.int .i64 0) (.slice none 0 0))
  have l4 : w.heap.size < (((((((((w3.setCell ⟨w.heap.size, 0, none⟩ (.int .i64 kd)).setCell ⟨w.heap.size, 1, none⟩ (.int .i64 sq)).setCell ⟨w.heap.size, 2, none⟩ (.int .i64 ep)).setCell ⟨w.heap.size, 3, none⟩ (.int .i64 ps)).setCell ⟨w.heap.size, 4, none⟩ (.int .i64 nm)).setCell ⟨w.heap.size, 5, none⟩ (.int .i64 0)).setCell ⟨w.heap.size, 6, none⟩ (.int .i64 0)).setCell ⟨w.heap.size, 7, none⟩ (.slice none 0 0)).drew).heap.size := by simpa using lw3
  clear t0 t1 t2 t3 t4 t5 t6 t7 f0 f1 f2 f3 f4 f5 f6 f7 T3 o3 B3 e0 e1 e2 e3 e4 lw3
  generalize ((((((((w3.setCell ⟨w.heap.size, 0, none⟩ (.int .i64 kd)).setCell ⟨w.heap.size, 1, none⟩ (.int .i64 sq)).setCell ⟨w.heap.size, 2, none⟩ (.int .i64 ep)).setCell ⟨w.heap.size, 3, none⟩ (.int .i64 ps)).setCell ⟨w.heap.size, 4, none⟩ (.int .i64 nm)).setCell ⟨w.heap.size, 5, none⟩ (.int .i64 0)).setCell ⟨w.heap.size, 6, none⟩ (.int .i64 0)).setCell ⟨w.heap.size, 7, none⟩ (.slice none 0 0)).drew = w4 at *
  obtain ⟨t0, t1, t2, t3, t4, t5, t6, t7, f0, f1, f2, f3, f4, f5, f6, f7⟩ := id T4
  have HV := Lib.hid (And.intro hkd (And.intro hsq (And.intro hep (And.intro hps hnm))))
  clear hkd hsq hep hps hnm
  go_wp2_with fail
  have k9 := T4.all (.int .i64 kd) (.int .i64 sq) (.int .i64 ep) (.int .i64 ps) (.int .i64 nm) (.int .i64 0) (.int .i64 0) (.slice none 0 0)
  exact bodyPost_ret (v := .tuple #[.agg #[.int .i64 kd, .int .i64 sq, .int .i64 ep, .int .i64 ps, .int .i64 nm, .int .i64 0, .int .i64 0, .slice none 0 0], .slice X3 q d3, .int .i64 0]) (by simp [results, Try.results35, go_sem, k9.c0, k9.c1, k9.c2, k9.c3, k9.c4, k9.c5, k9.c6, k9.c7]) rfl ⟨⟨X3, d3, by rw [HV.out.1, HV.out.2.1, HV.out.2.2.1, HV.out.2.2.2.1, HV.out.2.2.2.2]⟩, below_all B4 (Nat.le_refl _) _ _ _ _ _ _ _ _⟩
set_option maxRecDepth 100000 in
set_option maxHeartbeats 8000000 in
theorem parse_bad (A : Option Addr) (c n : Nat) (b : List UInt8) (w : World) (hn : b.length = n) (hA : Sl w w.heap.size A b) (hc : n ≤ c) (hm : c ≤ maxLen) (hl : n ≤ 4294967296) (h2 : ¬ b.length < 11) (h0 : at1 b 0 = 1) (h3 : n < 14 + at1 b 13) :
    Calls Try.prog 35 #[.slice A n c] w fun e w' => e = .returned (.tuple #[.agg #[.int .i64 0, .int .i64 0, .int .i64 0, .int .i64 0, .int .i64 0, .int .i64 0, .int .i64 0, .slice none 0 0], .slice none 0 0, .int .i64 4]) ∧ Below w.heap.size w w' := by
  obtain ⟨q, hq⟩ : ∃ q, (b.drop 11).length = q := ⟨_, rfl⟩
  have hqn : q = n - 11 := by rw [← hq, List.length_drop, hn]
  obtain ⟨kd, hkd⟩ : ∃ k, at1 b 0 = k := ⟨_, rfl⟩
  obtain ⟨sq, hsq⟩ : ∃ k, at4 b 1 = k := ⟨_, rfl⟩
  obtain ⟨ep, hep⟩ : ∃ k, at4 b 5 = k := ⟨_, rfl⟩
  obtain ⟨ps, hps⟩ : ∃ k, at1 b 9 = k := ⟨_, rfl⟩
  obtain ⟨nm, hnm⟩ : ∃ k, at1 b 10 = k := ⟨_, rfl⟩
  have hu := unrow5_yes h2
  rw [hkd, hsq, hep, hps, hnm] at hu
  have HI := Lib.hid (show ∀ (W : World) (X : Option Addr) (d base : Nat), Own W base 5 (.slice X q d) (b.drop 11) → q ≤ d → d ≤ maxLen → Calls Try.prog 65 #[.slice X q d] W fun e w' => e = .returned (.tuple #[.agg #[.int .i64 0, .int .i64 0, .slice none 0 0], .slice none 0 0, .int .i64 4]) ∧ Below W.heap.size W w' from fun W X d base h h5 h6 => by
    by_cases h7 : (b.drop 11).length < 2
    · exact pimg_short X d q (b.drop 11) W hq (own_sl h) h5 h6 (by omega) h7
    · exact pimg_no X d q (at1 b 13) (b.drop 11) W hq (own_sl h) h5 h6 (by omega) h7 (at1_drop b 11 2) (by omega))
  have HU := Lib.hid fun (W : World) (X : Option Addr) (d : Nat) (hW : Below w.heap.size w W) (h : SlV W W.heap.size X (ints [1, 4, 4, 1, 1])) => unrow_ok n 5 5 q A X c d b (b.drop 11) [1, 4, 4, 1, 1] [(kd : Int), (sq : Int), (ep : Int), (ps : Int), (nm : Int)] W hn rfl (by omega) hc hm hl hu rfl (by omega) hq (hA.next hW) h
  have TT := eig_new w (.int .i64 0) (.int .i64 0) (.int .i64 0) (.int .i64 0) (.int .i64 0) (.int .i64 0) (.int .i64 0) (.slice none 0 0) 28
  have B0 := bl w (.cells #[.int .i64 0, .int .i64 0, .int .i64 0, .int .i64 0, .int .i64 0, .int .i64 0, .int .i64 0, .slice none 0 0] 28)
  have lw : w.heap.size < (w.alloc (.cells #[.int .i64 0, .int .i64 0, .int .i64 0, .int .i64 0, .int .i64 0, .int .i64 0, .int .i64 0, .slice none 0 0] 28)).heap.size := by simp
  clear hn hA hc hm hl h2 hu hq hqn h3
  go_enter Try.func35, Try.ntmps35
  go_upto_region 1 with fail
  generalize w.alloc (.cells #[.int .i64 0, .int .i64 0, .int .i64 0, .int .i64 0, .int .i64 0, .int .i64 0, .int .i64 0, .slice none 0 0] 28) = w0 at *
  have ls : (w0.alloc (.cells #[.int .i64 1, .int .i64 4, .int .i64 4, .int .i64 1, .int .i64 1] 3)).heap.size = w0.heap.size + 1 := by simp
  go_upto_region 4 with (first
    | (go_at_call 64; (with_reducible refine (hsizes_c _).mono ?_); rintro e w1 ⟨rfl, rfl⟩)
    | (go_at_call 63; (with_reducible refine (HU.out _ _ _ (kal B0 _) (hsz_slv _)).mono ?_); rintro e w3 ⟨⟨g, c3, X3, d3, rfl, ⟨k1, k2⟩, ⟨l1, l2⟩, s3, ⟨k3, k4⟩, o3⟩, hb3⟩))
  have B3 := bt (kal B0 _) hb3
  have lb := hb3.size
  have T3 := TT.keep (bt (bl _ _) hb3) lw
  rw [ls] at o3 lb
  obtain ⟨b', off', he, hb', hcs⟩ := s3 (by simp [ints_length])
  cases he
  have e0 := hcs 0 (by simp [ints_length])
  have e1 := hcs 1 (by simp [ints_length])
  have e2 := hcs 2 (by simp [ints_length])
  have e3 := hcs 3 (by simp [ints_length])
  have e4 := hcs 4 (by simp [ints_length])
  rw [ints_get] at e0 e1 e2 e3 e4
  simp only [List.getElem_cons_zero, List.getElem_cons_succ, Nat.zero_add] at e0 e1 e2 e3 e4
  have lw3 : w.heap.size < w3.heap.size := by omega
  replace o3 := o3.less (show w.heap.size + 1 ≤ w0.heap.size + 1 by omega)
  clear TT hb3 hcs hb' s3 HU l1 l2
  refine wp_region_tail (S := fun W => (W.cell? ⟨g, 0, none⟩ = some (.int .i64 kd) ∧ W.cell? ⟨g, 1, none⟩ = some (.int .i64 sq) ∧ W.cell? ⟨g, 2, none⟩ = some (.int .i64 ep) ∧ W.cell? ⟨g, 3, none⟩ = some (.int .i64 ps) ∧ W.cell? ⟨g, 4, none⟩ = some (.int .i64 nm)) ∧ Below w3.heap.size w3 W) 16 rfl (by kernel_rfl) (by kernel_rfl) ⟨⟨e0, e1, e2, e3, e4⟩, below_dr (Below.refl _ _)⟩ (fun hS => ?_)
  simp only [List.take_succ_cons, List.take_zero]
  (refine wpAnyH_take (i := 0) (v := ?_) rfl (by kernel_rfl) (by kernel_rfl) (by kernel_rfl) (fun _ _ _ h => h) (Or.inl ⟨by rfl, ?_⟩) (by assumption) ?_; rotate_left; (focus (intro w hSw; (try dsimp only at hSw); go_split_ands; go_simp <;> with_reducible rfl)); simp only [List.getElem_toArray, List.getElem_cons_zero, Act.put, List.setIfInBounds_toArray, List.set_cons_zero, List.set_cons_succ])
  (refine wpAnyH_take (i := 1) (v := ?_) rfl (by kernel_rfl) (by kernel_rfl) (by kernel_rfl) (fun _ _ _ h => h) (Or.inl ⟨by rfl, ?_⟩) (by assumption) ?_; rotate_left; (focus (intro w hSw; (try dsimp only at hSw); go_split_ands; go_simp <;> with_reducible rfl)); simp only [List.getElem_toArray, List.getElem_cons_zero, List.getElem_cons_succ, Act.put, List.setIfInBounds_toArray, List.set_cons_zero, List.set_cons_succ])
  (refine wpAnyH_take (i := 2) (v := ?_) rfl (by kernel_rfl) (by kernel_rfl) (by kernel_rfl) (fun _ _ _ h => h) (Or.inl ⟨by rfl, ?_⟩) (by assumption) ?_; rotate_left; (focus (intro w hSw; (try dsimp only at hSw); go_split_ands; go_simp <;> with_reducible rfl)); simp only [List.getElem_toArray, List.getElem_cons_zero, List.getElem_cons_succ, Act.put, List.setIfInBounds_toArray, List.set_cons_zero, List.set_cons_succ])
  (refine wpAnyH_take (i := 3) (v := ?_) rfl (by kernel_rfl) (by kernel_rfl) (by kernel_rfl) (fun _ _ _ h => h) (Or.inl ⟨by rfl, ?_⟩) (by assumption) ?_; rotate_left; (focus (intro w hSw; (try dsimp only at hSw); go_split_ands; go_simp <;> with_reducible rfl)); simp only [List.getElem_toArray, List.getElem_cons_zero, List.getElem_cons_succ, Act.put, List.setIfInBounds_toArray, List.set_cons_zero, List.set_cons_succ])
  (refine wpAnyH_take (i := 4) (v := ?_) rfl (by kernel_rfl) (by kernel_rfl) (by kernel_rfl) (fun _ _ _ h => h) (Or.inl ⟨by rfl, ?_⟩) (by assumption) ?_; rotate_left; (focus (intro w hSw; (try dsimp only at hSw); go_split_ands; go_simp <;> with_reducible rfl)); simp only [List.getElem_toArray, List.getElem_cons_zero, List.getElem_cons_succ, Act.put, List.setIfInBounds_toArray, List.set_cons_zero, List.set_cons_succ])
  (refine wpAnyH_take (i := 5) (v := ?_) rfl (by kernel_rfl) (by kernel_rfl) (by kernel_rfl) (fun _ _ _ h => h) (Or.inl ⟨by rfl, ?_⟩) (by assumption) ?_; rotate_left; (focus (intro w hSw; (try dsimp only at hSw); go_split_ands; go_simp <;> with_reducible rfl)); simp only [List.getElem_toArray, List.getElem_cons_zero, List.getElem_cons_succ, Act.put, List.setIfInBounds_toArray, List.set_cons_zero, List.set_cons_succ])
  (refine wpAnyH_take (i := 6) (v := ?_) rfl (by kernel_rfl) (by kernel_rfl) (by kernel_rfl) (fun _ _ _ h => h) (Or.inl ⟨by rfl, ?_⟩) (by assumption) ?_; rotate_left; (focus (intro w hSw; (try dsimp only at hSw); go_split_ands; go_simp <;> with_reducible rfl)); simp only [List.getElem_toArray, List.getElem_cons_zero, List.getElem_cons_succ, Act.put, List.setIfInBounds_toArray, List.set_cons_zero, List.set_cons_succ])
  (refine wpAnyH_take (i := 7) (v := ?_) rfl (by kernel_rfl) (by kernel_rfl) (by kernel_rfl) (fun _ _ _ h => h) (Or.inl ⟨by rfl, ?_⟩) (by assumption) ?_; rotate_left; (focus (intro w hSw; (try dsimp only at hSw); go_split_ands; go_simp <;> with_reducible rfl)); simp only [List.getElem_toArray, List.getElem_cons_zero, List.getElem_cons_succ, Act.put, List.setIfInBounds_toArray, List.set_cons_zero, List.set_cons_succ])
  (refine wpAnyH_take (i := 8) (v := ?_) rfl (by kernel_rfl) (by kernel_rfl) (by kernel_rfl) (fun _ _ _ h => h) (Or.inl ⟨by rfl, ?_⟩) (by assumption) ?_; rotate_left; (focus (intro w hSw; (try dsimp only at hSw); go_split_ands; go_simp <;> with_reducible rfl)); simp only [List.getElem_toArray, List.getElem_cons_zero, List.getElem_cons_succ, Act.put, List.setIfInBounds_toArray, List.set_cons_zero, List.set_cons_succ])
  (refine wpAnyH_take (i := 9) (v := ?_) rfl (by kernel_rfl) (by kernel_rfl) (by kernel_rfl) (fun _ _ _ h => h) (Or.inl ⟨by rfl, ?_⟩) (by assumption) ?_; rotate_left; (focus (intro w hSw; (try dsimp only at hSw); go_split_ands; go_simp <;> with_reducible rfl)); simp only [List.getElem_toArray, List.getElem_cons_zero, List.getElem_cons_succ, Act.put, List.setIfInBounds_toArray, List.set_cons_zero, List.set_cons_succ])
  (refine wpAnyH_take (i := 10) (v := ?_) rfl (by kernel_rfl) (by kernel_rfl) (by kernel_rfl) (fun _ _ _ h => h) (Or.inl ⟨by rfl, ?_⟩) (by assumption) ?_; rotate_left; (focus (intro w hSw; (try dsimp only at hSw); go_split_ands; go_simp <;> with_reducible rfl)); simp only [List.getElem_toArray, List.getElem_cons_zero, List.getElem_cons_succ, Act.put, List.setIfInBounds_toArray, List.set_cons_zero, List.set_cons_succ])
  (refine wpAnyH_take (i := 11) (v := ?_) rfl (by kernel_rfl) (by kernel_rfl) (by kernel_rfl) (fun _ _ _ h => h) (Or.inl ⟨by rfl, ?_⟩) (by assumption) ?_; rotate_left; (focus (intro w hSw; (try dsimp only at hSw); go_split_ands; go_simp <;> with_reducible rfl)); simp only [List.getElem_toArray, List.getElem_cons_zero, List.getElem_cons_succ, Act.put, List.setIfInBounds_toArray, List.set_cons_zero, List.set_cons_succ])
  (refine wpAnyH_take (i := 12) (v := ?_) rfl (by kernel_rfl) (by kernel_rfl) (by kernel_rfl) (fun _ _ _ h => h) (Or.inl ⟨by rfl, ?_⟩) (by assumption) ?_; rotate_left; (focus (intro w hSw; (try dsimp only at hSw); go_split_ands; go_simp <;> with_reducible rfl)); simp only [List.getElem_toArray, List.getElem_cons_zero, List.getElem_cons_succ, Act.put, List.setIfInBounds_toArray, List.set_cons_zero, List.set_cons_succ])
  (refine wpAnyH_take (i := 13) (v := ?_) rfl (by kernel_rfl) (by kernel_rfl) (by kernel_rfl) (fun _ _ _ h => h) (Or.inl ⟨by rfl, ?_⟩) (by assumption) ?_; rotate_left; (focus (intro w hSw; (try dsimp only at hSw); go_split_ands; go_simp <;> with_reducible rfl)); simp only [List.getElem_toArray, List.getElem_cons_zero, List.getElem_cons_succ, Act.put, List.setIfInBounds_toArray, List.set_cons_zero, List.set_cons_succ])
  (refine wpAnyH_take (i := 14) (v := ?_) rfl (by kernel_rfl) (by kernel_rfl) (by kernel_rfl) (fun _ _ _ h => h) (Or.inl ⟨by rfl, ?_⟩) (by assumption) ?_; rotate_left; (focus (intro w hSw; (try dsimp only at hSw); go_split_ands; go_simp <;> with_reducible rfl)); simp only [List.getElem_toArray, List.getElem_cons_zero, List.getElem_cons_succ, Act.put, List.setIfInBounds_toArray, List.set_cons_zero, List.set_cons_succ])
  (refine wpAnyH_take (i := 15) (v := ?_) rfl (by kernel_rfl) (by kernel_rfl) (by kernel_rfl) (fun _ _ _ h => h) (Or.inl ⟨by rfl, ?_⟩) (by assumption) ?_; rotate_left; (focus (intro w hSw; (try dsimp only at hSw); go_split_ands; go_simp <;> with_reducible rfl)); simp only [List.getElem_toArray, List.getElem_cons_zero, List.getElem_cons_succ, Act.put, List.setIfInBounds_toArray, List.set_cons_zero, List.set_cons_succ])
  refine wpAnyH_done (by kernel_rfl) ?_ _
  obtain ⟨t0, t1, t2, t3, t4, t5, t6, t7, f0, f1, f2, f3, f4, f5, f6, f7⟩ := id T3
  simp only [tailQ]
  go_simp
  have T4 := (T3.all (.int .i64 kd) (.int .i64 sq) (.int .i64 ep) (.int .i64 ps) (.int .i64 nm) (.int .i64 0) (.int .i64 0) (.slice none 0 0)).keep (below_dr (Below.refl (w.heap.size + 1) _)) (Nat.lt_succ_self _)
  have o4 := (own_all o3 (Nat.lt_succ_self _) (.int .i64 kd) (.int .i64 sq) (.int .i64 ep) (.int .i64 ps) (.int .i64 nm) (.int .i64 0) (.int .i64 0) (.slice none 0 0)).drew
  have B4 := below_dr (below_all B3 (Nat.le_refl w.heap.size) (.int .i64 kd) (.int .i64 sq) (.int .i64 ep) (.int .i64 ps) (.int .i64 nm) (.int .i64 0) (.int .i64 0) (.slice none 0 0))
  have l4 : w.heap.size < (((((((((w3.setCell ⟨w.heap.size, 0, none⟩ (.int .i64 kd)).setCell ⟨w.heap.size, 1, none⟩ (.int .i64 sq)).setCell ⟨w.heap.size, 2, none⟩ (.int .i64 ep)).setCell ⟨w.heap.size, 3, none⟩ (.int .i64 ps)).setCell ⟨w.heap.size, 4, none⟩ (.int .i64 nm)).setCell ⟨w.heap.size, 5, none⟩ (.int .i64 0)).setCell ⟨w.heap.size, 6, none⟩ (.int .i64 0)).setCell ⟨w.heap.size, 7, none⟩ (.slice none 0 0)).drew).heap.size := by simpa using lw3
  clear t0 t1 t2 t3 t4 t5 t6 t7 f0 f1 f2 f3 f4 f5 f6 f7 T3 o3 B3 e0 e1 e2 e3 e4 lw3
  generalize ((((((((w3.setCell ⟨w.heap.size, 0, none⟩ (.int .i64 kd)).setCell ⟨w.heap.size, 1, none⟩ (.int .i64 sq)).setCell ⟨w.heap.size, 2, none⟩ (.int .i64 ep)).setCell ⟨w.heap.size, 3, none⟩ (.int .i64 ps)).setCell ⟨w.heap.size, 4, none⟩ (.int .i64 nm)).setCell ⟨w.heap.size, 5, none⟩ (.int .i64 0)).setCell ⟨w.heap.size, 6, none⟩ (.int .i64 0)).setCell ⟨w.heap.size, 7, none⟩ (.slice none 0 0)).drew = w4 at *
  obtain ⟨t0, t1, t2, t3, t4, t5, t6, t7, f0, f1, f2, f3, f4, f5, f6, f7⟩ := id T4
  have HV := Lib.hid (And.intro hkd (And.intro hsq (And.intro hep (And.intro hps hnm))))
  have hk1 : kd = 1 := hkd.symm.trans h0
  have i1 : ((kd : Int) != 1) = false := by rw [hk1]; rfl
  have i2 : ((kd : Int) == 1) = true := by rw [hk1]; rfl
  clear hkd hsq hep hps hnm hk1 h0
  go_upto_region 7 with fail
  go_wp2_with (go_at_call 65; (with_reducible refine (HI.out _ _ _ _ o4 k3 k4).mono ?_); rintro e w6 ⟨rfl, hb6⟩; (have T6 := T4.keep hb6 l4); obtain ⟨u0, u1, u2, u3, u4, u5, u6, u7, y0, y1, y2, y3, y4, y5, y6, y7⟩ := id T6)
  have k9 := (((T6.set5 (.int .i64 0)).set6 (.int .i64 0)).set7 (.slice none 0 0)).all (.int .i64 0) (.int .i64 0) (.int .i64 0) (.int .i64 0) (.int .i64 0) (.int .i64 0) (.int .i64 0) (.slice none 0 0)
  exact bodyPost_ret (v := .tuple #[.agg #[.int .i64 0, .int .i64 0, .int .i64 0, .int .i64 0, .int .i64 0, .int .i64 0, .int .i64 0, .slice none 0 0], .slice none 0 0, .int .i64 4]) (by simp [results, Try.results35, go_sem, k9.c0, k9.c1, k9.c2, k9.c3, k9.c4, k9.c5, k9.c6, k9.c7]) rfl ⟨rfl, below_all ((((bt B4 hb6).setCell (p := ⟨w.heap.size, 5, none⟩) (Nat.le_refl w.heap.size) _).setCell (p := ⟨w.heap.size, 6, none⟩) (Nat.le_refl w.heap.size) _).setCell (p := ⟨w.heap.size, 7, none⟩) (Nat.le_refl w.heap.size) _) (Nat.le_refl _) _ _ _ _ _ _ _ _⟩
set_option maxRecDepth 100000 in
set_option maxHeartbeats 8000000 in
theorem parse_ok1 (A : Option Addr) (c n m k : Nat) (b : List UInt8) (w : World) (hn : b.length = n) (hA : Sl w w.heap.size A b) (hc : n ≤ c) (hm : c ≤ maxLen) (hl : n ≤ 4294967296) (h2 : ¬ b.length < 11) (h0 : at1 b 0 = 1) (hm0 : at1 b 13 = m) (h3 : n = 14 + m + k) :
    Calls Try.prog 35 #[.slice A n c] w fun e w' => (∃ X x Y y, e = .returned (.tuple #[.agg #[.int .i64 (at1 b 0), .int .i64 (at4 b 1), .int .i64 (at4 b 5), .int .i64 (at1 b 9), .int .i64 (at1 b 10), .int .i64 (at1 b 11), .int .i64 (whI (at1 b 12)), .slice X m x], .slice Y k y, .int .i64 0]) ∧ Own w' w.heap.size 5 (.slice X m x) ((b.drop 14).take m)) ∧ Below w.heap.size w w' := by
  obtain ⟨q, hq⟩ : ∃ q, (b.drop 11).length = q := ⟨_, rfl⟩
  have hqn : q = n - 11 := by rw [← hq, List.length_drop, hn]
  obtain ⟨kd, hkd⟩ : ∃ k, at1 b 0 = k := ⟨_, rfl⟩
  obtain ⟨sq, hsq⟩ : ∃ k, at4 b 1 = k := ⟨_, rfl⟩
  obtain ⟨ep, hep⟩ : ∃ k, at4 b 5 = k := ⟨_, rfl⟩
  obtain ⟨ps, hps⟩ : ∃ k, at1 b 9 = k := ⟨_, rfl⟩
  obtain ⟨nm, hnm⟩ : ∃ k, at1 b 10 = k := ⟨_, rfl⟩
  have hu := unrow5_yes h2
  rw [hkd, hsq, hep, hps, hnm] at hu
  obtain ⟨yz, hyz⟩ : ∃ k : Int, (at1 b 11 : Nat) = k := ⟨_, rfl⟩
  obtain ⟨wh, hwh⟩ : ∃ k, whI (at1 b 12) = k := ⟨_, rfl⟩
  rw [hyz, hwh]
  have HI := Lib.hid (show ∀ (W : World) (X : Option Addr) (d base : Nat), Own W base 5 (.slice X q d) (b.drop 11) → q ≤ d → d ≤ maxLen → Calls Try.prog 65 #[.slice X q d] W fun e w' => (∃ X x Y y, e = .returned (.tuple #[.agg #[.int .i64 yz, .int .i64 wh, .slice X m x], .slice Y k y, .int .i64 0]) ∧ Own w' W.heap.size 5 (.slice X m x) ((b.drop 14).take m)) ∧ Below W.heap.size W w' from fun W X d base h h5 h6 => by
    have h9 := pimg_yes X d q m k (b.drop 11) W hq (own_sl h) h5 h6 (by omega) (by omega) (by rw [at1_drop]; exact hm0) (by omega)
    rw [at1_drop, at1_drop, List.drop_drop, hyz, hwh] at h9
    exact h9)
  have HU := Lib.hid fun (W : World) (X : Option Addr) (d : Nat) (hW : Below w.heap.size w W) (h : SlV W W.heap.size X (ints [1, 4, 4, 1, 1])) => unrow_ok n 5 5 q A X c d b (b.drop 11) [1, 4, 4, 1, 1] [(kd : Int), (sq : Int), (ep : Int), (ps : Int), (nm : Int)] W hn rfl (by omega) hc hm hl hu rfl (by omega) hq (hA.next hW) h
  have TT := eig_new w (.int .i64 0) (.int .i64 0) (.int .i64 0) (.int .i64 0) (.int .i64 0) (.int .i64 0) (.int .i64 0) (.slice none 0 0) 28
  have B0 := bl w (.cells #[.int .i64 0, .int .i64 0, .int .i64 0, .int .i64 0, .int .i64 0, .int .i64 0, .int .i64 0, .slice none 0 0] 28)
  have lw : w.heap.size < (w.alloc (.cells #[.int .i64 0, .int .i64 0, .int .i64 0, .int .i64 0, .int .i64 0, .int .i64 0, .int .i64 0, .slice none 0 0] 28)).heap.size := by simp
  clear hn hA hc hm hl h2 hu hq hqn h3 hm0 hyz hwh
  go_enter Try.func35, Try.ntmps35
  go_upto_region 1 with fail
  generalize w.alloc (.cells #[.int .i64 0, .int .i64 0, .int .i64 0, .int .i64 0, .int .i64 0, .int .i64 0, .int .i64 0, .slice none 0 0] 28) = w0 at *
  have ls : (w0.alloc (.cells #[.int .i64 1, .int .i64 4, .int .i64 4, .int .i64 1, .int .i64 1] 3)).heap.size = w0.heap.size + 1 := by simp
  go_upto_region 4 with (first
    | (go_at_call 64; (with_reducible refine (hsizes_c _).mono ?_); rintro e w1 ⟨rfl, rfl⟩)
    | (go_at_call 63; (with_reducible refine (HU.out _ _ _ (kal B0 _) (hsz_slv _)).mono ?_); rintro e w3 ⟨⟨g, c3, X3, d3, rfl, ⟨k1, k2⟩, ⟨l1, l2⟩, s3, ⟨k3, k4⟩, o3⟩, hb3⟩))
  have B3 := bt (kal B0 _) hb3
  have lb := hb3.size
  have T3 := TT.keep (bt (bl _ _) hb3) lw
  rw [ls] at o3 lb
  obtain ⟨b', off', he, hb', hcs⟩ := s3 (by simp [ints_length])
  cases he
  have e0 := hcs 0 (by simp [ints_length])
  have e1 := hcs 1 (by simp [ints_length])
  have e2 := hcs 2 (by simp [ints_length])
  have e3 := hcs 3 (by simp [ints_length])
  have e4 := hcs 4 (by simp [ints_length])
  rw [ints_get] at e0 e1 e2 e3 e4
  simp only [List.getElem_cons_zero, List.getElem_cons_succ, Nat.zero_add] at e0 e1 e2 e3 e4
  have lw3 : w.heap.size < w3.heap.size := by omega
  replace o3 := o3.less (show w.heap.size + 1 ≤ w0.heap.size + 1 by omega)
  clear TT hb3 hcs hb' s3 HU l1 l2
  refine wp_region_tail (S := fun W => (W.cell? ⟨g, 0, none⟩ = some (.int .i64 kd) ∧ W.cell? ⟨g, 1, none⟩ = some (.int .i64 sq) ∧ W.cell? ⟨g, 2, none⟩ = some (.int .i64 ep) ∧ W.cell? ⟨g, 3, none⟩ = some (.int .i64 ps) ∧ W.cell? ⟨g, 4, none⟩ = some (.int .i64 nm)) ∧ Below w3.heap.size w3 W) 16 rfl (by kernel_rfl) (by kernel_rfl) ⟨⟨e0, e1, e2, e3, e4⟩, below_dr (Below.refl _ _)⟩ (fun hS => ?_)
  simp only [List.take_succ_cons, List.take_zero]
  (refine wpAnyH_take (i := 0) (v := ?_) rfl (by kernel_rfl) (by kernel_rfl) (by kernel_rfl) (fun _ _ _ h => h) (Or.inl ⟨by rfl, ?_⟩) (by assumption) ?_; rotate_left; (focus (intro w hSw; (try dsimp only at hSw); go_split_ands; go_simp <;> with_reducible rfl)); simp only [List.getElem_toArray, List.getElem_cons_zero, Act.put, List.setIfInBounds_toArray, List.set_cons_zero, List.set_cons_succ])
  (refine wpAnyH_take (i := 1) (v := ?_) rfl (by kernel_rfl) (by kernel_rfl) (by kernel_rfl) (fun _ _ _ h => h) (Or.inl ⟨by rfl, ?_⟩) (by assumption) ?_; rotate_left; (focus (intro w hSw; (try dsimp only at hSw); go_split_ands; go_simp <;> with_reducible rfl)); simp only [List.getElem_toArray, List.getElem_cons_zero, List.getElem_cons_succ, Act.put, List.setIfInBounds_toArray, List.set_cons_zero, List.set_cons_succ])
  (refine wpAnyH_take (i := 2) (v := ?_) rfl (by kernel_rfl) (by kernel_rfl) (by kernel_rfl) (fun _ _ _ h => h) (Or.inl ⟨by rfl, ?_⟩) (by assumption) ?_; rotate_left; (focus (intro w hSw; (try dsimp only at hSw); go_split_ands; go_simp <;> with_reducible rfl)); simp only [List.getElem_toArray, List.getElem_cons_zero, List.getElem_cons_succ, Act.put, List.setIfInBounds_toArray, List.set_cons_zero, List.set_cons_succ])
  (refine wpAnyH_take (i := 3) (v := ?_) rfl (by kernel_rfl) (by kernel_rfl) (by kernel_rfl) (fun _ _ _ h => h) (Or.inl ⟨by rfl, ?_⟩) (by assumption) ?_; rotate_left; (focus (intro w hSw; (try dsimp only at hSw); go_split_ands; go_simp <;> with_reducible rfl)); simp only [List.getElem_toArray, List.getElem_cons_zero, List.getElem_cons_succ, Act.put, List.setIfInBounds_toArray, List.set_cons_zero, List.set_cons_succ])
  (refine wpAnyH_take (i := 4) (v := ?_) rfl (by kernel_rfl) (by kernel_rfl) (by kernel_rfl) (fun _ _ _ h => h) (Or.inl ⟨by rfl, ?_⟩) (by assumption) ?_; rotate_left; (focus (intro w hSw; (try dsimp only at hSw); go_split_ands; go_simp <;> with_reducible rfl)); simp only [List.getElem_toArray, List.getElem_cons_zero, List.getElem_cons_succ, Act.put, List.setIfInBounds_toArray, List.set_cons_zero, List.set_cons_succ])
  (refine wpAnyH_take (i := 5) (v := ?_) rfl (by kernel_rfl) (by kernel_rfl) (by kernel_rfl) (fun _ _ _ h => h) (Or.inl ⟨by rfl, ?_⟩) (by assumption) ?_; rotate_left; (focus (intro w hSw; (try dsimp only at hSw); go_split_ands; go_simp <;> with_reducible rfl)); simp only [List.getElem_toArray, List.getElem_cons_zero, List.getElem_cons_succ, Act.put, List.setIfInBounds_toArray, List.set_cons_zero, List.set_cons_succ])
  (refine wpAnyH_take (i := 6) (v := ?_) rfl (by kernel_rfl) (by kernel_rfl) (by kernel_rfl) (fun _ _ _ h => h) (Or.inl ⟨by rfl, ?_⟩) (by assumption) ?_; rotate_left; (focus (intro w hSw; (try dsimp only at hSw); go_split_ands; go_simp <;> with_reducible rfl)); simp only [List.getElem_toArray, List.getElem_cons_zero, List.getElem_cons_succ, Act.put, List.setIfInBounds_toArray, List.set_cons_zero, List.set_cons_succ])
  (refine wpAnyH_take (i := 7) (v := ?_) rfl (by kernel_rfl) (by kernel_rfl) (by kernel_rfl) (fun _ _ _ h => h) (Or.inl ⟨by rfl, ?_⟩) (by assumption) ?_; rotate_left; (focus (intro w hSw; (try dsimp only at hSw); go_split_ands; go_simp <;> with_reducible rfl)); simp only [List.getElem_toArray, List.getElem_cons_zero, List.getElem_cons_succ, Act.put, List.setIfInBounds_toArray, List.set_cons_zero, List.set_cons_succ])
  (refine wpAnyH_take (i := 8) (v := ?_) rfl (by kernel_rfl) (by kernel_rfl) (by kernel_rfl) (fun _ _ _ h => h) (Or.inl ⟨by rfl, ?_⟩) (by assumption) ?_; rotate_left; (focus (intro w hSw; (try dsimp only at hSw); go_split_ands; go_simp <;> with_reducible rfl)); simp only [List.getElem_toArray, List.getElem_cons_zero, List.getElem_cons_succ, Act.put, List.setIfInBounds_toArray, List.set_cons_zero, List.set_cons_succ])
  (refine wpAnyH_take (i := 9) (v := ?_) rfl (by kernel_rfl) (by kernel_rfl) (by kernel_rfl) (fun _ _ _ h => h) (Or.inl ⟨by rfl, ?_⟩) (by assumption) ?_; rotate_left; (focus (intro w hSw; (try dsimp only at hSw); go_split_ands; go_simp <;> with_reducible rfl)); simp only [List.getElem_toArray, List.getElem_cons_zero, List.getElem_cons_succ, Act.put, List.setIfInBounds_toArray, List.set_cons_zero, List.set_cons_succ])
  (refine wpAnyH_take (i := 10) (v := ?_) rfl (by kernel_rfl) (by kernel_rfl) (by kernel_rfl) (fun _ _ _ h => h) (Or.inl ⟨by rfl, ?_⟩) (by assumption) ?_; rotate_left; (focus (intro w hSw; (try dsimp only at hSw); go_split_ands; go_simp <;> with_reducible rfl)); simp only [List.getElem_toArray, List.getElem_cons_zero, List.getElem_cons_succ, Act.put, List.setIfInBounds_toArray, List.set_cons_zero, List.set_cons_succ])
  (refine wpAnyH_take (i := 11) (v := ?_) rfl (by kernel_rfl) (by kernel_rfl) (by kernel_rfl) (fun _ _ _ h => h) (Or.inl ⟨by rfl, ?_⟩) (by assumption) ?_; rotate_left; (focus (intro w hSw; (try dsimp only at hSw); go_split_ands; go_simp <;> with_reducible rfl)); simp only [List.getElem_toArray, List.getElem_cons_zero, List.getElem_cons_succ, Act.put, List.setIfInBounds_toArray, List.set_cons_zero, List.set_cons_succ])
  (refine wpAnyH_take (i := 12) (v := ?_) rfl (by kernel_rfl) (by kernel_rfl) (by kernel_rfl) (fun _ _ _ h => h) (Or.inl ⟨by rfl, ?_⟩) (by assumption) ?_; rotate_left; (focus (intro w hSw; (try dsimp only at hSw); go_split_ands; go_simp <;> with_reducible rfl)); simp only [List.getElem_toArray, List.getElem_cons_zero, List.getElem_cons_succ, Act.put, List.setIfInBounds_toArray, List.set_cons_zero, List.set_cons_succ])
  (refine wpAnyH_take (i := 13) (v := ?_) rfl (by kernel_rfl) (by kernel_rfl) (by kernel_rfl) (fun _ _ _ h => h) (Or.inl ⟨by rfl, ?_⟩) (by assumption) ?_; rotate_left; (focus (intro w hSw; (try dsimp only at hSw); go_split_ands; go_simp <;> with_reducible rfl)); simp only [List.getElem_toArray, List.getElem_cons_zero, List.getElem_cons_succ, Act.put, List.setIfInBounds_toArray, List.set_cons_zero, List.set_cons_succ])
  (refine wpAnyH_take (i := 14) (v := ?_) rfl (by kernel_rfl) (by kernel_rfl) (by kernel_rfl) (fun _ _ _ h => h) (Or.inl ⟨by rfl, ?_⟩) (by assumption) ?_; rotate_left; (focus (intro w hSw; (try dsimp only at hSw); go_split_ands; go_simp <;> with_reducible rfl)); simp only [List.getElem_toArray, List.getElem_cons_zero, List.getElem_cons_succ, Act.put, List.setIfInBounds_toArray, List.set_cons_zero, List.set_cons_succ])
  (refine wpAnyH_take (i := 15) (v := ?_) rfl (by kernel_rfl) (by kernel_rfl) (by kernel_rfl) (fun _ _ _ h => h) (Or.inl ⟨by rfl, ?_⟩) (by assumption) ?_; rotate_left; (focus (intro w hSw; (try dsimp only at hSw); go_split_ands; go_simp <;> with_reducible rfl)); simp only [List.getElem_toArray, List.getElem_cons_zero, List.getElem_cons_succ, Act.put, List.setIfInBounds_toArray, List.set_cons_zero, List.set_cons_succ])
  refine wpAnyH_done (by kernel_rfl) ?_ _
  obtain ⟨t0, t1, t2, t3, t4, t5, t6, t7, f0, f1, f2, f3, f4, f5, f6, f7⟩ := id T3
  simp only [tailQ]
  go_simp
  have T4 := (T3.all (.int .i64 kd) (.int .i64 sq) (.int .i64 ep) (.int .i64 ps) (.int .i64 nm) (.int .i64 0) (.int .i64 0) (.slice none 0 0)).keep (below_dr (Below.refl (w.heap.size + 1) _)) (Nat.lt_succ_self _)
  have o4 := (own_all o3 (Nat.lt_succ_self _) (.int .i64 kd) (.int .i64 sq) (.int .i64 ep) (.int .i64 ps) (.int .i64 nm) (.int .i64 0) (.int .i64 0) (.slice none 0 0)).drew
  have B4 := below_dr (below_all B3 (Nat.le_refl w.heap.size) (.int .i64 kd) (.int .i64 sq) (.int .i64 ep) (.int .i64 ps) (.int .i64 nm) (.int .i64 0) (.int .i64 0) (.slice none 0 0))
  have l4 : w.heap.size < (((((((((w3.setCell ⟨w.heap.size, 0, none⟩ (.int .i64 kd)).setCell ⟨w.heap.size, 1, none⟩ (.int .i64 sq)).setCell ⟨w.heap.size, 2, none⟩ (.int .i64 ep)).setCell ⟨w.heap.size, 3, none⟩ (.int .i64 ps)).setCell ⟨w.heap.size, 4, none⟩ (.int .i64 nm)).setCell ⟨w.heap.size, 5, none⟩ (.int .i64 0)).setCell ⟨w.heap.size, 6, none⟩ (.int .i64 0)).setCell ⟨w.heap.size, 7, none⟩ (.slice none 0 0)).drew).heap.size := by simpa using lw3
  clear t0 t1 t2 t3 t4 t5 t6 t7 f0 f1 f2 f3 f4 f5 f6 f7 T3 o3 B3 e0 e1 e2 e3 e4 lw3
  generalize ((((((((w3.setCell ⟨w.heap.size, 0, none⟩ (.int .i64 kd)).setCell ⟨w.heap.size, 1, none⟩ (.int .i64 sq)).setCell ⟨w.heap.size, 2, none⟩ (.int .i64 ep)).setCell ⟨w.heap.size, 3, none⟩ (.int .i64 ps)).setCell ⟨w.heap.size, 4, none⟩ (.int .i64 nm)).setCell ⟨w.heap.size, 5, none⟩ (.int .i64 0)).setCell ⟨w.heap.size, 6, none⟩ (.int .i64 0)).setCell ⟨w.heap.size, 7, none⟩ (.slice none 0 0)).drew = w4 at *
  obtain ⟨t0, t1, t2, t3, t4, t5, t6, t7, f0, f1, f2, f3, f4, f5, f6, f7⟩ := id T4
  have HV := Lib.hid (And.intro hkd (And.intro hsq (And.intro hep (And.intro hps hnm))))
  have hk1 : kd = 1 := hkd.symm.trans h0
  have i1 : ((kd : Int) != 1) = false := by rw [hk1]; rfl
  have i2 : ((kd : Int) == 1) = true := by rw [hk1]; rfl
  clear hkd hsq hep hps hnm hk1 h0
  go_upto_region 7 with fail
  go_wp2_with (go_at_call 65; (with_reducible refine (HI.out _ _ _ _ o4 k3 k4).mono ?_); rintro e w6 ⟨⟨X6, x6, Y6, yc6, rfl, o6⟩, hb6⟩; (have T6 := T4.keep hb6 l4); obtain ⟨u0, u1, u2, u3, u4, u5, u6, u7, y0, y1, y2, y3, y4, y5, y6, y7⟩ := id T6)
  have k9 := (((T6.set5 (.int .i64 yz)).set6 (.int .i64 wh)).set7 (.slice X6 m x6)).all (.int .i64 kd) (.int .i64 sq) (.int .i64 ep) (.int .i64 ps) (.int .i64 nm) (.int .i64 yz) (.int .i64 wh) (.slice X6 m x6)
  have o7 := own_all (own_st (o := 7) (own_st (o := 6) (own_st (o := 5) (o6.less (show w.heap.size + 1 ≤ _ from l4)) (Nat.lt_succ_self _) (.int .i64 yz)) (Nat.lt_succ_self _) (.int .i64 wh)) (Nat.lt_succ_self _) (.slice X6 m x6)) (Nat.lt_succ_self _) (.int .i64 kd) (.int .i64 sq) (.int .i64 ep) (.int .i64 ps) (.int .i64 nm) (.int .i64 yz) (.int .i64 wh) (.slice X6 m x6)
  exact bodyPost_ret (v := .tuple #[.agg #[.int .i64 kd, .int .i64 sq, .int .i64 ep, .int .i64 ps, .int .i64 nm, .int .i64 yz, .int .i64 wh, .slice X6 m x6], .slice Y6 k yc6, .int .i64 0]) (by simp [results, Try.results35, go_sem, k9.c0, k9.c1, k9.c2, k9.c3, k9.c4, k9.c5, k9.c6, k9.c7]) rfl ⟨⟨X6, x6, Y6, yc6, by rw [HV.out.1, HV.out.2.1, HV.out.2.2.1, HV.out.2.2.2.1, HV.out.2.2.2.2], o7.less (Nat.le_succ _)⟩, below_all ((((bt B4 hb6).setCell (p := ⟨w.heap.size, 5, none⟩) (Nat.le_refl w.heap.size) _).setCell (p := ⟨w.heap.size, 6, none⟩) (Nat.le_refl w.heap.size) _).setCell (p := ⟨w.heap.size, 7, none⟩) (Nat.le_refl w.heap.size) _) (Nat.le_refl _) _ _ _ _ _ _ _ _⟩
end Go.Proofs.Ytplhdnhigboeaaa.lrc
