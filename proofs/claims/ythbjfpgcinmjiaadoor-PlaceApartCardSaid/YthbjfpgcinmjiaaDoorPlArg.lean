/-
  A slice of arrays of three integers as an argument. Conditions: none.
-/
import Derived.Test.YthbjfpgcinmjiaaDoorAnArg
import Derived.Laws.IdiomArrays
namespace Go.Proofs.YthbjfpgcinmjiaaDoor.plc
open Go.ChangeShapes Go.WideShapes Go.ChangeAt Go.RowKit Go.Lib
open Go.Proofs.YthbjfpgcinmjiaaDoor.anc

/-- The slice at A holds n triples. -/
def Tris (w : World) (B : Nat) (A : Option Addr) (n : Nat) (f : Nat → Int × Int × Int) : Prop := ∀ i, i < n → ∃ b off, A = some ⟨b, off, none⟩ ∧ b < B ∧ w.cell? ⟨b, off + i * 3, none⟩ = some (.int .i64 (f i).1) ∧
  w.cell? ⟨b, off + i * 3 + 1, none⟩ = some (.int .i64 (f i).2.1) ∧ w.cell? ⟨b, off + i * 3 + 2, none⟩ = some (.int .i64 (f i).2.2)
theorem Tris.below {w w' : World} {B n : Nat} {A : Option Addr} {f : Nat → Int × Int × Int} (h : Tris w B A n f) (hb : Below B w w') : Tris w' B A n f := fun i hi => by
  obtain ⟨b, off, e, hB, c0, c1, c2⟩ := h i hi
  exact ⟨b, off, e, hB, (hb.cell (p := ⟨b, _, none⟩) hB).trans c0, (hb.cell (p := ⟨b, _, none⟩) hB).trans c1, (hb.cell (p := ⟨b, _, none⟩) hB).trans c2⟩
section
variable {H : Type} {enc : TypeId × Value → H} {W : World}
set_option maxRecDepth 100000 in
theorem open_tris {v : Value} {d : DataW H} {p : List MemPlace} {base : Nat} (hv : Value.okWide Tryd.prog W .any base 50 v) (h : DataW.Trod enc Tryd.prog W 0 (fun _ => true) true 50 v d p) :
    ∃ A n c f, v = .slice A n c ∧ n ≤ c ∧ c ≤ maxLen ∧ Tris W W.heap.size A n f := by
  obtain ⟨a0, len0, cap0, rfl⟩ := okWide_slice Tryd.underlying50 hv
  obtain ⟨fuel, hf⟩ := h
  rcases Go.Deep.open_slice Tryd.underlying50 hf with ⟨hcs, _⟩ | ⟨a, l, c, m, n, D, Pl, hcs, _, hl, hm, hmm, _, hx⟩
  · simp [Value.cells] at hcs
    obtain ⟨rfl, rfl, rfl⟩ := hcs
    exact ⟨none, 0, 0, fun _ => (0, 0, 0), rfl, Nat.le_refl _, Nat.zero_le _, fun i hi => by omega⟩
  · simp [Value.cells] at hcs
    obtain ⟨rfl, rfl, rfl⟩ := hcs
    have hmc : m = cap0 := by simpa using hmm
    have ce : Tryd.prog.cellsOf 54 = 3 := by kernel_rfl
    rw [ce] at hx
    obtain ⟨f, hfr⟩ := Go.Deep.choose_lt (α := Int × Int × Int) (n := len0) (p := fun i r => W.cell? (a.add (i * 3)) = some (.int .i64 r.1) ∧ W.cell? (a.add (i * 3 + 1)) = some (.int .i64 r.2.1) ∧ W.cell? (a.add (i * 3 + 2)) = some (.int .i64 r.2.2)) (fun i hi => by
      obtain ⟨cs', h1, h2⟩ := hx i (by omega)
      obtain ⟨_, hlen, hcell⟩ := World.cells?_some h1
      match cs', hlen with
      | [v0, v1, v2], _ =>
        obtain ⟨y0, y1, y2, k, -, t0, t1, t2⟩ := trod_array3 Tryd.underlying54 (by kernel_rfl) h2
        obtain ⟨z0, e0, -, -⟩ := DataW.trod_int Tryd.underlying3 t0
        obtain ⟨z1, e1, -, -⟩ := DataW.trod_int Tryd.underlying3 t1
        obtain ⟨z2, e2, -, -⟩ := DataW.trod_int Tryd.underlying3 t2
        obtain rfl : v0 = _ := by simpa using e0
        obtain rfl : v1 = _ := by simpa using e1
        obtain rfl : v2 = _ := by simpa using e2
        have g0 := hcell 0 (by omega)
        have g1 := hcell 1 (by omega)
        have g2 := hcell 2 (by omega)
        rw [Go.Deep.add_add] at g0 g1 g2
        exact ⟨(z0, z1, z2), by simpa using g0, by simpa using g1, by simpa using g2⟩)
    refine ⟨some a, len0, cap0, f, rfl, by omega, hm, fun i hi => ?_⟩
    obtain ⟨q0, q1, q2⟩ := hfr i hi
    have hs := addr_plain (hfr 0 (by omega)).1 (by omega)
    obtain ⟨b, off, spot⟩ := a
    dsimp only at hs
    subst hs
    have hb := World.block_lt_of_cell? W _ q0
    simp only [Go.WideShapes.add_plain] at q0 q1 q2 hb
    exact ⟨b, off, rfl, hb, q0, q1, q2⟩
end
end Go.Proofs.YthbjfpgcinmjiaaDoor.plc
