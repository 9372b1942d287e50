/-
  What an argument is that is a list of acts (two integers, a byte string, an integer). Conditions: none.
-/
import Derived.Test.YtegcbmimndmfkaaProg
import Derived.Test.YtegcbmimndmfkaaDkV
import Derived.Deep.SlicePairs
import Derived.Lib.SmallJoins
namespace Go.Proofs.Ytegcbmimndmfkaa.dsk
open Go.RowKit Go.ChangeShapes Go.WideShapes Go.ChangeAt Go.Joins

structure ActR where
  kind : Int
  addr : Int
  b : Row
  keep : Int
section
variable {H : Type} {enc : TypeId × Value → H} {P : Program} {w : World} {base : Nat} {spare : Nat → Bool} {held : Bool}
theorem open_slice4 {t e : TypeId} {f0 f1 f2 f3 : Field} {fuel : Nat} {cs : List Value} {x : DataW H × List MemPlace} (ht : P.underlying t = some (.slice e)) (he : P.underlying e = some (.struct #[f0, f1, f2, f3]))
    (ce : P.cellsOf e = 4) (o0 : f0.offset = 0) (o1 : f1.offset = 1) (o2 : f2.offset = 2) (o3 : f3.offset = 3) (c0 : P.cellsOf f0.type = 1) (c1 : P.cellsOf f1.type = 1) (c2 : P.cellsOf f2.type = 1) (c3 : P.cellsOf f3.type = 1)
    (h : DataW.trod enc P w base spare held fuel t cs = some x) :
    (cs = [.slice none 0 0]) ∨
    ∃ (a : Addr) (len cap m n : Nat), cs = [.slice (some a) len cap] ∧ len ≤ cap ∧ cap ≤ maxLen ∧ m = (if spare a.block then cap else len) ∧
      ∀ i, i < m → ∃ (v0 v1 v2 v3 : Value) (y0 y1 y2 y3 : DataW H × List MemPlace), w.cell? (a.add (i * 4)) = some v0 ∧ w.cell? (a.add (i * 4 + 1)) = some v1 ∧ w.cell? (a.add (i * 4 + 2)) = some v2 ∧ w.cell? (a.add (i * 4 + 3)) = some v3 ∧
        DataW.trod enc P w base spare held n f0.type [v0] = some y0 ∧ DataW.trod enc P w base spare held n f1.type [v1] = some y1 ∧ DataW.trod enc P w base spare held n f2.type [v2] = some y2 ∧ DataW.trod enc P w base spare held n f3.type [v3] = some y3 := by
  rcases Go.Deep.open_slice ht h with h0 | ⟨a, len, cap, m, n, D, Pl, rfl, hb, hl, hm, hmm, rfl, hx⟩
  · exact Or.inl h0.1
  refine .inr ⟨a, len, cap, m, n - 1, rfl, hl, hm, hmm, fun i hi => ?_⟩
  obtain ⟨cs', h1, h2⟩ := hx i hi
  rw [ce] at h1
  obtain ⟨_, hlen, hcell⟩ := World.cells?_some h1
  obtain ⟨xs, k, hk, hxy, _, hxl, hf⟩ := DataW.trod_struct he h2
  have hk' : k = n - 1 := by omega
  subst hk'
  match xs, hxl, cs', hlen with
  | [y0, y1, y2, y3], _, [v0, v1, v2, v3], _ =>
    have g0 := hf 0 f0 rfl
    have g1 := hf 1 f1 rfl
    have g2 := hf 2 f2 rfl
    have g3 := hf 3 f3 rfl
    simp [o0, o1, o2, o3, c0, c1, c2, c3] at g0 g1 g2 g3
    have e0 := hcell 0 (by omega)
    have e1 := hcell 1 (by omega)
    have e2 := hcell 2 (by omega)
    have e3 := hcell 3 (by omega)
    rw [Go.Deep.add_add] at e0 e1 e2 e3
    exact ⟨v0, v1, v2, v3, y0, y1, y2, y3, by simpa using e0, by simpa using e1, by simpa using e2, by simpa using e3, g0, g1, g2, g3⟩
end
theorem addr_plain4 {W : World} {a : Addr} {k : Nat} {v : Value} (h : W.cell? (a.add k) = some v) (hk : k = 0) : a.spot = none := by
  subst hk
  obtain ⟨b, off, spot⟩ := a
  simpa [Addr.add] using World.cell?_spot h
/-- Acts as they lie. -/
def Acts (W : World) (A : Option Addr) (n : Nat) (f : Nat → ActR) : Prop := ∀ i, i < n → ∃ b off, A = some ⟨b, off, none⟩ ∧ b < W.heap.size ∧
  W.cell? ⟨b, off + i * 4, none⟩ = some (.int .i64 (f i).kind) ∧ W.cell? ⟨b, off + (i * 4 + 1), none⟩ = some (.int .i64 (f i).addr) ∧ W.cell? ⟨b, off + (i * 4 + 2), none⟩ = some (.slice (f i).b.A (f i).b.l.length (f i).b.c) ∧
  W.cell? ⟨b, off + (i * 4 + 3), none⟩ = some (.int .i64 (f i).keep) ∧ RIn W W.heap.size (f i).b
section
variable {H : Type} {enc : TypeId × Value → H} {W : World}
theorem open_acts {v : Value} {x : DataW H × List MemPlace} {fuel : Nat} {held : Bool} (hf : DataW.trod enc Try.prog W 0 (fun _ => true) held fuel 53 [v] = some x) :
    ∃ A n c f, v = .slice A n c ∧ n ≤ c ∧ c ≤ maxLen ∧ Acts W A n f := by
  rcases open_slice4 Try.underlying53 Try.underlying58 (by kernel_rfl) (by kernel_rfl) (by kernel_rfl) (by kernel_rfl) (by kernel_rfl) (by kernel_rfl) (by kernel_rfl) (by kernel_rfl) (by kernel_rfl) hf with hcs | ⟨a, l, c, m, n, hcs, hl, hm, hmm, hx⟩
  · obtain rfl : v = .slice none 0 0 := by simpa using hcs
    exact ⟨none, 0, 0, fun _ => ⟨0, 0, ⟨none, 0, []⟩, 0⟩, rfl, Nat.le_refl _, Nat.zero_le _, fun i hi => by omega⟩
  · obtain rfl : v = .slice (some a) l c := by simpa using hcs
    have hmc : m = c := by simpa using hmm
    haveI : Inhabited ActR := ⟨⟨0, 0, ⟨none, 0, []⟩, 0⟩⟩
    obtain ⟨f, hfr⟩ := Go.Deep.choose_lt (α := ActR) (n := l) (p := fun i r => (W.cell? (a.add (i * 4)) = some (.int .i64 r.kind) ∧ W.cell? (a.add (i * 4 + 1)) = some (.int .i64 r.addr) ∧ W.cell? (a.add (i * 4 + 2)) = some r.b.v ∧ W.cell? (a.add (i * 4 + 3)) = some (.int .i64 r.keep)) ∧ RIn W W.heap.size r.b) (fun i hi => by
      obtain ⟨v0, v1, v2, v3, y0, y1, y2, y3, k0, k1, k2, k3, t0, t1, t2, t3⟩ := hx i (by omega)
      obtain ⟨z0, e0, -, -⟩ := DataW.trod_int Try.underlying3 t0
      obtain ⟨z1, e1, -, -⟩ := DataW.trod_int Try.underlying3 t1
      obtain ⟨r2, e2, l2, m2, s2⟩ := bytes_cells Try.underlying26 Try.underlying5 (by kernel_rfl) t2
      obtain ⟨z3, e3, -, -⟩ := DataW.trod_int Try.underlying3 t3
      obtain rfl : v0 = _ := by simpa using e0
      obtain rfl : v1 = _ := by simpa using e1
      obtain rfl : v3 = _ := by simpa using e3
      subst e2
      exact ⟨⟨z0, z1, r2, z3⟩, ⟨k0, k1, k2, k3⟩, ⟨s2, l2, m2⟩⟩)
    refine ⟨some a, l, c, f, rfl, by omega, hm, fun i hi => ?_⟩
    obtain ⟨⟨q0, q1, q2, q3⟩, hr⟩ := hfr i hi
    have hs := addr_plain4 (hfr 0 (by omega)).1.1 (by omega)
    obtain ⟨b, off, spot⟩ := a
    dsimp only at hs
    subst hs
    have hb := World.block_lt_of_cell? W _ q0
    simp only [Go.WideShapes.add_plain] at q0 q1 q2 q3 hb
    exact ⟨b, off, rfl, hb, q0, q1, q2, q3, hr⟩
end
end Go.Proofs.Ytegcbmimndmfkaa.dsk
