/-
  What an argument that is a disk is, read off the row's own words: rows of cells, rows of writes, two integers. Conditions: none.
-/
import Derived.Test.YtegcbmimndmfkaaProg
import Derived.Test.YtegcbmimndmfkaaDkV
import Derived.Deep.SlicePairs
import Derived.Lib.SmallJoins
namespace Go.Proofs.Ytegcbmimndmfkaa.dsk
open Go.RowKit Go.ChangeShapes Go.WideShapes Go.ChangeAt Go.Joins

section
variable {H : Type} {enc : TypeId × Value → H} {P : Program} {w : World} {base : Nat} {spare : Nat → Bool} {held : Bool}
theorem open_slice3 {t e : TypeId} {f0 f1 f2 : Field} {fuel : Nat} {cs : List Value} {x : DataW H × List MemPlace} (ht : P.underlying t = some (.slice e)) (he : P.underlying e = some (.struct #[f0, f1, f2]))
    (ce : P.cellsOf e = 3) (o0 : f0.offset = 0) (o1 : f1.offset = 1) (o2 : f2.offset = 2) (c0 : P.cellsOf f0.type = 1) (c1 : P.cellsOf f1.type = 1) (c2 : P.cellsOf f2.type = 1)
    (h : DataW.trod enc P w base spare held fuel t cs = some x) :
    (cs = [.slice none 0 0]) ∨
    ∃ (a : Addr) (len cap m n : Nat), cs = [.slice (some a) len cap] ∧ len ≤ cap ∧ cap ≤ maxLen ∧ m = (if spare a.block then cap else len) ∧
      ∀ i, i < m → ∃ (v0 v1 v2 : Value) (y0 y1 y2 : DataW H × List MemPlace), w.cell? (a.add (i * 3)) = some v0 ∧ w.cell? (a.add (i * 3 + 1)) = some v1 ∧ w.cell? (a.add (i * 3 + 2)) = some v2 ∧
        DataW.trod enc P w base spare held n f0.type [v0] = some y0 ∧ DataW.trod enc P w base spare held n f1.type [v1] = some y1 ∧ DataW.trod enc P w base spare held n f2.type [v2] = some y2 := by
  rcases Go.Deep.open_slice ht h with h0 | ⟨a, len, cap, m, n, D, Pl, rfl, hb, hl, hm, hmm, rfl, hx⟩
  · exact Or.inl h0.1
  refine .inr ⟨a, len, cap, m, n - 1, rfl, hl, hm, hmm, fun i hi => ?_⟩
  obtain ⟨cs', h1, h2⟩ := hx i hi
  rw [ce] at h1
  obtain ⟨_, hlen, hcell⟩ := World.cells?_some h1
  obtain ⟨xs, k, hk, hxy, _, hxl, hf⟩ := DataW.trod_struct he h2
  have hk' : k = n - 1 := by omega
  subst hk'
  match xs, hxl, cs', hlen with
  | [y0, y1, y2], _, [v0, v1, v2], _ =>
    have g0 := hf 0 f0 rfl
    have g1 := hf 1 f1 rfl
    have g2 := hf 2 f2 rfl
    simp [o0, o1, o2, c0, c1, c2] at g0 g1 g2
    have e0 := hcell 0 (by omega)
    have e1 := hcell 1 (by omega)
    have e2 := hcell 2 (by omega)
    rw [Go.Deep.add_add] at e0 e1 e2
    exact ⟨v0, v1, v2, y0, y1, y2, by simpa using e0, by simpa using e1, by simpa using e2, g0, g1, g2⟩
end
section
variable {H : Type} {enc : TypeId × Value → H} {W : World}
theorem addr_plain {a : Addr} {k : Nat} {v : Value} (h : W.cell? (a.add k) = some v) (hk : k = 0) : a.spot = none := by
  subst hk
  obtain ⟨b, off, spot⟩ := a
  simpa [Addr.add] using World.cell?_spot h
theorem open_cells {v : Value} {x : DataW H × List MemPlace} {fuel : Nat} {held : Bool} (hf : DataW.trod enc Try.prog W 0 (fun _ => true) held fuel 22 [v] = some x) :
    ∃ A c rs, v = .slice A (List.length rs) c ∧ rs.length ≤ c ∧ c ≤ maxLen ∧ SlV W W.heap.size A (cvs rs) ∧ CIn W W.heap.size rs := by
  rcases open_slice3 Try.underlying22 Try.underlying64 (by kernel_rfl) (by kernel_rfl) (by kernel_rfl) (by kernel_rfl) (by kernel_rfl) (by kernel_rfl) (by kernel_rfl) hf with hcs | ⟨a, l, c, m, n, hcs, hl, hm, hmm, hx⟩
  · obtain rfl : v = .slice none 0 0 := by simpa using hcs
    exact ⟨none, 0, [], rfl, Nat.le_refl _, Nat.zero_le _, fun h => absurd h (by simp [cvs]), CIn.nil _ _⟩
  · obtain rfl : v = .slice (some a) l c := by simpa using hcs
    have hmc : m = c := by simpa using hmm
    haveI : Inhabited CellR := ⟨⟨0, ⟨none, 0, []⟩, ⟨none, 0, []⟩⟩⟩
    obtain ⟨f, hfr⟩ := Go.Deep.choose_lt (α := CellR) (n := l) (p := fun i r => (W.cell? (a.add (i * 3)) = some (.int .i64 r.st) ∧ W.cell? (a.add (i * 3 + 1)) = some r.b.v ∧ W.cell? (a.add (i * 3 + 2)) = some r.o.v) ∧ RIn W W.heap.size r.b ∧ RIn W W.heap.size r.o) (fun i hi => by
      obtain ⟨v0, v1, v2, y0, y1, y2, k0, k1, k2, t0, t1, t2⟩ := hx i (by omega)
      obtain ⟨z, e0, -, -⟩ := DataW.trod_int Try.underlying3 t0
      obtain ⟨r1, e1, l1, m1, s1⟩ := bytes_cells Try.underlying26 Try.underlying5 (by kernel_rfl) t1
      obtain ⟨r2, e2, l2, m2, s2⟩ := bytes_cells Try.underlying26 Try.underlying5 (by kernel_rfl) t2
      obtain rfl : v0 = _ := by simpa using e0
      subst e1 e2
      exact ⟨⟨z, r1, r2⟩, ⟨k0, k1, k2⟩, ⟨s1, l1, m1⟩, ⟨s2, l2, m2⟩⟩)
    have hlen : ((List.range l).map f).length = l := by simp
    refine ⟨some a, c, (List.range l).map f, by rw [hlen], by omega, hm, fun hp => ?_, fun r hr => ?_⟩
    · rw [cvs_length, hlen] at hp
      have h0 := (hfr 0 (by omega)).1.1
      have hs := addr_plain h0 (by omega)
      obtain ⟨b, off, spot⟩ := a
      dsimp only at hs
      subst hs
      refine ⟨b, off, rfl, ?_, fun j hj => ?_⟩
      · have := World.block_lt_of_cell? W _ h0
        rwa [Go.WideShapes.add_plain] at this
      · have hjl : j < l * 3 := by rw [cvs_length, hlen] at hj; exact hj
        have e1 : j = (j / 3) * 3 + j % 3 := by omega
        have hk : j / 3 < l := by omega
        have hget : (cvs ((List.range l).map f))[j]? = (f (j / 3)).vs[j % 3]? := by
          have h2 := flat_get CellR.vs 3 (fun _ => rfl) ((List.range l).map f) (j / 3) (j % 3) (by omega)
          rw [← e1] at h2
          rw [show cvs ((List.range l).map f) = ((List.range l).map f).flatMap CellR.vs from rfl, h2]
          simp [hk]
        rw [List.getElem?_eq_getElem hj] at hget
        obtain ⟨⟨q0, q1, q2⟩, -⟩ := hfr (j / 3) hk
        simp only [Go.WideShapes.add_plain] at q0 q1 q2
        have h3 : j % 3 = 0 ∨ j % 3 = 1 ∨ j % 3 = 2 := by omega
        rcases h3 with h3 | h3 | h3
        · rw [h3] at hget
          have e9 := Option.some.inj (show some _ = some (Value.int .i64 (f (j / 3)).st) from hget)
          rw [e9, show off + j = off + j / 3 * 3 by omega]
          exact q0
        · rw [h3] at hget
          have e9 := Option.some.inj (show some _ = some (f (j / 3)).b.v from hget)
          rw [e9, show off + j = off + (j / 3 * 3 + 1) by omega]
          exact q1
        · rw [h3] at hget
          have e9 := Option.some.inj (show some _ = some (f (j / 3)).o.v from hget)
          rw [e9, show off + j = off + (j / 3 * 3 + 2) by omega]
          exact q2
    · obtain ⟨i, hi, rfl⟩ := List.mem_map.1 hr
      exact (hfr i (List.mem_range.1 hi)).2
theorem open_writes {v : Value} {x : DataW H × List MemPlace} {fuel : Nat} {held : Bool} (hf : DataW.trod enc Try.prog W 0 (fun _ => true) held fuel 23 [v] = some x) :
    ∃ A c rs, v = .slice A (List.length rs) c ∧ rs.length ≤ c ∧ c ≤ maxLen ∧ SlV W W.heap.size A (wvs rs) ∧ WIn W W.heap.size rs := by
  rcases Go.Deep.open_slice_pairs Try.underlying23 Try.underlying72 (by kernel_rfl) (by kernel_rfl) (by kernel_rfl) (by kernel_rfl) (by kernel_rfl) hf with ⟨hcs, -⟩ | ⟨a, l, c, m, n, V0, V1, D0, D1, P0, P1, hcs, -, hl, hm, hmm, -, hx⟩
  · obtain rfl : v = .slice none 0 0 := by simpa using hcs
    exact ⟨none, 0, [], rfl, Nat.le_refl _, Nat.zero_le _, fun h => absurd h (by simp [wvs]), WIn.nil _ _⟩
  · obtain rfl : v = .slice (some a) l c := by simpa using hcs
    have hmc : m = c := by simpa using hmm
    haveI : Inhabited WriR := ⟨⟨0, ⟨none, 0, []⟩⟩⟩
    obtain ⟨f, hfr⟩ := Go.Deep.choose_lt (α := WriR) (n := l) (p := fun i r => (W.cell? (a.add (i * 2)) = some (.int .i64 r.addr) ∧ W.cell? (a.add (i * 2 + 1)) = some r.b.v) ∧ RIn W W.heap.size r.b) (fun i hi => by
      obtain ⟨k0, k1, t0, t1⟩ := hx i (by omega)
      obtain ⟨z, e0, -, -⟩ := DataW.trod_int Try.underlying3 t0
      obtain ⟨r1, e1, l1, m1, s1⟩ := bytes_cells Try.underlying26 Try.underlying5 (by kernel_rfl) t1
      have e0' : V0 i = .int .i64 z := by simpa using e0
      rw [e0'] at k0
      rw [e1] at k1
      exact ⟨⟨z, r1⟩, ⟨k0, k1⟩, ⟨s1, l1, m1⟩⟩)
    have hlen : ((List.range l).map f).length = l := by simp
    refine ⟨some a, c, (List.range l).map f, by rw [hlen], by omega, hm, fun hp => ?_, fun r hr => ?_⟩
    · rw [wvs_length, hlen] at hp
      have h0 := (hfr 0 (by omega)).1.1
      have hs := addr_plain h0 (by omega)
      obtain ⟨b, off, spot⟩ := a
      dsimp only at hs
      subst hs
      refine ⟨b, off, rfl, ?_, fun j hj => ?_⟩
      · have := World.block_lt_of_cell? W _ h0
        rwa [Go.WideShapes.add_plain] at this
      · have hjl : j < l * 2 := by rw [wvs_length, hlen] at hj; exact hj
        have e1 : j = (j / 2) * 2 + j % 2 := by omega
        have hk : j / 2 < l := by omega
        have hget : (wvs ((List.range l).map f))[j]? = (f (j / 2)).vs[j % 2]? := by
          have h2 := flat_get WriR.vs 2 (fun _ => rfl) ((List.range l).map f) (j / 2) (j % 2) (by omega)
          rw [← e1] at h2
          rw [show wvs ((List.range l).map f) = ((List.range l).map f).flatMap WriR.vs from rfl, h2]
          simp [hk]
        rw [List.getElem?_eq_getElem hj] at hget
        obtain ⟨⟨q0, q1⟩, -⟩ := hfr (j / 2) hk
        simp only [Go.WideShapes.add_plain] at q0 q1
        have h3 : j % 2 = 0 ∨ j % 2 = 1 := by omega
        rcases h3 with h3 | h3
        · rw [h3] at hget
          have e9 := Option.some.inj (show some _ = some (Value.int .i64 (f (j / 2)).addr) from hget)
          rw [e9, show off + j = off + j / 2 * 2 by omega]
          exact q0
        · rw [h3] at hget
          have e9 := Option.some.inj (show some _ = some (f (j / 2)).b.v from hget)
          rw [e9, show off + j = off + (j / 2 * 2 + 1) by omega]
          exact q1
    · obtain ⟨i, hi, rfl⟩ := List.mem_map.1 hr
      exact (hfr i (List.mem_range.1 hi)).2
theorem open_disk {v : Value} {d : DataW H} {p : List MemPlace} {base : Nat}
    (hv : Value.okWide Try.prog W .any base 25 v) (h : DataW.Trod enc Try.prog W 0 (fun _ => true) true 25 v d p) :
    ∃ x : DV, v = x.v ∧ x.In W W.heap.size ∧ (Lit.int .i64 x.reqs).wf = true ∧ (Lit.int .i64 x.left).wf = true := by
  obtain ⟨v0, v1, v2, v3, y0, y1, y2, y3, n, rfl, -, -, h0, h1, h2, h3⟩ := open_agg4 Try.underlying25 (by kernel_rfl) (by kernel_rfl) hv h
  obtain ⟨A, c, rs, rfl, a1, a2, a3, a4⟩ := open_cells h0
  obtain ⟨A', c', rs', rfl, b1, b2, b3, b4⟩ := open_writes h1
  obtain ⟨q, e2, -, wq⟩ := DataW.trod_int Try.underlying3 h2
  obtain ⟨l, e3, -, wl⟩ := DataW.trod_int Try.underlying3 h3
  obtain rfl : v2 = _ := by simpa using e2
  obtain rfl : v3 = _ := by simpa using e3
  exact ⟨⟨A, c, rs, A', c', rs', q, l⟩, rfl, ⟨a3, b3, a4, b4, ⟨a1, a2⟩, ⟨b1, b2⟩⟩, wq, wl⟩
end
end Go.Proofs.Ytegcbmimndmfkaa.dsk
