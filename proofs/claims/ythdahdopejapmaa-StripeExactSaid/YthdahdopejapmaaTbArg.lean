/-
  What an argument that is a table is, read off the row's own words: a row of entries of three values each. Conditions: none.
-/
import Derived.Test.YthdahdopejapmaaProg
import Derived.Test.YthdahdopejapmaaGTa
import Derived.Deep.SlicePairs
import Derived.Lib.SmallJoins
namespace Go.Proofs.Ythdahdopejapmaa.tbl
open Go.RowKit Go.ChangeShapes Go.WideShapes Go.ChangeAt Go.Deep Go.Joins
open Go.Proofs.Ythdahdopejapmaa.anc (flat_get)

section
variable {H : Type} {enc : TypeId × Value → H} {P : Program} {w : World} {base : Nat} {spare : Nat → Bool} {held : Bool}
theorem open_slice3 {t e : TypeId} {f0 f1 f2 : Field} {fuel : Nat} {cs : List Value} {x : DataW H × List MemPlace} (ht : P.underlying t = some (.slice e)) (he : P.underlying e = some (.struct #[f0, f1, f2]))
    (ce : P.cellsOf e = 3) (o0 : f0.offset = 0) (o1 : f1.offset = 1) (o2 : f2.offset = 2) (c0 : P.cellsOf f0.type = 1) (c1 : P.cellsOf f1.type = 1) (c2 : P.cellsOf f2.type = 1)
    (h : DataW.trod enc P w base spare held fuel t cs = some x) :
    (cs = [.slice none 0 0]) ∨
    ∃ (a : Addr) (len cap m n : Nat), cs = [.slice (some a) len cap] ∧ len ≤ cap ∧ cap ≤ maxLen ∧ m = (if spare a.block then cap else len) ∧
      ∀ i, i < m → ∃ (v0 v1 v2 : Value) (y0 y1 y2 : DataW H × List MemPlace), w.cell? (a.add (i * 3)) = some v0 ∧ w.cell? (a.add (i * 3 + 1)) = some v1 ∧ w.cell? (a.add (i * 3 + 2)) = some v2 ∧
        DataW.trod enc P w base spare held n f0.type [v0] = some y0 ∧ DataW.trod enc P w base spare held n f1.type [v1] = some y1 ∧ DataW.trod enc P w base spare held n f2.type [v2] = some y2 := by
  rcases Go.Deep.open_slice ht h with h0 | ⟨a, len, cap, m, n, D, Pl, rfl, hb, hl, hm, hmm, rfl, hx⟩
  · exact Or.inl h0.1
  refine .inr ⟨a, len, cap, m, n - 1, rfl, hl, hm, hmm, fun i hi => ?_⟩
  obtain ⟨cs', h1, h2⟩ := hx i hi
  rw [ce] at h1
  obtain ⟨_, hlen, hcell⟩ := World.cells?_some h1
  obtain ⟨xs, k, hk, hxy, _, hxl, hf⟩ := DataW.trod_struct he h2
  have hk' : k = n - 1 := by omega
  subst hk'
  match xs, hxl, cs', hlen with
  | [y0, y1, y2], _, [v0, v1, v2], _ =>
    have g0 := hf 0 f0 rfl
    have g1 := hf 1 f1 rfl
    have g2 := hf 2 f2 rfl
    simp [o0, o1, o2, c0, c1, c2] at g0 g1 g2
    have e0 := hcell 0 (by omega)
    have e1 := hcell 1 (by omega)
    have e2 := hcell 2 (by omega)
    rw [Go.Deep.add_add] at e0 e1 e2
    exact ⟨v0, v1, v2, y0, y1, y2, by simpa using e0, by simpa using e1, by simpa using e2, g0, g1, g2⟩
end
section
variable {H : Type} {enc : TypeId × Value → H} {W : World}
theorem addr_plain {a : Addr} {k : Nat} {v : Value} (h : W.cell? (a.add k) = some v) (hk : k = 0) : a.spot = none := by
  subst hk
  obtain ⟨b, off, spot⟩ := a
  simpa [Addr.add] using World.cell?_spot h
theorem open_agg1 {H : Type} {enc : TypeId × Value → H} {P : Program} {w : World} {base b0 : Nat} {spare : Nat → Bool} {held : Bool} {r : Reach} {t : TypeId} {f0 : Field} {v : Value} {d : DataW H} {p : List MemPlace} (hs : P.underlying t = some (.struct #[f0])) (hone : oneCellFields P #[f0] = true) (hC : P.cellsOf t = 1)
    (hv : Value.okWide P w r b0 t v) (h : DataW.Trod enc P w base spare held t v d p) :
    ∃ (v0 : Value) (y0 : DataW H × List MemPlace) (n : Nat), v = .agg #[v0] ∧ DataW.trod enc P w base spare held n f0.type [v0] = some y0 := by
  obtain ⟨cs, rfl, hsz⟩ := okWide_struct hs hv
  obtain ⟨c0, rfl⟩ : ∃ v0, cs = #[v0] := by
    have h2 : cs.size = 1 := hsz.trans hC
    obtain ⟨l⟩ := cs
    match l, h2 with
    | [c0], _ => exact ⟨c0, rfl⟩
  obtain ⟨fuel, hf⟩ := h
  obtain ⟨xs, n, _, _, hl, hlen, hg⟩ := DataW.trod_struct hs hf
  obtain ⟨o0, k0⟩ := hone_of hone 0 f0 rfl
  match xs, hlen with
  | [y0], _ =>
    have h0 := hg 0 f0 rfl
    exact ⟨c0, y0, n, rfl, by simpa [Value.cells, o0, k0] using h0⟩
set_option maxRecDepth 100000 in
theorem open_ents {v : Value} {x : DataW H × List MemPlace} {fuel : Nat} {held : Bool} (hf : DataW.trod enc Try.prog W 0 (fun _ => true) held fuel 24 [v] = some x) :
    ∃ A c es, v = .slice A (List.length es) c ∧ es.length ≤ c ∧ c ≤ maxLen ∧ SlV W W.heap.size A (evs es) := by
  rcases open_slice3 Try.underlying24 Try.underlying61 (by kernel_rfl) (by kernel_rfl) (by kernel_rfl) (by kernel_rfl) (by kernel_rfl) (by kernel_rfl) (by kernel_rfl) hf with hcs | ⟨a, l, c, m, n, hcs, hl, hm, hmm, hx⟩
  · obtain rfl : v = .slice none 0 0 := by simpa using hcs
    exact ⟨none, 0, [], rfl, Nat.le_refl _, Nat.zero_le _, fun h => absurd h (by simp [evs])⟩
  · obtain rfl : v = .slice (some a) l c := by simpa using hcs
    have hmc : m = c := by simpa using hmm
    haveI : Inhabited Ent := ⟨⟨0, 0, false⟩⟩
    obtain ⟨f, hfr⟩ := Go.Deep.choose_lt (α := Ent) (n := l) (p := fun i r => W.cell? (a.add (i * 3)) = some (.int .i64 r.st) ∧ W.cell? (a.add (i * 3 + 1)) = some (.int .i64 r.sm) ∧ W.cell? (a.add (i * 3 + 2)) = some (.bool r.ls)) (fun i hi => by
      obtain ⟨v0, v1, v2, y0, y1, y2, k0, k1, k2, t0, t1, t2⟩ := hx i (by omega)
      obtain ⟨st, e0, -, -⟩ := DataW.trod_int Try.underlying3 t0
      obtain ⟨sm, e1, -, -⟩ := DataW.trod_int Try.underlying3 t1
      obtain ⟨ls, e2, -⟩ := DataW.trod_bool Try.underlying4 t2
      obtain rfl : v0 = _ := by simpa using e0
      obtain rfl : v1 = _ := by simpa using e1
      obtain rfl : v2 = _ := by simpa using e2
      exact ⟨⟨st, sm, ls⟩, k0, k1, k2⟩)
    have hlen : ((List.range l).map f).length = l := by simp
    refine ⟨some a, c, (List.range l).map f, by rw [hlen], by omega, hm, fun hp => ?_⟩
    rw [evs_length, hlen] at hp
    have h0 := (hfr 0 (by omega)).1
    have hs := addr_plain h0 (by omega)
    obtain ⟨b, off, spot⟩ := a
    dsimp only at hs
    subst hs
    refine ⟨b, off, rfl, ?_, fun j hj => ?_⟩
    · have := World.block_lt_of_cell? W _ h0
      rwa [Go.WideShapes.add_plain] at this
    · have hjl : j < l * 3 := by rw [evs_length, hlen] at hj; exact hj
      have e1 : j = (j / 3) * 3 + j % 3 := by omega
      have hk : j / 3 < l := by omega
      have hget : (evs ((List.range l).map f))[j]? = (f (j / 3)).vs[j % 3]? := by
        have h2 := flat_get Ent.vs 3 (fun _ => rfl) ((List.range l).map f) (j / 3) (j % 3) (by omega)
        rw [← e1] at h2
        rw [show evs ((List.range l).map f) = ((List.range l).map f).flatMap Ent.vs from rfl, h2]
        simp [hk]
      rw [List.getElem?_eq_getElem hj] at hget
      obtain ⟨q0, q1, q2⟩ := hfr (j / 3) hk
      simp only [Go.WideShapes.add_plain] at q0 q1 q2
      have h3 : j % 3 = 0 ∨ j % 3 = 1 ∨ j % 3 = 2 := by omega
      rcases h3 with h3 | h3 | h3
      · rw [h3] at hget
        have e9 := Option.some.inj (show some _ = some (Value.int .i64 (f (j / 3)).st) from hget)
        rw [e9, show off + j = off + j / 3 * 3 by omega]
        exact q0
      · rw [h3] at hget
        have e9 := Option.some.inj (show some _ = some (Value.int .i64 (f (j / 3)).sm) from hget)
        rw [e9, show off + j = off + (j / 3 * 3 + 1) by omega]
        exact q1
      · rw [h3] at hget
        have e9 := Option.some.inj (show some _ = some (Value.bool (f (j / 3)).ls) from hget)
        rw [e9, show off + j = off + (j / 3 * 3 + 2) by omega]
        exact q2
set_option maxRecDepth 100000 in
theorem open_table {v : Value} {d : DataW H} {p : List MemPlace} {base : Nat}
    (hv : Value.okWide Try.prog W .any base 26 v) (h : DataW.Trod enc Try.prog W 0 (fun _ => true) true 26 v d p) :
    ∃ x : TV, v = x.v ∧ x.In W W.heap.size := by
  obtain ⟨v0, y0, n, rfl, t0⟩ := open_agg1 Try.underlying26 (by kernel_rfl) (by kernel_rfl) hv h
  obtain ⟨A, c, es, rfl, h1, h2, h3⟩ := open_ents t0
  exact ⟨⟨A, c, es⟩, rfl, h3, h1, h2⟩
end
end Go.Proofs.Ythdahdopejapmaa.tbl
