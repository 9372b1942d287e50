/-
  What an argument that is a reading, or a row of readings, is, read off the row's own words: an error, a slice of bytes. Conditions: none.
-/
import Derived.Test.YtdjleimndolonaaDoorProg
import Derived.Test.YtdjleimndolonaaDoorNwV
import Derived.Test.YtdjleimndolonaaDoorAnArg
namespace Go.Proofs.YtdjleimndolonaaDoor.nwt
open Go.RowKit Go.ChangeShapes Go.WideShapes Go.ChangeAt Go.Deep Go.Joins
open Go.Proofs.YtdjleimndolonaaDoor.anc (addr_plain flat_get)

section
variable {H : Type} {enc : TypeId × Value → H} {P : Program} {w : World} {base : Nat} {spare : Nat → Bool} {held : Bool}
theorem open_agg2 {r : Reach} {b0 : Nat} {t : TypeId} {f0 f1 : Field} {v : Value} {d : DataW H} {p : List MemPlace} (hs : P.underlying t = some (.struct #[f0, f1])) (hone : oneCellFields P #[f0, f1] = true) (hC : P.cellsOf t = 2)
    (hv : Value.okWide P w r b0 t v) (h : DataW.Trod enc P w base spare held t v d p) :
    ∃ (v0 v1 : Value) (y0 y1 : DataW H × List MemPlace) (n : Nat), v = .agg #[v0, v1] ∧
      DataW.trod enc P w base spare held n f0.type [v0] = some y0 ∧ DataW.trod enc P w base spare held n f1.type [v1] = some y1 := by
  obtain ⟨cs, rfl, hsz⟩ := okWide_struct hs hv
  obtain ⟨c0, c1, rfl⟩ : ∃ v0 v1, cs = #[v0, v1] := by
    have h2 : cs.size = 2 := hsz.trans hC
    obtain ⟨l⟩ := cs
    match l, h2 with
    | [c0, c1], _ => exact ⟨c0, c1, rfl⟩
  obtain ⟨fuel, hf⟩ := h
  obtain ⟨xs, n, _, _, hl, hlen, hg⟩ := DataW.trod_struct hs hf
  obtain ⟨o0, k0⟩ := hone_of hone 0 f0 rfl
  obtain ⟨o1, k1⟩ := hone_of hone 1 f1 rfl
  match xs, hlen with
  | [y0, y1], _ =>
    have h0 := hg 0 f0 rfl
    have h1 := hg 1 f1 rfl
    exact ⟨c0, c1, y0, y1, n, rfl, by simpa [Value.cells, o0, k0] using h0, by simpa [Value.cells, o1, k1] using h1⟩
theorem open_slice2 {t e : TypeId} {f0 f1 : Field} {fuel : Nat} {cs : List Value} {x : DataW H × List MemPlace} (ht : P.underlying t = some (.slice e)) (he : P.underlying e = some (.struct #[f0, f1]))
    (ce : P.cellsOf e = 2) (o0 : f0.offset = 0) (o1 : f1.offset = 1) (c0 : P.cellsOf f0.type = 1) (c1 : P.cellsOf f1.type = 1)
    (h : DataW.trod enc P w base spare held fuel t cs = some x) :
    (cs = [.slice none 0 0]) ∨
    ∃ (a : Addr) (len cap m n : Nat), cs = [.slice (some a) len cap] ∧ len ≤ cap ∧ cap ≤ maxLen ∧ m = (if spare a.block then cap else len) ∧
      ∀ i, i < m → ∃ (v0 v1 : Value) (y0 y1 : DataW H × List MemPlace), w.cell? (a.add (i * 2)) = some v0 ∧ w.cell? (a.add (i * 2 + 1)) = some v1 ∧
        DataW.trod enc P w base spare held n f0.type [v0] = some y0 ∧ DataW.trod enc P w base spare held n f1.type [v1] = some y1 := by
  rcases Go.Deep.open_slice ht h with h0 | ⟨a, len, cap, m, n, D, Pl, rfl, hb, hl, hm, hmm, rfl, hx⟩
  · exact Or.inl h0.1
  refine .inr ⟨a, len, cap, m, n - 1, rfl, hl, hm, hmm, fun i hi => ?_⟩
  obtain ⟨cs', h1, h2⟩ := hx i hi
  rw [ce] at h1
  obtain ⟨_, hlen, hcell⟩ := World.cells?_some h1
  obtain ⟨xs, k, hk, hxy, _, hxl, hf⟩ := DataW.trod_struct he h2
  have hk' : k = n - 1 := by omega
  subst hk'
  match xs, hxl, cs', hlen with
  | [y0, y1], _, [v0, v1], _ =>
    have g0 := hf 0 f0 rfl
    have g1 := hf 1 f1 rfl
    simp [o0, o1, c0, c1] at g0 g1
    have e0 := hcell 0 (by omega)
    have e1 := hcell 1 (by omega)
    rw [Go.Deep.add_add] at e0 e1
    exact ⟨v0, v1, y0, y1, by simpa using e0, by simpa using e1, g0, g1⟩
end
section
variable {H : Type} {enc : TypeId × Value → H} {W : World}
set_option maxRecDepth 100000 in
theorem open_gots {v : Value} {d : DataW H} {p : List MemPlace} {base : Nat}
    (hv : Value.okWide Tryd.prog W .any base 24 v) (h : DataW.Trod enc Tryd.prog W 0 (fun _ => true) true 24 v d p) :
    ∃ A c rs, v = .slice A (List.length rs) c ∧ rs.length ≤ c ∧ c ≤ maxLen ∧ SlV W W.heap.size A (gvs rs) ∧ GIn W W.heap.size rs := by
  obtain ⟨a0, len0, cap0, rfl⟩ := okWide_slice Tryd.underlying24 hv
  obtain ⟨fuel, hf⟩ := h
  rcases open_slice2 Tryd.underlying24 Tryd.underlying28 (by kernel_rfl) (by kernel_rfl) (by kernel_rfl) (by kernel_rfl) (by kernel_rfl) hf with hcs | ⟨a, l, c, m, n, hcs, hl, hm, hmm, hx⟩
  · simp [Value.cells] at hcs
    obtain ⟨rfl, rfl, rfl⟩ := hcs
    exact ⟨none, 0, [], rfl, Nat.le_refl _, Nat.zero_le _, fun h => absurd h (by simp [gvs]), fun r hr => by cases hr⟩
  · simp [Value.cells] at hcs
    obtain ⟨rfl, rfl, rfl⟩ := hcs
    have hmc : m = cap0 := by simpa using hmm
    haveI : Inhabited GotR := ⟨⟨0, none, 0, []⟩⟩
    obtain ⟨f, hfr⟩ := Go.Deep.choose_lt (α := GotR) (n := len0) (p := fun i r => (W.cell? (a.add (i * 2)) = some (.int .i64 r.e) ∧ W.cell? (a.add (i * 2 + 1)) = some (.slice r.A r.l.length r.c)) ∧ BIn W W.heap.size r) (fun i hi => by
      obtain ⟨v0, v1, y0, y1, k0, k1, t0, t1⟩ := hx i (by omega)
      obtain ⟨e, e0, -, -⟩ := DataW.trod_int Tryd.underlying25 t0
      obtain ⟨r, e2, q1, q2, q3⟩ := bytes_cells Tryd.underlying26 Tryd.underlying5 (by kernel_rfl) t1
      obtain rfl : v0 = _ := by simpa using e0
      subst e2
      exact ⟨⟨e, r.A, r.c, r.l⟩, ⟨k0, k1⟩, q3, q1, q2⟩)
    have hlen : ((List.range len0).map f).length = len0 := by simp
    refine ⟨some a, cap0, (List.range len0).map f, by rw [hlen], by omega, hm, fun hp => ?_, fun r hr => ?_⟩
    · rw [gvs_length, hlen] at hp
      have h0 := (hfr 0 (by omega)).1.1
      have hs := addr_plain h0 (by omega)
      obtain ⟨b, off, spot⟩ := a
      dsimp only at hs
      subst hs
      refine ⟨b, off, rfl, ?_, fun j hj => ?_⟩
      · have := World.block_lt_of_cell? W _ h0
        rwa [Go.WideShapes.add_plain] at this
      · have hjl : j < len0 * 2 := by rw [gvs_length, hlen] at hj; exact hj
        have e1 : j = (j / 2) * 2 + j % 2 := by omega
        have hk : j / 2 < len0 := by omega
        have hget : (gvs ((List.range len0).map f))[j]? = (f (j / 2)).vs[j % 2]? := by
          have h2 := flat_get GotR.vs 2 (fun _ => rfl) ((List.range len0).map f) (j / 2) (j % 2) (by omega)
          rw [← e1] at h2
          rw [show gvs ((List.range len0).map f) = ((List.range len0).map f).flatMap GotR.vs from rfl, h2]
          simp [hk]
        rw [List.getElem?_eq_getElem hj] at hget
        obtain ⟨⟨q0, q1⟩, -⟩ := hfr (j / 2) hk
        simp only [Go.WideShapes.add_plain] at q0 q1
        have h3 : j % 2 = 0 ∨ j % 2 = 1 := by omega
        rcases h3 with h3 | h3
        · rw [h3] at hget
          have e9 := Option.some.inj (show some _ = some (Value.int .i64 (f (j / 2)).e) from hget)
          rw [e9, show off + j = off + j / 2 * 2 by omega]
          exact q0
        · rw [h3] at hget
          have e9 := Option.some.inj (show some _ = some (Value.slice (f (j / 2)).A (f (j / 2)).l.length (f (j / 2)).c) from hget)
          rw [e9, show off + j = off + (j / 2 * 2 + 1) by omega]
          exact q1
    · obtain ⟨i, hi, rfl⟩ := List.mem_map.1 hr
      exact (hfr i (List.mem_range.1 hi)).2
set_option maxRecDepth 100000 in
theorem open_got {v : Value} {d : DataW H} {p : List MemPlace} {base : Nat}
    (hv : Value.okWide Tryd.prog W .any base 28 v) (h : DataW.Trod enc Tryd.prog W 0 (fun _ => true) true 28 v d p) :
    ∃ r : GotR, v = r.v ∧ BIn W W.heap.size r := by
  obtain ⟨v0, v1, y0, y1, n, rfl, t0, t1⟩ := open_agg2 Tryd.underlying28 (by kernel_rfl) (by kernel_rfl) hv h
  obtain ⟨e, e0, -, -⟩ := DataW.trod_int Tryd.underlying25 t0
  obtain ⟨r, e2, q1, q2, q3⟩ := bytes_cells Tryd.underlying26 Tryd.underlying5 (by kernel_rfl) t1
  obtain rfl : v0 = _ := by simpa using e0
  subst e2
  exact ⟨⟨e, r.A, r.c, r.l⟩, rfl, q3, q1, q2⟩
end
end Go.Proofs.YtdjleimndolonaaDoor.nwt
