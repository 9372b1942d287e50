/-
  What an argument that is an anchor is, read off the row's own words: five integers, a text, a row of homes that hold rows of integers. Conditions: none.
  What an argument that is an image, a row of images, or a record is, read off the row's own words. Conditions: none.
  An array of five, of three integers as an argument, read off the row's own words. Conditions: none.
-/
import Derived.Test.YtpcadoekhoediaaGreatDoorProg
import Derived.Test.YtpcadoekhoediaaGreatDoorGAn
import Derived.Test.YtpcadoekhoediaaGreatDoorOpen
import Derived.Test.YtpcadoekhoediaaGreatDoorSlices
import Derived.Test.YtpcadoekhoediaaGreatDoorGeo
import Derived.Deep.SlicePairs
import Derived.Lib.SmallJoins
import Derived.Test.YtpcadoekhoediaaGreatDoorRcV
import Derived.Laws.IdiomArrays
namespace Go.Proofs.YtpcadoekhoediaaGreatDoor.anc
open Go.RowKit Go.ChangeShapes Go.WideShapes Go.ChangeAt Go.Deep Go.Joins

theorem array7 {α : Type} {cs : Array α} (h : cs.size = 7) : ∃ c0 c1 c2 c3 c4 c5 c6, cs = #[c0, c1, c2, c3, c4, c5, c6] := by
  obtain ⟨l⟩ := cs
  match l, h with
  | [c0, c1, c2, c3, c4, c5, c6], _ => exact ⟨c0, c1, c2, c3, c4, c5, c6, rfl⟩
section
variable {H : Type} {enc : TypeId × Value → H} {P : Program} {w : World} {base : Nat} {spare : Nat → Bool} {held : Bool}
theorem open_agg7 {r : Reach} {b0 : Nat} {t : TypeId} {f0 f1 f2 f3 f4 f5 f6 : Field} {v : Value} {d : DataW H} {p : List MemPlace} (hs : P.underlying t = some (.struct #[f0, f1, f2, f3, f4, f5, f6])) (hone : oneCellFields P #[f0, f1, f2, f3, f4, f5, f6] = true) (hC : P.cellsOf t = 7)
    (hv : Value.okWide P w r b0 t v) (h : DataW.Trod enc P w base spare held t v d p) :
    ∃ (v0 v1 v2 v3 v4 v5 v6 : Value) (y0 y1 y2 y3 y4 y5 y6 : DataW H × List MemPlace) (n : Nat), v = .agg #[v0, v1, v2, v3, v4, v5, v6] ∧
      DataW.trod enc P w base spare held n f0.type [v0] = some y0 ∧ DataW.trod enc P w base spare held n f1.type [v1] = some y1 ∧ DataW.trod enc P w base spare held n f2.type [v2] = some y2 ∧ DataW.trod enc P w base spare held n f3.type [v3] = some y3 ∧ DataW.trod enc P w base spare held n f4.type [v4] = some y4 ∧ DataW.trod enc P w base spare held n f5.type [v5] = some y5 ∧ DataW.trod enc P w base spare held n f6.type [v6] = some y6 := by
  obtain ⟨cs, rfl, hsz⟩ := okWide_struct hs hv
  obtain ⟨c0, c1, c2, c3, c4, c5, c6, rfl⟩ := array7 (hsz.trans hC)
  obtain ⟨fuel, hf⟩ := h
  obtain ⟨xs, n, _, _, hl, hlen, hg⟩ := DataW.trod_struct hs hf
  obtain ⟨o0, k0⟩ := hone_of hone 0 f0 rfl
  obtain ⟨o1, k1⟩ := hone_of hone 1 f1 rfl
  obtain ⟨o2, k2⟩ := hone_of hone 2 f2 rfl
  obtain ⟨o3, k3⟩ := hone_of hone 3 f3 rfl
  obtain ⟨o4, k4⟩ := hone_of hone 4 f4 rfl
  obtain ⟨o5, k5⟩ := hone_of hone 5 f5 rfl
  obtain ⟨o6, k6⟩ := hone_of hone 6 f6 rfl
  match xs, hlen with
  | [y0, y1, y2, y3, y4, y5, y6], _ =>
    have h0 := hg 0 f0 rfl
    have h1 := hg 1 f1 rfl
    have h2 := hg 2 f2 rfl
    have h3 := hg 3 f3 rfl
    have h4 := hg 4 f4 rfl
    have h5 := hg 5 f5 rfl
    have h6 := hg 6 f6 rfl
    exact ⟨c0, c1, c2, c3, c4, c5, c6, y0, y1, y2, y3, y4, y5, y6, n, rfl, by simpa [Value.cells, o0, k0] using h0, by simpa [Value.cells, o1, k1] using h1, by simpa [Value.cells, o2, k2] using h2, by simpa [Value.cells, o3, k3] using h3, by simpa [Value.cells, o4, k4] using h4, by simpa [Value.cells, o5, k5] using h5, by simpa [Value.cells, o6, k6] using h6⟩
theorem open_slice3 {t e : TypeId} {f0 f1 f2 : Field} {fuel : Nat} {cs : List Value} {x : DataW H × List MemPlace} (ht : P.underlying t = some (.slice e)) (he : P.underlying e = some (.struct #[f0, f1, f2]))
    (ce : P.cellsOf e = 3) (o0 : f0.offset = 0) (o1 : f1.offset = 1) (o2 : f2.offset = 2) (c0 : P.cellsOf f0.type = 1) (c1 : P.cellsOf f1.type = 1) (c2 : P.cellsOf f2.type = 1)
    (h : DataW.trod enc P w base spare held fuel t cs = some x) :
    (cs = [.slice none 0 0]) ∨
    ∃ (a : Addr) (len cap m n : Nat), cs = [.slice (some a) len cap] ∧ len ≤ cap ∧ cap ≤ maxLen ∧ m = (if spare a.block then cap else len) ∧
      ∀ i, i < m → ∃ (v0 v1 v2 : Value) (y0 y1 y2 : DataW H × List MemPlace), w.cell? (a.add (i * 3)) = some v0 ∧ w.cell? (a.add (i * 3 + 1)) = some v1 ∧ w.cell? (a.add (i * 3 + 2)) = some v2 ∧
        DataW.trod enc P w base spare held n f0.type [v0] = some y0 ∧ DataW.trod enc P w base spare held n f1.type [v1] = some y1 ∧ DataW.trod enc P w base spare held n f2.type [v2] = some y2 := by
  rcases Go.Deep.open_slice ht h with h0 | ⟨a, len, cap, m, n, D, Pl, rfl, hb, hl, hm, hmm, rfl, hx⟩
  · exact Or.inl h0.1
  refine .inr ⟨a, len, cap, m, n - 1, rfl, hl, hm, hmm, fun i hi => ?_⟩
  obtain ⟨cs', h1, h2⟩ := hx i hi
  rw [ce] at h1
  obtain ⟨_, hlen, hcell⟩ := World.cells?_some h1
  obtain ⟨xs, k, hk, hxy, _, hxl, hf⟩ := DataW.trod_struct he h2
  have hk' : k = n - 1 := by omega
  subst hk'
  match xs, hxl, cs', hlen with
  | [y0, y1, y2], _, [v0, v1, v2], _ =>
    have g0 := hf 0 f0 rfl
    have g1 := hf 1 f1 rfl
    have g2 := hf 2 f2 rfl
    simp [o0, o1, o2, c0, c1, c2] at g0 g1 g2
    have e0 := hcell 0 (by omega)
    have e1 := hcell 1 (by omega)
    have e2 := hcell 2 (by omega)
    rw [Go.Deep.add_add] at e0 e1 e2
    exact ⟨v0, v1, v2, y0, y1, y2, by simpa using e0, by simpa using e1, by simpa using e2, g0, g1, g2⟩
end
section
variable {H : Type} {enc : TypeId × Value → H} {W : World}
set_option maxRecDepth 100000 in
theorem ints_cells {v : Value} {x : DataW H × List MemPlace} {fuel : Nat} {held : Bool} (hf : DataW.trod enc Tryz.prog W 0 (fun _ => true) held fuel 41 [v] = some x) :
    ∃ (A : Option Addr) (c : Nat) (l : List Int), v = .slice A l.length c ∧ l.length ≤ c ∧ c ≤ maxLen ∧ SlV W W.heap.size A (ints l) := by
  rcases open_ints Tryz.underlying41 Tryz.underlying3 (by kernel_rfl) hf with ⟨hcs, _⟩ | ⟨x, l, c, zs, hcs, _, hl, hm, hz, _, hcell, hwz⟩
  · obtain rfl : v = .slice none 0 0 := by simpa using hcs
    exact ⟨none, 0, [], rfl, Nat.le_refl _, Nat.zero_le _, SlV.nil _ _ _⟩
  · obtain rfl : v = .slice (some x) l c := by simpa using hcs
    have hz' : zs.length = c := by simpa using hz
    have hlen : (zs.take l).length = l := by rw [List.length_take]; omega
    refine ⟨some x, c, zs.take l, by rw [hlen], by omega, hm, fun hp => ?_⟩
    rw [ints_length, hlen] at hp
    obtain ⟨b, off, rfl, hcl⟩ := ints_at hcell (by omega)
    refine ⟨b, off, rfl, World.block_lt_of_cell? W _ (hcl 0 (by omega)), fun j hj => ?_⟩
    rw [ints_length, hlen] at hj
    rw [hcl j (by omega), ints_get]
    simp [List.getD, show j < zs.length by omega]
theorem addr_plain {a : Addr} {k : Nat} {v : Value} (h : W.cell? (a.add k) = some v) (hk : k = 0) : a.spot = none := by
  subst hk
  obtain ⟨b, off, spot⟩ := a
  simpa [Addr.add] using World.cell?_spot h
set_option maxRecDepth 100000 in
theorem open_homes {v : Value} {x : DataW H × List MemPlace} {fuel : Nat} {held : Bool} (hf : DataW.trod enc Tryz.prog W 0 (fun _ => true) held fuel 24 [v] = some x) :
    ∃ A c rs, v = .slice A (List.length rs) c ∧ rs.length ≤ c ∧ c ≤ maxLen ∧ SlV W W.heap.size A (hvs rs) ∧ HIn W W.heap.size rs := by
  rcases open_slice3 Tryz.underlying24 Tryz.underlying64 (by kernel_rfl) (by kernel_rfl) (by kernel_rfl) (by kernel_rfl) (by kernel_rfl) (by kernel_rfl) (by kernel_rfl) hf with hcs | ⟨a, l, c, m, n, hcs, hl, hm, hmm, hx⟩
  · obtain rfl : v = .slice none 0 0 := by simpa using hcs
    exact ⟨none, 0, [], rfl, Nat.le_refl _, Nat.zero_le _, fun h => absurd h (by simp [hvs]), HIn.nil _ _⟩
  · obtain rfl : v = .slice (some a) l c := by simpa using hcs
    have hmc : m = c := by simpa using hmm
    haveI : Inhabited HomR := ⟨⟨none, 0, [], 0, 0⟩⟩
    obtain ⟨f, hfr⟩ := Go.Deep.choose_lt (α := HomR) (n := l) (p := fun i r => (W.cell? (a.add (i * 3)) = some (.slice r.A r.ps.length r.c) ∧ W.cell? (a.add (i * 3 + 1)) = some (.int .i64 r.nx) ∧ W.cell? (a.add (i * 3 + 2)) = some (.int .i64 r.rt)) ∧ PIn W W.heap.size r) (fun i hi => by
      obtain ⟨v0, v1, v2, y0, y1, y2, k0, k1, k2, t0, t1, t2⟩ := hx i (by omega)
      obtain ⟨A, c0, ps, e0, l1, m1, s1⟩ := ints_cells t0
      obtain ⟨nx, e1, -, -⟩ := DataW.trod_int Tryz.underlying3 t1
      obtain ⟨rt, e2, -, -⟩ := DataW.trod_int Tryz.underlying3 t2
      obtain rfl : v1 = _ := by simpa using e1
      obtain rfl : v2 = _ := by simpa using e2
      subst e0
      exact ⟨⟨A, c0, ps, nx, rt⟩, ⟨k0, k1, k2⟩, s1, l1, m1⟩)
    have hlen : ((List.range l).map f).length = l := by simp
    refine ⟨some a, c, (List.range l).map f, by rw [hlen], by omega, hm, fun hp => ?_, fun r hr => ?_⟩
    · rw [hvs_length, hlen] at hp
      have h0 := (hfr 0 (by omega)).1.1
      have hs := addr_plain h0 (by omega)
      obtain ⟨b, off, spot⟩ := a
      dsimp only at hs
      subst hs
      refine ⟨b, off, rfl, ?_, fun j hj => ?_⟩
      · have := World.block_lt_of_cell? W _ h0
        rwa [Go.WideShapes.add_plain] at this
      · have hjl : j < l * 3 := by rw [hvs_length, hlen] at hj; exact hj
        have e1 : j = (j / 3) * 3 + j % 3 := by omega
        have hk : j / 3 < l := by omega
        have hget : (hvs ((List.range l).map f))[j]? = (f (j / 3)).vs[j % 3]? := by
          have h2 := flat_get HomR.vs 3 (fun _ => rfl) ((List.range l).map f) (j / 3) (j % 3) (by omega)
          rw [← e1] at h2
          rw [show hvs ((List.range l).map f) = ((List.range l).map f).flatMap HomR.vs from rfl, h2]
          simp [hk]
        rw [List.getElem?_eq_getElem hj] at hget
        obtain ⟨⟨q0, q1, q2⟩, -⟩ := hfr (j / 3) hk
        simp only [Go.WideShapes.add_plain] at q0 q1 q2
        have h3 : j % 3 = 0 ∨ j % 3 = 1 ∨ j % 3 = 2 := by omega
        rcases h3 with h3 | h3 | h3
        · rw [h3] at hget
          have e9 := Option.some.inj (show some _ = some (Value.slice (f (j / 3)).A (f (j / 3)).ps.length (f (j / 3)).c) from hget)
          rw [e9, show off + j = off + j / 3 * 3 by omega]
          exact q0
        · rw [h3] at hget
          have e9 := Option.some.inj (show some _ = some (Value.int .i64 (f (j / 3)).nx) from hget)
          rw [e9, show off + j = off + (j / 3 * 3 + 1) by omega]
          exact q1
        · rw [h3] at hget
          have e9 := Option.some.inj (show some _ = some (Value.int .i64 (f (j / 3)).rt) from hget)
          rw [e9, show off + j = off + (j / 3 * 3 + 2) by omega]
          exact q2
    · obtain ⟨i, hi, rfl⟩ := List.mem_map.1 hr
      exact (hfr i (List.mem_range.1 hi)).2
set_option maxRecDepth 100000 in
theorem open_anchor {v : Value} {d : DataW H} {p : List MemPlace} {base : Nat}
    (hv : Value.okWide Tryz.prog W .any base 26 v) (h : DataW.Trod enc Tryz.prog W 0 (fun _ => true) true 26 v d p) :
    ∃ x : AV, v = x.v ∧ x.In W W.heap.size ∧ x.lab.size ≤ maxLen := by
  obtain ⟨v0, v1, v2, v3, v4, v5, v6, y0, y1, y2, y3, y4, y5, y6, n, rfl, h0, h1, h2, h3, h4, h5, h6⟩ := open_agg7 Tryz.underlying26 (by kernel_rfl) (by kernel_rfl) hv h
  obtain ⟨a0, e0, -, -⟩ := DataW.trod_int Tryz.underlying3 h0
  obtain ⟨a1, e1, -, -⟩ := DataW.trod_int Tryz.underlying3 h1
  obtain ⟨a2, e2, -, -⟩ := DataW.trod_int Tryz.underlying3 h2
  obtain ⟨a3, e3, -, -⟩ := DataW.trod_int Tryz.underlying3 h3
  obtain ⟨a4, e4, -, -⟩ := DataW.trod_int Tryz.underlying3 h4
  obtain ⟨lab, e5, -, wl⟩ := DataW.trod_string Tryz.underlying9 h5
  obtain ⟨A, c, rs, rfl, b1, b2, b3, b4⟩ := open_homes h6
  obtain rfl : v0 = _ := by simpa using e0
  obtain rfl : v1 = _ := by simpa using e1
  obtain rfl : v2 = _ := by simpa using e2
  obtain rfl : v3 = _ := by simpa using e3
  obtain rfl : v4 = _ := by simpa using e4
  obtain rfl : v5 = _ := by simpa using e5
  exact ⟨⟨a0, a1, a2, a3, a4, lab, A, c, rs⟩, rfl, ⟨b3, b4, b1, b2⟩, wl⟩
end
end Go.Proofs.YtpcadoekhoediaaGreatDoor.anc

namespace Go.Proofs.YtpcadoekhoediaaGreatDoor.lrc
open Go.RowKit Go.ChangeShapes Go.WideShapes Go.ChangeAt Go.Deep Go.Joins
open Go.Proofs.YtpcadoekhoediaaGreatDoor.anc (flat_get)
open Go.Proofs.YtpcadoekhoediaaGreatDoor.img

section
variable {W : World}
theorem addr_plain {a : Addr} {k : Nat} {v : Value} (h : W.cell? (a.add k) = some v) (hk : k = 0) : a.spot = none := by
  subst hk
  obtain ⟨b, off, spot⟩ := a
  simpa [Addr.add] using World.cell?_spot h
end
section
variable {H : Type} {enc : TypeId × Value → H} {P : Program} {w : World} {base : Nat} {spare : Nat → Bool} {held : Bool}
theorem open_slice3 {t e : TypeId} {f0 f1 f2 : Field} {fuel : Nat} {cs : List Value} {x : DataW H × List MemPlace} (ht : P.underlying t = some (.slice e)) (he : P.underlying e = some (.struct #[f0, f1, f2]))
    (ce : P.cellsOf e = 3) (o0 : f0.offset = 0) (o1 : f1.offset = 1) (o2 : f2.offset = 2) (c0 : P.cellsOf f0.type = 1) (c1 : P.cellsOf f1.type = 1) (c2 : P.cellsOf f2.type = 1)
    (h : DataW.trod enc P w base spare held fuel t cs = some x) :
    (cs = [.slice none 0 0]) ∨
    ∃ (a : Addr) (len cap m n : Nat), cs = [.slice (some a) len cap] ∧ len ≤ cap ∧ cap ≤ maxLen ∧ m = (if spare a.block then cap else len) ∧
      ∀ i, i < m → ∃ (v0 v1 v2 : Value) (y0 y1 y2 : DataW H × List MemPlace), w.cell? (a.add (i * 3)) = some v0 ∧ w.cell? (a.add (i * 3 + 1)) = some v1 ∧ w.cell? (a.add (i * 3 + 2)) = some v2 ∧
        DataW.trod enc P w base spare held n f0.type [v0] = some y0 ∧ DataW.trod enc P w base spare held n f1.type [v1] = some y1 ∧ DataW.trod enc P w base spare held n f2.type [v2] = some y2 := by
  rcases Go.Deep.open_slice ht h with h0 | ⟨a, len, cap, m, n, D, Pl, rfl, hb, hl, hm, hmm, rfl, hx⟩
  · exact Or.inl h0.1
  refine .inr ⟨a, len, cap, m, n - 1, rfl, hl, hm, hmm, fun i hi => ?_⟩
  obtain ⟨cs', h1, h2⟩ := hx i hi
  rw [ce] at h1
  obtain ⟨_, hlen, hcell⟩ := World.cells?_some h1
  obtain ⟨xs, k, hk, hxy, _, hxl, hf⟩ := DataW.trod_struct he h2
  have hk' : k = n - 1 := by omega
  subst hk'
  match xs, hxl, cs', hlen with
  | [y0, y1, y2], _, [v0, v1, v2], _ =>
    have g0 := hf 0 f0 rfl
    have g1 := hf 1 f1 rfl
    have g2 := hf 2 f2 rfl
    simp [o0, o1, o2, c0, c1, c2] at g0 g1 g2
    have e0 := hcell 0 (by omega)
    have e1 := hcell 1 (by omega)
    have e2 := hcell 2 (by omega)
    rw [Go.Deep.add_add] at e0 e1 e2
    exact ⟨v0, v1, v2, y0, y1, y2, by simpa using e0, by simpa using e1, by simpa using e2, g0, g1, g2⟩
theorem array8 {α : Type} {cs : Array α} (h : cs.size = 8) : ∃ c0 c1 c2 c3 c4 c5 c6 c7, cs = #[c0, c1, c2, c3, c4, c5, c6, c7] := by
  obtain ⟨l⟩ := cs
  match l, h with
  | [c0, c1, c2, c3, c4, c5, c6, c7], _ => exact ⟨c0, c1, c2, c3, c4, c5, c6, c7, rfl⟩
end
section
variable {H : Type} {enc : TypeId × Value → H} {W : World}
set_option maxRecDepth 100000 in
theorem open_img {v : Value} {d : DataW H} {p : List MemPlace} {base : Nat}
    (hv : Value.okWide Tryz.prog W .any base 32 v) (h : DataW.Trod enc Tryz.prog W 0 (fun _ => true) true 32 v d p) :
    ∃ r : ImR, v = .agg #[.int .i64 r.z, .int .i64 r.wh, .slice r.A r.l.length r.c] ∧ BIn W W.heap.size r := by
  obtain ⟨v0, v1, v2, y0, y1, y2, n, rfl, -, -, t0, t1, t2⟩ := open_agg3 Tryz.underlying32 (by kernel_rfl) (by kernel_rfl) hv h
  obtain ⟨a, e0, -, -⟩ := DataW.trod_int Tryz.underlying3 t0
  obtain ⟨s, e1, -, -⟩ := DataW.trod_int Tryz.underlying3 t1
  obtain ⟨r, e2, q1, q2, q3⟩ := bytes_cells Tryz.underlying28 Tryz.underlying5 (by kernel_rfl) t2
  obtain rfl : v0 = _ := by simpa using e0
  obtain rfl : v1 = _ := by simpa using e1
  subst e2
  exact ⟨⟨a, s, r.A, r.c, r.l⟩, rfl, q3, q1, q2⟩
set_option maxRecDepth 100000 in
theorem open_rec {v : Value} {d : DataW H} {p : List MemPlace} {base : Nat}
    (hv : Value.okWide Tryz.prog W .any base 34 v) (h : DataW.Trod enc Tryz.prog W 0 (fun _ => true) true 34 v d p) :
    ∃ r : RcR, v = .agg #[.int .i64 r.kd, .int .i64 r.sq, .int .i64 r.ep, .int .i64 r.ps, .int .i64 r.nm, .int .i64 r.i.z, .int .i64 r.i.wh, .slice r.i.A r.i.l.length r.i.c] ∧ BIn W W.heap.size r.i := by
  obtain ⟨cs, rfl, hsz⟩ := okWide_struct Tryz.underlying34 hv
  obtain ⟨c0, c1, c2, c3, c4, c5, c6, c7, rfl⟩ := array8 (hsz.trans (by kernel_rfl))
  obtain ⟨fuel, hf⟩ := h
  obtain ⟨xs, n, _, _, hl, hlen, hg⟩ := DataW.trod_struct Tryz.underlying34 hf
  match xs, hlen with
  | [y0, y1, y2, y3, y4, y5], _ =>
    have h0 := hg 0 _ rfl
    have h1 := hg 1 _ rfl
    have h2 := hg 2 _ rfl
    have h3 := hg 3 _ rfl
    have h4 := hg 4 _ rfl
    have h5 := hg 5 _ rfl
    have k1 : Tryz.prog.cellsOf 3 = 1 := by kernel_rfl
    have k3 : Tryz.prog.cellsOf 32 = 3 := by kernel_rfl
    have k24 : Tryz.prog.cellsOf 28 = 1 := by kernel_rfl
    simp [Value.cells, k1, k3] at h0 h1 h2 h3 h4 h5
    obtain ⟨a0, e0, -, -⟩ := DataW.trod_int Tryz.underlying3 h0
    obtain ⟨a1, e1, -, -⟩ := DataW.trod_int Tryz.underlying3 h1
    obtain ⟨a2, e2, -, -⟩ := DataW.trod_int Tryz.underlying3 h2
    obtain ⟨a3, e3, -, -⟩ := DataW.trod_int Tryz.underlying3 h3
    obtain ⟨a4, e4, -, -⟩ := DataW.trod_int Tryz.underlying3 h4
    obtain ⟨zs, m, _, _, _, hlen2, hg2⟩ := DataW.trod_struct Tryz.underlying32 h5
    match zs, hlen2 with
    | [z0, z1, z2], _ =>
      have i0 := hg2 0 _ rfl
      have i1 := hg2 1 _ rfl
      have i2 := hg2 2 _ rfl
      simp [k1, k24] at i0 i1 i2
      obtain ⟨a5, e5, -, -⟩ := DataW.trod_int Tryz.underlying3 i0
      obtain ⟨a6, e6, -, -⟩ := DataW.trod_int Tryz.underlying3 i1
      obtain ⟨r, e7, q1, q2, q3⟩ := bytes_cells Tryz.underlying28 Tryz.underlying5 (by kernel_rfl) i2
      obtain rfl : c0 = _ := by simpa using e0
      obtain rfl : c1 = _ := by simpa using e1
      obtain rfl : c2 = _ := by simpa using e2
      obtain rfl : c3 = _ := by simpa using e3
      obtain rfl : c4 = _ := by simpa using e4
      obtain rfl : c5 = _ := by simpa using e5
      obtain rfl : c6 = _ := by simpa using e6
      obtain rfl : c7 = _ := by simpa using e7
      exact ⟨⟨a0, a1, a2, a3, a4, ⟨a5, a6, r.A, r.c, r.l⟩⟩, rfl, q3, q1, q2⟩
set_option maxRecDepth 100000 in
theorem open_imgs {v : Value} {d : DataW H} {p : List MemPlace} {base : Nat}
    (hv : Value.okWide Tryz.prog W .any base 53 v) (h : DataW.Trod enc Tryz.prog W 0 (fun _ => true) true 53 v d p) :
    ∃ A c rs, v = .slice A (List.length rs) c ∧ rs.length ≤ c ∧ c ≤ maxLen ∧ SlV W W.heap.size A (ivs rs) ∧ IIn W W.heap.size rs := by
  obtain ⟨a0, len0, cap0, rfl⟩ := okWide_slice Tryz.underlying53 hv
  obtain ⟨fuel, hf⟩ := h
  rcases open_slice3 Tryz.underlying53 Tryz.underlying32 (by kernel_rfl) (by kernel_rfl) (by kernel_rfl) (by kernel_rfl) (by kernel_rfl) (by kernel_rfl) (by kernel_rfl) hf with hcs | ⟨a, l, c, m, n, hcs, hl, hm, hmm, hx⟩
  · simp [Value.cells] at hcs
    obtain ⟨rfl, rfl, rfl⟩ := hcs
    exact ⟨none, 0, [], rfl, Nat.le_refl _, Nat.zero_le _, fun h => absurd h (by simp [ivs]), fun r hr => by cases hr⟩
  · simp [Value.cells] at hcs
    obtain ⟨rfl, rfl, rfl⟩ := hcs
    have hmc : m = cap0 := by simpa using hmm
    haveI : Inhabited ImR := ⟨⟨0, 0, none, 0, []⟩⟩
    obtain ⟨f, hfr⟩ := Go.Deep.choose_lt (α := ImR) (n := len0) (p := fun i r => (W.cell? (a.add (i * 3)) = some (.int .i64 r.z) ∧ W.cell? (a.add (i * 3 + 1)) = some (.int .i64 r.wh) ∧ W.cell? (a.add (i * 3 + 2)) = some (.slice r.A r.l.length r.c)) ∧ BIn W W.heap.size r) (fun i hi => by
      obtain ⟨v0, v1, v2, y0, y1, y2, k0, k1, k2, t0, t1, t2⟩ := hx i (by omega)
      obtain ⟨a0, e0, -, -⟩ := DataW.trod_int Tryz.underlying3 t0
      obtain ⟨a1, e1, -, -⟩ := DataW.trod_int Tryz.underlying3 t1
      obtain ⟨r, e2, q1, q2, q3⟩ := bytes_cells Tryz.underlying28 Tryz.underlying5 (by kernel_rfl) t2
      obtain rfl : v0 = _ := by simpa using e0
      obtain rfl : v1 = _ := by simpa using e1
      subst e2
      exact ⟨⟨a0, a1, r.A, r.c, r.l⟩, ⟨k0, k1, k2⟩, q3, q1, q2⟩)
    have hlen : ((List.range len0).map f).length = len0 := by simp
    refine ⟨some a, cap0, (List.range len0).map f, by rw [hlen], by omega, hm, fun hp => ?_, fun r hr => ?_⟩
    · rw [ivs_length, hlen] at hp
      have h0 := (hfr 0 (by omega)).1.1
      have hs := addr_plain h0 (by omega)
      obtain ⟨b, off, spot⟩ := a
      dsimp only at hs
      subst hs
      refine ⟨b, off, rfl, ?_, fun j hj => ?_⟩
      · have := World.block_lt_of_cell? W _ h0
        rwa [Go.WideShapes.add_plain] at this
      · have hjl : j < len0 * 3 := by rw [ivs_length, hlen] at hj; exact hj
        have e1 : j = (j / 3) * 3 + j % 3 := by omega
        have hk : j / 3 < len0 := by omega
        have hget : (ivs ((List.range len0).map f))[j]? = (f (j / 3)).vs[j % 3]? := by
          have h2 := flat_get ImR.vs 3 (fun _ => rfl) ((List.range len0).map f) (j / 3) (j % 3) (by omega)
          rw [← e1] at h2
          rw [show ivs ((List.range len0).map f) = ((List.range len0).map f).flatMap ImR.vs from rfl, h2]
          simp [hk]
        rw [List.getElem?_eq_getElem hj] at hget
        obtain ⟨⟨q0, q1, q2⟩, -⟩ := hfr (j / 3) hk
        simp only [Go.WideShapes.add_plain] at q0 q1 q2
        have h3 : j % 3 = 0 ∨ j % 3 = 1 ∨ j % 3 = 2 := by omega
        rcases h3 with h3 | h3 | h3
        · rw [h3] at hget
          have e9 := Option.some.inj (show some _ = some (Value.int .i64 (f (j / 3)).z) from hget)
          rw [e9, show off + j = off + j / 3 * 3 by omega]
          exact q0
        · rw [h3] at hget
          have e9 := Option.some.inj (show some _ = some (Value.int .i64 (f (j / 3)).wh) from hget)
          rw [e9, show off + j = off + (j / 3 * 3 + 1) by omega]
          exact q1
        · rw [h3] at hget
          have e9 := Option.some.inj (show some _ = some (Value.slice (f (j / 3)).A (f (j / 3)).l.length (f (j / 3)).c) from hget)
          rw [e9, show off + j = off + (j / 3 * 3 + 2) by omega]
          exact q2
    · obtain ⟨i, hi, rfl⟩ := List.mem_map.1 hr
      exact (hfr i (List.mem_range.1 hi)).2
end
end Go.Proofs.YtpcadoekhoediaaGreatDoor.lrc

namespace Go.Proofs.YtpcadoekhoediaaGreatDoor.prr
open Go.RowKit Go.ChangeShapes Go.WideShapes Go.ChangeAt Go.Deep Go.Joins

section
variable {H : Type} {enc : TypeId × Value → H} {P : Program} {w W : World}
theorem okWide_arr {r : Reach} {base n : Nat} {t e : TypeId} {v : Value} (ht : P.underlying t = some (.array n e)) (h : Value.okWide P w r base t v) : ∃ cs, v = .agg cs ∧ cs.size = P.cellsOf t := by
  unfold Value.okWide at h
  rw [ht] at h
  obtain ⟨cs, h1, h2, -⟩ := h
  exact ⟨cs, h1, h2⟩
theorem arr_ints {n fuel : Nat} {t : TypeId} {cs : List Value} {x : DataW H × List MemPlace} (ht : Tryz.prog.underlying t = some (.array n 3)) (hl : cs.length = n)
    (h : DataW.trod enc Tryz.prog W 0 (fun _ => true) true fuel t cs = some x) (i : Nat) (hi : i < n) : ∃ a : Int, cs[i]? = some (.int .i64 a) := by
  obtain ⟨xs, m, -, -, -, h1, h2⟩ := DataW.trod_array ht h
  have k1 : Tryz.prog.cellsOf 3 = 1 := by kernel_rfl
  have h3 := h2 i hi
  rw [k1, Nat.mul_one, List.getElem?_eq_getElem (by omega)] at h3
  have h4 : (cs.drop i).take 1 = [cs[i]'(by omega)] := by
    rw [List.drop_eq_getElem_cons (by omega)]
    rfl
  rw [h4] at h3
  obtain ⟨a, e0, -, -⟩ := DataW.trod_int Tryz.underlying3 h3
  have e1 : cs[i]'(by omega) = .int .i64 a := by simpa using e0
  exact ⟨a, by rw [List.getElem?_eq_getElem (by omega), e1]⟩
set_option maxRecDepth 100000 in
theorem open_arr3 {v : Value} {d : DataW H} {p : List MemPlace} {base : Nat} (hv : Value.okWide Tryz.prog W .any base 54 v) (h : DataW.Trod enc Tryz.prog W 0 (fun _ => true) true 54 v d p) :
    ∃ a0 a1 a2 : Int, v = .agg #[.int .i64 a0, .int .i64 a1, .int .i64 a2] := by
  obtain ⟨cs, rfl, hsz⟩ := okWide_arr Tryz.underlying54 hv
  have hs : cs.size = 3 := hsz.trans (by kernel_rfl)
  obtain ⟨fuel, hf⟩ := h
  obtain ⟨l⟩ := cs
  match l, hs with
  | [c0, c1, c2], _ =>
    have hg := arr_ints Tryz.underlying54 (by rfl) hf
    obtain ⟨a0, e0⟩ := hg 0 (by omega)
    obtain ⟨a1, e1⟩ := hg 1 (by omega)
    obtain ⟨a2, e2⟩ := hg 2 (by omega)
    simp [Value.cells] at e0 e1 e2
    subst e0 e1 e2
    exact ⟨a0, a1, a2, rfl⟩
set_option maxRecDepth 100000 in
theorem open_arr5 {v : Value} {d : DataW H} {p : List MemPlace} {base : Nat} (hv : Value.okWide Tryz.prog W .any base 35 v) (h : DataW.Trod enc Tryz.prog W 0 (fun _ => true) true 35 v d p) :
    ∃ a0 a1 a2 a3 a4 : Int, v = .agg #[.int .i64 a0, .int .i64 a1, .int .i64 a2, .int .i64 a3, .int .i64 a4] := by
  obtain ⟨cs, rfl, hsz⟩ := okWide_arr Tryz.underlying35 hv
  have hs : cs.size = 5 := hsz.trans (by kernel_rfl)
  obtain ⟨fuel, hf⟩ := h
  obtain ⟨l⟩ := cs
  match l, hs with
  | [c0, c1, c2, c3, c4], _ =>
    have hg := arr_ints Tryz.underlying35 (by rfl) hf
    obtain ⟨a0, e0⟩ := hg 0 (by omega)
    obtain ⟨a1, e1⟩ := hg 1 (by omega)
    obtain ⟨a2, e2⟩ := hg 2 (by omega)
    obtain ⟨a3, e3⟩ := hg 3 (by omega)
    obtain ⟨a4, e4⟩ := hg 4 (by omega)
    simp [Value.cells] at e0 e1 e2 e3 e4
    subst e0 e1 e2 e3 e4
    exact ⟨a0, a1, a2, a3, a4, rfl⟩
end
end Go.Proofs.YtpcadoekhoediaaGreatDoor.prr
