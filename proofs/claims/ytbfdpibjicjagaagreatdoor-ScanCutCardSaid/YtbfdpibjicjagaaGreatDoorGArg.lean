/-
  What an argument that is an anchor is, read off the row's own words: five integers, a text, a row of homes that hold rows of integers. Conditions: none.
  What an argument that is a reading, or a row of readings, is, read off the row's own words: an error, a slice of bytes. Conditions: none.
-/
import Derived.Test.YtbfdpibjicjagaaGreatDoorProg
import Derived.Test.YtbfdpibjicjagaaGreatDoorGAn
import Derived.Test.YtbfdpibjicjagaaGreatDoorOpen
import Derived.Test.YtbfdpibjicjagaaGreatDoorSlices
import Derived.Test.YtbfdpibjicjagaaGreatDoorGeo
import Derived.Deep.SlicePairs
import Derived.Lib.SmallJoins
import Derived.Test.YtbfdpibjicjagaaGreatDoorGNw
set_option maxRecDepth 100000
namespace Go.Proofs.YtbfdpibjicjagaaGreatDoor.anc
open Go.RowKit Go.ChangeShapes Go.WideShapes Go.ChangeAt Go.Deep Go.Joins
theorem array7 {α : Type} {cs : Array α} (h : cs.size = 7) : ∃ c0 c1 c2 c3 c4 c5 c6, cs = #[c0, c1, c2, c3, c4, c5, c6] := by
 obtain ⟨l⟩ := cs
 match l, h with
 | [c0, c1, c2, c3, c4, c5, c6], _ => exact ⟨c0, c1, c2, c3, c4, c5, c6, rfl⟩
section
variable {H : Type} {enc : TypeId × Value → H} {P : Program} {w : World} {base : Nat} {spare : Nat → Bool} {held : Bool}
theorem open_agg7 {r : Reach} {b0 : Nat} {t : TypeId} {f0 f1 f2 f3 f4 f5 f6 : Field} {v : Value} {d : DataW H} {p : List MemPlace} (hs : P.underlying t = some (.struct #[f0, f1, f2, f3, f4, f5, f6])) (hone : oneCellFields P #[f0, f1, f2, f3, f4, f5, f6] = true) (hC : P.cellsOf t = 7)
  (hv : Value.okWide P w r b0 t v) (h : DataW.Trod enc P w base spare held t v d p) :
  ∃ (v0 v1 v2 v3 v4 v5 v6 : Value) (y0 y1 y2 y3 y4 y5 y6 : DataW H × List MemPlace) (n : Nat), v = .agg #[v0, v1, v2, v3, v4, v5, v6] ∧
   DataW.trod enc P w base spare held n f0.type [v0] = some y0 ∧ DataW.trod enc P w base spare held n f1.type [v1] = some y1 ∧ DataW.trod enc P w base spare held n f2.type [v2] = some y2 ∧ DataW.trod enc P w base spare held n f3.type [v3] = some y3 ∧ DataW.trod enc P w base spare held n f4.type [v4] = some y4 ∧ DataW.trod enc P w base spare held n f5.type [v5] = some y5 ∧ DataW.trod enc P w base spare held n f6.type [v6] = some y6 := by
 obtain ⟨cs, rfl, hsz⟩ := okWide_struct hs hv
 obtain ⟨c0, c1, c2, c3, c4, c5, c6, rfl⟩ := array7 (hsz.trans hC)
 obtain ⟨fuel, hf⟩ := h
 obtain ⟨xs, n, _, _, hl, hlen, hg⟩ := DataW.trod_struct hs hf
 obtain ⟨o0, k0⟩ := hone_of hone 0 f0 rfl
 obtain ⟨o1, k1⟩ := hone_of hone 1 f1 rfl
 obtain ⟨o2, k2⟩ := hone_of hone 2 f2 rfl
 obtain ⟨o3, k3⟩ := hone_of hone 3 f3 rfl
 obtain ⟨o4, k4⟩ := hone_of hone 4 f4 rfl
 obtain ⟨o5, k5⟩ := hone_of hone 5 f5 rfl
 obtain ⟨o6, k6⟩ := hone_of hone 6 f6 rfl
 match xs, hlen with
 | [y0, y1, y2, y3, y4, y5, y6], _ =>
  have h0 := hg 0 f0 rfl
  have h1 := hg 1 f1 rfl
  have h2 := hg 2 f2 rfl
  have h3 := hg 3 f3 rfl
  have h4 := hg 4 f4 rfl
  have h5 := hg 5 f5 rfl
  have h6 := hg 6 f6 rfl
  exact ⟨c0, c1, c2, c3, c4, c5, c6, y0, y1, y2, y3, y4, y5, y6, n, rfl, by simpa [Value.cells, o0, k0] using h0, by simpa [Value.cells, o1, k1] using h1, by simpa [Value.cells, o2, k2] using h2, by simpa [Value.cells, o3, k3] using h3, by simpa [Value.cells, o4, k4] using h4, by simpa [Value.cells, o5, k5] using h5, by simpa [Value.cells, o6, k6] using h6⟩
theorem open_slice3 {t e : TypeId} {f0 f1 f2 : Field} {fuel : Nat} {cs : List Value} {x : DataW H × List MemPlace} (ht : P.underlying t = some (.slice e)) (he : P.underlying e = some (.struct #[f0, f1, f2]))
  (ce : P.cellsOf e = 3) (o0 : f0.offset = 0) (o1 : f1.offset = 1) (o2 : f2.offset = 2) (c0 : P.cellsOf f0.type = 1) (c1 : P.cellsOf f1.type = 1) (c2 : P.cellsOf f2.type = 1)
  (h : DataW.trod enc P w base spare held fuel t cs = some x) :
  (cs = [.slice none 0 0]) ∨
  ∃ (a : Addr) (len cap m n : Nat), cs = [.slice (some a) len cap] ∧ len ≤ cap ∧ cap ≤ maxLen ∧ m = (if spare a.block then cap else len) ∧
   ∀ i, i < m → ∃ (v0 v1 v2 : Value) (y0 y1 y2 : DataW H × List MemPlace), w.cell? (a.add (i * 3)) = some v0 ∧ w.cell? (a.add (i * 3 + 1)) = some v1 ∧ w.cell? (a.add (i * 3 + 2)) = some v2 ∧
    DataW.trod enc P w base spare held n f0.type [v0] = some y0 ∧ DataW.trod enc P w base spare held n f1.type [v1] = some y1 ∧ DataW.trod enc P w base spare held n f2.type [v2] = some y2 := by
 rcases Go.Deep.open_slice ht h with h0 | ⟨a, len, cap, m, n, D, Pl, rfl, hb, hl, hm, hmm, rfl, hx⟩
 ·exact Or.inl h0.1
 refine .inr ⟨a, len, cap, m, n - 1, rfl, hl, hm, hmm, fun i hi => ?_⟩
 obtain ⟨cs', h1, h2⟩ := hx i hi
 rw [ce] at h1
 obtain ⟨_, hlen, hcell⟩ := World.cells?_some h1
 obtain ⟨xs, k, hk, hxy, _, hxl, hf⟩ := DataW.trod_struct he h2
 have hk' : k = n - 1 := by omega
 subst hk'
 match xs, hxl, cs', hlen with
 | [y0, y1, y2], _, [v0, v1, v2], _ =>
  have g0 := hf 0 f0 rfl
  have g1 := hf 1 f1 rfl
  have g2 := hf 2 f2 rfl
  simp [o0, o1, o2, c0, c1, c2] at g0 g1 g2
  have e0 := hcell 0 (by omega)
  have e1 := hcell 1 (by omega)
  have e2 := hcell 2 (by omega)
  rw [Go.Deep.add_add] at e0 e1 e2
  exact ⟨v0, v1, v2, y0, y1, y2, by simpa using e0, by simpa using e1, by simpa using e2, g0, g1, g2⟩
end
section
variable {H : Type} {enc : TypeId × Value → H} {W : World}
theorem ints_cells {v : Value} {x : DataW H × List MemPlace} {fuel : Nat} {held : Bool} (hf : DataW.trod enc Tryz.prog W 0 (fun _ => true) held fuel 43 [v] = some x) :
  ∃ (A : Option Addr) (c : Nat) (l : List Int), v = .slice A l.length c ∧ l.length ≤ c ∧ c ≤ maxLen ∧ SlV W W.heap.size A (ints l) := by
 rcases open_ints Tryz.underlying43 Tryz.underlying3 (by kernel_rfl) hf with ⟨hcs, _⟩ | ⟨x, l, c, zs, hcs, _, hl, hm, hz, _, hcell, hwz⟩
 ·obtain rfl : v = .slice none 0 0 := by simpa using hcs
  exact ⟨none, 0, [], rfl, Nat.le_refl _, Nat.zero_le _, SlV.nil _ _ _⟩
 ·obtain rfl : v = .slice (some x) l c := by simpa using hcs
  have hz' : zs.length = c := by simpa using hz
  have hlen : (zs.take l).length = l := by rw [List.length_take]; omega
  refine ⟨some x, c, zs.take l, by rw [hlen], by omega, hm, fun hp => ?_⟩
  rw [ints_length, hlen] at hp
  obtain ⟨b, off, rfl, hcl⟩ := ints_at hcell (by omega)
  refine ⟨b, off, rfl, World.block_lt_of_cell? W _ (hcl 0 (by omega)), fun j hj => ?_⟩
  rw [ints_length, hlen] at hj
  rw [hcl j (by omega), ints_get]
  simp [List.getD, show j < zs.length by omega]
theorem addr_plain {a : Addr} {k : Nat} {v : Value} (h : W.cell? (a.add k) = some v) (hk : k = 0) : a.spot = none := by
 subst hk
 obtain ⟨b, off, spot⟩ := a
 simpa [Addr.add] using World.cell?_spot h
theorem open_homes {v : Value} {x : DataW H × List MemPlace} {fuel : Nat} {held : Bool} (hf : DataW.trod enc Tryz.prog W 0 (fun _ => true) held fuel 24 [v] = some x) :
  ∃ A c rs, v = .slice A (List.length rs) c ∧ rs.length ≤ c ∧ c ≤ maxLen ∧ SlV W W.heap.size A (hvs rs) ∧ HIn W W.heap.size rs := by
 rcases open_slice3 Tryz.underlying24 Tryz.underlying69 (by kernel_rfl) (by kernel_rfl) (by kernel_rfl) (by kernel_rfl) (by kernel_rfl) (by kernel_rfl) (by kernel_rfl) hf with hcs | ⟨a, l, c, m, n, hcs, hl, hm, hmm, hx⟩
 ·obtain rfl : v = .slice none 0 0 := by simpa using hcs
  exact ⟨none, 0, [], rfl, Nat.le_refl _, Nat.zero_le _, fun h => absurd h (by simp [hvs]), HIn.nil _ _⟩
 ·obtain rfl : v = .slice (some a) l c := by simpa using hcs
  have hmc : m = c := by simpa using hmm
  haveI : Inhabited HomR := ⟨⟨none, 0, [], 0, 0⟩⟩
  obtain ⟨f, hfr⟩ := Go.Deep.choose_lt (α := HomR) (n := l) (p := fun i r => (W.cell? (a.add (i * 3)) = some (.slice r.A r.ps.length r.c) ∧ W.cell? (a.add (i * 3 + 1)) = some (.int .i64 r.nx) ∧ W.cell? (a.add (i * 3 + 2)) = some (.int .i64 r.rt)) ∧ PIn W W.heap.size r) (fun i hi => by
   obtain ⟨v0, v1, v2, y0, y1, y2, k0, k1, k2, t0, t1, t2⟩ := hx i (by omega)
   obtain ⟨A, c0, ps, e0, l1, m1, s1⟩ := ints_cells t0
   obtain ⟨nx, e1, -, -⟩ := DataW.trod_int Tryz.underlying3 t1
   obtain ⟨rt, e2, -, -⟩ := DataW.trod_int Tryz.underlying3 t2
   obtain rfl : v1 = _ := by simpa using e1
   obtain rfl : v2 = _ := by simpa using e2
   subst e0
   exact ⟨⟨A, c0, ps, nx, rt⟩, ⟨k0, k1, k2⟩, s1, l1, m1⟩)
  have hlen : ((List.range l).map f).length = l := by simp
  refine ⟨some a, c, (List.range l).map f, by rw [hlen], by omega, hm, fun hp => ?_, fun r hr => ?_⟩
  ·rw [hvs_length, hlen] at hp
   have h0 := (hfr 0 (by omega)).1.1
   have hs := addr_plain h0 (by omega)
   obtain ⟨b, off, spot⟩ := a
   dsimp only at hs
   subst hs
   refine ⟨b, off, rfl, ?_, fun j hj => ?_⟩
   ·have := World.block_lt_of_cell? W _ h0
    rwa [Go.WideShapes.add_plain] at this
   ·have hjl : j < l * 3 := by rw [hvs_length, hlen] at hj; exact hj
    have e1 : j = (j / 3) * 3 + j % 3 := by omega
    have hk : j / 3 < l := by omega
    have hget : (hvs ((List.range l).map f))[j]? = (f (j / 3)).vs[j % 3]? := by
     have h2 := flat_get HomR.vs 3 (fun _ => rfl) ((List.range l).map f) (j / 3) (j % 3) (by omega)
     rw [← e1] at h2
     rw [show hvs ((List.range l).map f) = ((List.range l).map f).flatMap HomR.vs from rfl, h2]
     simp [hk]
    rw [List.getElem?_eq_getElem hj] at hget
    obtain ⟨⟨q0, q1, q2⟩, -⟩ := hfr (j / 3) hk
    simp only [Go.WideShapes.add_plain] at q0 q1 q2
    have h3 : j % 3 = 0 ∨ j % 3 = 1 ∨ j % 3 = 2 := by omega
    rcases h3 with h3 | h3 | h3
    ·rw [h3] at hget
     have e9 := Option.some.inj (show some _ = some (Value.slice (f (j / 3)).A (f (j / 3)).ps.length (f (j / 3)).c) from hget)
     rw [e9, show off + j = off + j / 3 * 3 by omega]
     exact q0
    ·rw [h3] at hget
     have e9 := Option.some.inj (show some _ = some (Value.int .i64 (f (j / 3)).nx) from hget)
     rw [e9, show off + j = off + (j / 3 * 3 + 1) by omega]
     exact q1
    ·rw [h3] at hget
     have e9 := Option.some.inj (show some _ = some (Value.int .i64 (f (j / 3)).rt) from hget)
     rw [e9, show off + j = off + (j / 3 * 3 + 2) by omega]
     exact q2
  ·obtain ⟨i, hi, rfl⟩ := List.mem_map.1 hr
   exact (hfr i (List.mem_range.1 hi)).2
theorem open_anchor {v : Value} {d : DataW H} {p : List MemPlace} {base : Nat}
  (hv : Value.okWide Tryz.prog W .any base 26 v) (h : DataW.Trod enc Tryz.prog W 0 (fun _ => true) true 26 v d p) :
  ∃ x : AV, v = x.v ∧ x.In W W.heap.size ∧ x.lab.size ≤ maxLen := by
 obtain ⟨v0, v1, v2, v3, v4, v5, v6, y0, y1, y2, y3, y4, y5, y6, n, rfl, h0, h1, h2, h3, h4, h5, h6⟩ := open_agg7 Tryz.underlying26 (by kernel_rfl) (by kernel_rfl) hv h
 obtain ⟨a0, e0, -, -⟩ := DataW.trod_int Tryz.underlying3 h0
 obtain ⟨a1, e1, -, -⟩ := DataW.trod_int Tryz.underlying3 h1
 obtain ⟨a2, e2, -, -⟩ := DataW.trod_int Tryz.underlying3 h2
 obtain ⟨a3, e3, -, -⟩ := DataW.trod_int Tryz.underlying3 h3
 obtain ⟨a4, e4, -, -⟩ := DataW.trod_int Tryz.underlying3 h4
 obtain ⟨lab, e5, -, wl⟩ := DataW.trod_string Tryz.underlying9 h5
 obtain ⟨A, c, rs, rfl, b1, b2, b3, b4⟩ := open_homes h6
 obtain rfl : v0 = _ := by simpa using e0
 obtain rfl : v1 = _ := by simpa using e1
 obtain rfl : v2 = _ := by simpa using e2
 obtain rfl : v3 = _ := by simpa using e3
 obtain rfl : v4 = _ := by simpa using e4
 obtain rfl : v5 = _ := by simpa using e5
 exact ⟨⟨a0, a1, a2, a3, a4, lab, A, c, rs⟩, rfl, ⟨b3, b4, b1, b2⟩, wl⟩
end
end Go.Proofs.YtbfdpibjicjagaaGreatDoor.anc
namespace Go.Proofs.YtbfdpibjicjagaaGreatDoor.nwt
open Go.RowKit Go.ChangeShapes Go.WideShapes Go.ChangeAt Go.Deep Go.Joins
open Go.Proofs.YtbfdpibjicjagaaGreatDoor.anc (addr_plain flat_get)
section
variable {H : Type} {enc : TypeId × Value → H} {P : Program} {w : World} {base : Nat} {spare : Nat → Bool} {held : Bool}
theorem open_slice2 {t e : TypeId} {f0 f1 : Field} {fuel : Nat} {cs : List Value} {x : DataW H × List MemPlace} (ht : P.underlying t = some (.slice e)) (he : P.underlying e = some (.struct #[f0, f1]))
  (ce : P.cellsOf e = 2) (o0 : f0.offset = 0) (o1 : f1.offset = 1) (c0 : P.cellsOf f0.type = 1) (c1 : P.cellsOf f1.type = 1)
  (h : DataW.trod enc P w base spare held fuel t cs = some x) :
  (cs = [.slice none 0 0]) ∨
  ∃ (a : Addr) (len cap m n : Nat), cs = [.slice (some a) len cap] ∧ len ≤ cap ∧ cap ≤ maxLen ∧ m = (if spare a.block then cap else len) ∧
   ∀ i, i < m → ∃ (v0 v1 : Value) (y0 y1 : DataW H × List MemPlace), w.cell? (a.add (i * 2)) = some v0 ∧ w.cell? (a.add (i * 2 + 1)) = some v1 ∧
    DataW.trod enc P w base spare held n f0.type [v0] = some y0 ∧ DataW.trod enc P w base spare held n f1.type [v1] = some y1 := by
 rcases Go.Deep.open_slice ht h with h0 | ⟨a, len, cap, m, n, D, Pl, rfl, hb, hl, hm, hmm, rfl, hx⟩
 ·exact Or.inl h0.1
 refine .inr ⟨a, len, cap, m, n - 1, rfl, hl, hm, hmm, fun i hi => ?_⟩
 obtain ⟨cs', h1, h2⟩ := hx i hi
 rw [ce] at h1
 obtain ⟨_, hlen, hcell⟩ := World.cells?_some h1
 obtain ⟨xs, k, hk, hxy, _, hxl, hf⟩ := DataW.trod_struct he h2
 have hk' : k = n - 1 := by omega
 subst hk'
 match xs, hxl, cs', hlen with
 | [y0, y1], _, [v0, v1], _ =>
  have g0 := hf 0 f0 rfl
  have g1 := hf 1 f1 rfl
  simp [o0, o1, c0, c1] at g0 g1
  have e0 := hcell 0 (by omega)
  have e1 := hcell 1 (by omega)
  rw [Go.Deep.add_add] at e0 e1
  exact ⟨v0, v1, y0, y1, by simpa using e0, by simpa using e1, g0, g1⟩
end
section
variable {H : Type} {enc : TypeId × Value → H} {W : World}
theorem open_gots {v : Value} {d : DataW H} {p : List MemPlace} {base : Nat}
  (hv : Value.okWide Tryz.prog W .any base 27 v) (h : DataW.Trod enc Tryz.prog W 0 (fun _ => true) true 27 v d p) :
  ∃ A c rs, v = .slice A (List.length rs) c ∧ rs.length ≤ c ∧ c ≤ maxLen ∧ SlV W W.heap.size A (gvs rs) ∧ GIn W W.heap.size rs := by
 obtain ⟨a0, len0, cap0, rfl⟩ := okWide_slice Tryz.underlying27 hv
 obtain ⟨fuel, hf⟩ := h
 rcases open_slice2 Tryz.underlying27 Tryz.underlying51 (by kernel_rfl) (by kernel_rfl) (by kernel_rfl) (by kernel_rfl) (by kernel_rfl) hf with hcs | ⟨a, l, c, m, n, hcs, hl, hm, hmm, hx⟩
 ·simp [Value.cells] at hcs
  obtain ⟨rfl, rfl, rfl⟩ := hcs
  exact ⟨none, 0, [], rfl, Nat.le_refl _, Nat.zero_le _, fun h => absurd h (by simp [gvs]), fun r hr => by cases hr⟩
 ·simp [Value.cells] at hcs
  obtain ⟨rfl, rfl, rfl⟩ := hcs
  have hmc : m = cap0 := by simpa using hmm
  haveI : Inhabited GotR := ⟨⟨0, none, 0, []⟩⟩
  obtain ⟨f, hfr⟩ := Go.Deep.choose_lt (α := GotR) (n := len0) (p := fun i r => (W.cell? (a.add (i * 2)) = some (.int .i64 r.e) ∧ W.cell? (a.add (i * 2 + 1)) = some (.slice r.A r.l.length r.c)) ∧ BIn W W.heap.size r) (fun i hi => by
   obtain ⟨v0, v1, y0, y1, k0, k1, t0, t1⟩ := hx i (by omega)
   obtain ⟨e, e0, -, -⟩ := DataW.trod_int Tryz.underlying33 t0
   obtain ⟨r, e2, q1, q2, q3⟩ := bytes_cells Tryz.underlying49 Tryz.underlying5 (by kernel_rfl) t1
   obtain rfl : v0 = _ := by simpa using e0
   subst e2
   exact ⟨⟨e, r.A, r.c, r.l⟩, ⟨k0, k1⟩, q3, q1, q2⟩)
  have hlen : ((List.range len0).map f).length = len0 := by simp
  refine ⟨some a, cap0, (List.range len0).map f, by rw [hlen], by omega, hm, fun hp => ?_, fun r hr => ?_⟩
  ·rw [gvs_length, hlen] at hp
   have h0 := (hfr 0 (by omega)).1.1
   have hs := addr_plain h0 (by omega)
   obtain ⟨b, off, spot⟩ := a
   dsimp only at hs
   subst hs
   refine ⟨b, off, rfl, ?_, fun j hj => ?_⟩
   ·have := World.block_lt_of_cell? W _ h0
    rwa [Go.WideShapes.add_plain] at this
   ·have hjl : j < len0 * 2 := by rw [gvs_length, hlen] at hj; exact hj
    have e1 : j = (j / 2) * 2 + j % 2 := by omega
    have hk : j / 2 < len0 := by omega
    have hget : (gvs ((List.range len0).map f))[j]? = (f (j / 2)).vs[j % 2]? := by
     have h2 := flat_get GotR.vs 2 (fun _ => rfl) ((List.range len0).map f) (j / 2) (j % 2) (by omega)
     rw [← e1] at h2
     rw [show gvs ((List.range len0).map f) = ((List.range len0).map f).flatMap GotR.vs from rfl, h2]
     simp [hk]
    rw [List.getElem?_eq_getElem hj] at hget
    obtain ⟨⟨q0, q1⟩, -⟩ := hfr (j / 2) hk
    simp only [Go.WideShapes.add_plain] at q0 q1
    have h3 : j % 2 = 0 ∨ j % 2 = 1 := by omega
    rcases h3 with h3 | h3
    ·rw [h3] at hget
     have e9 := Option.some.inj (show some _ = some (Value.int .i64 (f (j / 2)).e) from hget)
     rw [e9, show off + j = off + j / 2 * 2 by omega]
     exact q0
    ·rw [h3] at hget
     have e9 := Option.some.inj (show some _ = some (Value.slice (f (j / 2)).A (f (j / 2)).l.length (f (j / 2)).c) from hget)
     rw [e9, show off + j = off + (j / 2 * 2 + 1) by omega]
     exact q1
  ·obtain ⟨i, hi, rfl⟩ := List.mem_map.1 hr
   exact (hfr i (List.mem_range.1 hi)).2
end
end Go.Proofs.YtbfdpibjicjagaaGreatDoor.nwt
