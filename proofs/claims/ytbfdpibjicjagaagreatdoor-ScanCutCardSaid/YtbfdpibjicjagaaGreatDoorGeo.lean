/-
  What an argument that is a geometry is, read off the row's own words: five integers. Conditions: none.
-/
import Derived.Test.YtbfdpibjicjagaaGreatDoorProg
import Derived.Test.YtbfdpibjicjagaaGreatDoorOpen
import Derived.Lib.SmallJoins
set_option maxRecDepth 100000
namespace Go.Proofs.YtbfdpibjicjagaaGreatDoor
open Go.RowKit Go.ChangeShapes Go.WideShapes Go.ChangeAt Go.Deep Go.Joins
theorem array5 {α : Type} {cs : Array α} (h : cs.size = 5) : ∃ c0 c1 c2 c3 c4, cs = #[c0, c1, c2, c3, c4] := by
 obtain ⟨l⟩ := cs
 match l, h with
 | [c0, c1, c2, c3, c4], _ => exact ⟨c0, c1, c2, c3, c4, rfl⟩
section
variable {H : Type} {enc : TypeId × Value → H} {P : Program} {w : World} {base : Nat} {spare : Nat → Bool} {held : Bool}
theorem open_agg5 {r : Reach} {b0 : Nat} {t : TypeId} {f0 f1 f2 f3 f4 : Field} {v : Value} {d : DataW H} {p : List MemPlace} (hs : P.underlying t = some (.struct #[f0, f1, f2, f3, f4])) (hone : oneCellFields P #[f0, f1, f2, f3, f4] = true) (hC : P.cellsOf t = 5)
  (hv : Value.okWide P w r b0 t v) (h : DataW.Trod enc P w base spare held t v d p) :
  ∃ (v0 v1 v2 v3 v4 : Value) (y0 y1 y2 y3 y4 : DataW H × List MemPlace) (n : Nat), v = .agg #[v0, v1, v2, v3, v4] ∧
   DataW.trod enc P w base spare held n f0.type [v0] = some y0 ∧ DataW.trod enc P w base spare held n f1.type [v1] = some y1 ∧ DataW.trod enc P w base spare held n f2.type [v2] = some y2 ∧ DataW.trod enc P w base spare held n f3.type [v3] = some y3 ∧ DataW.trod enc P w base spare held n f4.type [v4] = some y4 := by
 obtain ⟨cs, rfl, hsz⟩ := okWide_struct hs hv
 obtain ⟨c0, c1, c2, c3, c4, rfl⟩ := array5 (hsz.trans hC)
 obtain ⟨fuel, hf⟩ := h
 obtain ⟨xs, n, _, _, hl, hlen, hg⟩ := DataW.trod_struct hs hf
 obtain ⟨o0, k0⟩ := hone_of hone 0 f0 rfl
 obtain ⟨o1, k1⟩ := hone_of hone 1 f1 rfl
 obtain ⟨o2, k2⟩ := hone_of hone 2 f2 rfl
 obtain ⟨o3, k3⟩ := hone_of hone 3 f3 rfl
 obtain ⟨o4, k4⟩ := hone_of hone 4 f4 rfl
 match xs, hlen with
 | [y0, y1, y2, y3, y4], _ =>
  have h0 := hg 0 f0 rfl
  have h1 := hg 1 f1 rfl
  have h2 := hg 2 f2 rfl
  have h3 := hg 3 f3 rfl
  have h4 := hg 4 f4 rfl
  exact ⟨c0, c1, c2, c3, c4, y0, y1, y2, y3, y4, n, rfl, by simpa [Value.cells, o0, k0] using h0, by simpa [Value.cells, o1, k1] using h1, by simpa [Value.cells, o2, k2] using h2, by simpa [Value.cells, o3, k3] using h3, by simpa [Value.cells, o4, k4] using h4⟩
end
theorem open_geo {H : Type} {enc : TypeId × Value → H} {W : World} {v : Value} {d : DataW H} {p : List MemPlace} {base : Nat}
  (hv : Value.okWide Tryz.prog W .any base 23 v) (h : DataW.Trod enc Tryz.prog W 0 (fun _ => true) true 23 v d p) :
  ∃ (z e s l a : Int), v = .agg #[.int .i64 z, .int .i64 e, .int .i64 s, .int .i64 l, .int .i64 a] := by
 obtain ⟨v0, v1, v2, v3, v4, y0, y1, y2, y3, y4, n, rfl, h0, h1, h2, h3, h4⟩ := open_agg5 Tryz.underlying23 (by kernel_rfl) (by kernel_rfl) hv h
 obtain ⟨a0, e0, -, -⟩ := DataW.trod_int Tryz.underlying3 h0
 obtain ⟨a1, e1, -, -⟩ := DataW.trod_int Tryz.underlying3 h1
 obtain ⟨a2, e2, -, -⟩ := DataW.trod_int Tryz.underlying3 h2
 obtain ⟨a3, e3, -, -⟩ := DataW.trod_int Tryz.underlying3 h3
 obtain ⟨a4, e4, -, -⟩ := DataW.trod_int Tryz.underlying3 h4
 obtain rfl : v0 = _ := by simpa using e0
 obtain rfl : v1 = _ := by simpa using e1
 obtain rfl : v2 = _ := by simpa using e2
 obtain rfl : v3 = _ := by simpa using e3
 obtain rfl : v4 = _ := by simpa using e4
 exact ⟨a0, a1, a2, a3, a4, rfl⟩
end Go.Proofs.YtbfdpibjicjagaaGreatDoor
