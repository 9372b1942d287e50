/-
  A list of byte strings made and stored to, beside a variable that holds a disk. Conditions: as each says.
-/
import Derived.Test.YtegcbmimndmfkaaDkKp
import Derived.Test.YtegcbmimndmfkaaKeepRows
namespace Go.Proofs.Ytegcbmimndmfkaa.dsk
open Go.RowKit Go.Lib

def zrs (n : Nat) : Array Value := madeCells #[.slice none 0 0] n
theorem zrs_list (n : Nat) : (zrs n).toList = vals (List.replicate n ⟨none, 0, []⟩) := by
  have h := made_list #[.slice none 0 0] [.slice none 0 0] rfl (by decide) n
  have h : (madeCells #[.slice none 0 0] n).toList = (List.replicate n [Value.slice none 0 0]).flatten := (congrArg (fun k => (madeCells #[.slice none 0 0] k).toList) (Nat.mul_one n).symm).trans h
  unfold zrs
  rw [h]
  simp [vals, Row.v, List.flatten_replicate_singleton]
theorem make_rows (n : Nat) (hn : n ≤ 1048576) (W : World) : (Instr.makeSlice 56 (.int .i64 (n : Int)) (.int .i64 (n : Int))).run Try.prog W = .ok (.slice (some ⟨W.heap.size, 0, none⟩) n n) (W.alloc (.cells (zrs n) 26)) := by
  have h := b_info
  cases hi : Try.prog.info? 26 with
  | none => rw [hi] at h; cases h
  | some i =>
    rw [hi] at h
    simp only [Option.map_some, Option.some.injEq, Prod.mk.injEq] at h
    obtain ⟨h1, h2, h3⟩ := h
    have hr := run_make (P := Try.prog) W 56 26 i _ Try.underlying56 hi h1 .i64 .i64 (n : Int) (n : Int) (by omega) (by omega) (by rw [h3]; omega) (by omega)
    simpa [h2, zrs, Value.cells] using hr
/-- Byte strings in a block of their own. -/
structure Want (W : World) (g : Nat) (rs : List Row) : Prop where
  c : ∀ a x, rs[a]? = some x → W.cell? ⟨g, a, none⟩ = some (.slice x.A x.l.length x.c)
  f : ∀ a, W.frozen? ⟨g, a, none⟩ = false
  hi : g < W.heap.size
section
variable {W W' : World} {g : Nat} {rs : List Row}
theorem Want.below (h : Want W g rs) (hb : Below W.heap.size W W') : Want W' g rs :=
  ⟨fun a x hx => (hb.cell (p := ⟨g, a, none⟩) h.hi).trans (h.c a x hx), fun a => (hb.frozen (p := ⟨g, a, none⟩) h.hi).trans (h.f a), Nat.lt_of_lt_of_le h.hi hb.size⟩
theorem Want.set (h : Want W g rs) {a : Nat} (ha : a < rs.length) (r : Row) : Want (W.setCell ⟨g, a, none⟩ (.slice r.A r.l.length r.c)) g (rs.set a r) := by
  refine ⟨fun j x hx => ?_, fun j => by rw [World.frozen?_setCell]; exact h.f j, by simpa using h.hi⟩
  by_cases e : a = j
  · subst e
    rw [List.getElem?_set_self ha] at hx
    obtain rfl := Option.some.inj hx
    exact World.cell?_setCell_same _ _ _ (h.c a rs[a] (List.getElem?_eq_getElem ha))
  · rw [List.getElem?_set_ne e] at hx
    rw [World.cell?_setCell_other _ _ _ _ (fun k => e (congrArg Addr.off k))]
    exact h.c j x hx
theorem Want.apart (h : Want W g rs) {g' o : Nat} (hg : g ≠ g') (v : Value) : Want (W.setCell ⟨g', o, none⟩ v) g rs :=
  ⟨fun j x hx => by rw [World.cell?_setCell_other _ _ _ _ (fun k => hg (congrArg Addr.block k).symm)]; exact h.c j x hx, fun j => by rw [World.frozen?_setCell]; exact h.f j, by simpa using h.hi⟩
theorem want_new (W : World) (n : Nat) : Want (W.alloc (.cells (zrs n) 26)) W.heap.size (List.replicate n ⟨none, 0, []⟩) := by
  have h := heap_alloc_new W (.cells (zrs n) 26)
  refine ⟨fun a x hx => ?_, fun a => ?_, by simp⟩
  · have hl := SlV.of_block (B := W.heap.size + 1) h (zrs_list n) (by omega)
    obtain ⟨ha, rfl⟩ := List.getElem?_eq_some_iff.1 hx
    rw [List.length_replicate] at ha
    obtain ⟨b, off, e, -, hc⟩ := hl (by rw [vals_length, List.length_replicate]; omega)
    obtain ⟨rfl, rfl⟩ : W.heap.size = b ∧ 0 = off := by
      have := Option.some.inj e
      exact ⟨congrArg Addr.block this, congrArg Addr.off this⟩
    have := hc a (by rw [vals_length, List.length_replicate]; exact ha)
    rw [Nat.zero_add] at this
    rw [this, vals_get]
  · exact World.frozen?_alloc_new _ _ _ _
/-- A store elsewhere keeps the variable. -/
theorem RefD.apart {base : Nat} {y : DV} {g' o : Nat} {v0 : Value} (h : RefD W base g y) (hg : g ≠ g') (h1 : (Value.slice y.CA y.cs.length y.cc).ownBlock ≠ some g') (h2 : (Value.slice y.WA y.ws.length y.wc).ownBlock ≠ some g')
    (hp : W.cell? ⟨g', o, none⟩ = some v0) (h8 : ∀ x, v0 ≠ by8 x) (v : Value) : RefD (W.setCell ⟨g', o, none⟩ v) base g y :=
  ⟨h.r.apart hg v, h.o.apart h1 h2 hp h8 v, h.nc, h.nw, h.lo, by simpa using h.hi⟩
end
end Go.Proofs.Ytegcbmimndmfkaa.dsk
