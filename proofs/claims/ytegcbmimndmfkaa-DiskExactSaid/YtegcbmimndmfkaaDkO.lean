/-
  A disk whose slices of cells and of writes are one's own (the bytes need not be). Conditions: none.
-/
import Derived.Test.YtegcbmimndmfkaaDkT
import Derived.Test.YtegcbmimndmfkaaDkM
namespace Go.Proofs.Ytegcbmimndmfkaa.dsk
open Go.RowKit Go.Lib

/-- A cell that is stored over holds no byte: so byte strings stay. -/
theorem sl_set {w : World} {B : Nat} {A : Option Addr} {l : List UInt8} {p : Addr} {v0 : Value} (h : Sl w B A l) (hp : w.cell? p = some v0) (h8 : ∀ x, v0 ≠ by8 x) (v : Value) : Sl (w.setCell p v) B A l := by
  intro hl
  obtain ⟨b, off, e, hb, hc⟩ := h hl
  refine ⟨b, off, e, hb, fun j hj => ?_⟩
  rw [World.cell?_setCell_other _ _ _ _ (fun k => ?_)]
  · exact hc j hj
  · have := hc j hj
    rw [← k, hp] at this
    exact h8 _ (Option.some.inj this)
theorem rin_set {w : World} {B : Nat} {r : Row} {p : Addr} {v0 : Value} (h : RIn w B r) (hp : w.cell? p = some v0) (h8 : ∀ x, v0 ≠ by8 x) (v : Value) : RIn (w.setCell p v) B r := ⟨sl_set h.1 hp h8 v, h.2⟩
theorem int_no8 (k : Int) : ∀ x, Value.int .i64 k ≠ by8 x := fun x h => by unfold by8 at h; simp at h
theorem slice_no8 (A : Option Addr) (n c : Nat) : ∀ x, Value.slice A n c ≠ by8 x := fun x h => by unfold by8 at h; simp at h

/-- A disk whose arrays are one's own. -/
structure DV.Own (w : World) (base : Nat) (y : DV) : Prop where
  oc : w.ownsRow base 64 3 (.slice y.CA y.cs.length y.cc) y.cs.length (cvs y.cs)
  ow : w.ownsRow base 72 2 (.slice y.WA y.ws.length y.wc) y.ws.length (wvs y.ws)
  ci : CIn w w.heap.size y.cs
  wi : WIn w w.heap.size y.ws
theorem row_in {w : World} {base k n c : Nat} {e : TypeId} {A : Option Addr} {xs : List Value} (h : w.ownsRow base e k (.slice A n c) n xs) : SlV w w.heap.size A xs ∧ n ≤ c ∧ c ≤ maxLen := by
  obtain ⟨A', c', hv, h1, h2, hs⟩ := row_form h
  simp only [Value.slice.injEq] at hv
  obtain ⟨rfl, -, rfl⟩ := hv
  exact ⟨hs, h1, h2⟩
section
variable {w w' : World} {base base' : Nat} {y : DV}
theorem DV.Own.in (h : y.Own w base) : y.In w w.heap.size := ⟨(row_in h.oc).1, (row_in h.ow).1, h.ci, h.wi, (row_in h.oc).2, (row_in h.ow).2⟩
theorem DV.Own.below (h : y.Own w base) (hb : Below w.heap.size w w') : y.Own w' base := ⟨row_below h.oc hb, row_below h.ow hb, h.ci.next hb, h.wi.next hb⟩
theorem DV.Own.less (h : y.Own w base) (hb : base' ≤ base) : y.Own w base' := by
  have go : ∀ {e : TypeId} {k n : Nat} {v : Value} {xs : List Value}, w.ownsRow base e k v n xs → w.ownsRow base' e k v n xs := fun hr => by
    refine ⟨hr.1, ?_⟩
    rcases hr.2 with h0 | ⟨g, cap, cur, hv, hg, rest⟩
    · exact .inl h0
    · exact .inr ⟨g, cap, cur, hv, Nat.le_trans hb hg, rest⟩
  exact ⟨go h.oc, go h.ow, h.ci, h.wi⟩
/-- Where a cell of a block that came ahead (and holds no bytes) is stored over. -/
theorem DV.Own.set {g o : Nat} {v0 : Value} (h : y.Own w base) (hg : g < base) (hp : w.cell? ⟨g, o, none⟩ = some v0) (h8 : ∀ x, v0 ≠ by8 x) (v : Value) : y.Own (w.setCell ⟨g, o, none⟩ v) base := by
  have hne : ∀ {e : TypeId} {u : Value} {k n : Nat} {xs : List Value}, w.ownsRow base e k u n xs → u.ownBlock ≠ some g := fun hu k => by have := (World.ownsRow.lt hu g k).1; omega
  have hs : (w.setCell ⟨g, o, none⟩ v).heap.size = w.heap.size := by simp
  exact ⟨ownsRow_setCell_other h.oc (hne h.oc) v, ownsRow_setCell_other h.ow (hne h.ow) v, fun r hr => by rw [hs]; exact ⟨rin_set (h.ci r hr).1 hp h8 v, rin_set (h.ci r hr).2 hp h8 v⟩, fun r hr => by rw [hs]; exact rin_set (h.wi r hr) hp h8 v⟩
/-- Where a cell of another block of one's own is stored over. -/
theorem DV.Own.apart {g o : Nat} {v0 : Value} (h : y.Own w base) (h1 : (Value.slice y.CA y.cs.length y.cc).ownBlock ≠ some g) (h2 : (Value.slice y.WA y.ws.length y.wc).ownBlock ≠ some g) (hp : w.cell? ⟨g, o, none⟩ = some v0) (h8 : ∀ x, v0 ≠ by8 x) (v : Value) : y.Own (w.setCell ⟨g, o, none⟩ v) base := by
  have hs : (w.setCell ⟨g, o, none⟩ v).heap.size = w.heap.size := by simp
  exact ⟨ownsRow_setCell_other h.oc h1 v, ownsRow_setCell_other h.ow h2 v, fun r hr => by rw [hs]; exact ⟨rin_set (h.ci r hr).1 hp h8 v, rin_set (h.ci r hr).2 hp h8 v⟩, fun r hr => by rw [hs]; exact rin_set (h.wi r hr) hp h8 v⟩
end
theorem DV.Own.drew {w : World} {base : Nat} {y : DV} (h : y.Own w base) : y.Own w.drew base := h.below (below_dr (Below.refl _ _))

/-- What make lays. -/
def zrow : Row := ⟨none, 0, []⟩
def zcell : CellR := ⟨0, zrow, zrow⟩
def zwrite : WriR := ⟨0, zrow⟩
theorem zrow_in (w : World) (B : Nat) : RIn w B zrow := ⟨fun h => absurd h (by simp [zrow]), Nat.le_refl _, Nat.zero_le _⟩
theorem made_list (z : Array Value) (f : List Value) (hz : z.toList = f) (hk : 0 < z.size) : ∀ n, (madeCells z (n * z.size)).toList = (List.replicate n f).flatten := by
  intro n
  subst hz
  apply List.ext_getElem?
  intro i
  unfold madeCells
  by_cases hi : i < n * z.size
  · have e1 : i = (i / z.size) * z.size + i % z.size := by rw [Nat.mul_comm]; exact (Nat.div_add_mod i z.size).symm
    have hm : i % z.size < z.size := Nat.mod_lt _ hk
    have hd : i / z.size < n := (Nat.div_lt_iff_lt_mul hk).2 hi
    have h2 := flat_get (fun _ : Nat => z.toList) z.size (fun _ => by simp) (List.range n) (i / z.size) (i % z.size) hm
    rw [← e1] at h2
    have h3 : (List.range n).flatMap (fun _ => z.toList) = (List.replicate n z.toList).flatten := by
      rw [List.flatMap_def]
      congr 1
      apply List.ext_getElem <;> simp
    rw [← h3, h2]
    simp [hi, hd, hm]
  · have h2 : ((List.replicate n z.toList).flatten).length = n * z.size := by simp
    rw [List.getElem?_eq_none (by simp; omega), List.getElem?_eq_none (by omega)]
theorem cvs_zero (n : Nat) : cvs (List.replicate n zcell) = (List.replicate n zcell.vs).flatten := by
  unfold cvs
  rw [List.flatMap_def, List.map_replicate]
theorem wvs_zero (n : Nat) : wvs (List.replicate n zwrite) = (List.replicate n zwrite.vs).flatten := by
  unfold wvs
  rw [List.flatMap_def, List.map_replicate]
def zcs (n : Nat) : Array Value := madeCells #[.int .i64 0, .slice none 0 0, .slice none 0 0] (n * 3)
def zws (n : Nat) : Array Value := madeCells #[.int .i64 0, .slice none 0 0] (n * 2)
theorem zcs_list (n : Nat) : (zcs n).toList = cvs (List.replicate n zcell) := by rw [cvs_zero]; exact made_list _ _ rfl (by decide) n
theorem zws_list (n : Nat) : (zws n).toList = wvs (List.replicate n zwrite) := by rw [wvs_zero]; exact made_list _ _ rfl (by decide) n
theorem make_cells (n : Nat) (hn : n ≤ 1048576) (W : World) : (Instr.makeSlice 22 (.int .i64 (n : Int)) (.int .i64 (n : Int))).run Try.prog W = .ok (.slice (some ⟨W.heap.size, 0, none⟩) n n) (W.alloc (.cells (zcs n) 64)) := by
  have h := c_info
  cases hi : Try.prog.info? 64 with
  | none => rw [hi] at h; cases h
  | some i =>
    rw [hi] at h
    simp only [Option.map_some, Option.some.injEq, Prod.mk.injEq] at h
    obtain ⟨h1, h2, h3⟩ := h
    have hr := run_make (P := Try.prog) W 22 64 i _ Try.underlying22 hi h1 .i64 .i64 (n : Int) (n : Int) (by omega) (by omega) (by rw [h3]; omega) (by omega)
    simpa [h2, zcs, Value.cells] using hr
theorem make_writes (n : Nat) (hn : n ≤ 1048576) (W : World) : (Instr.makeSlice 23 (.int .i64 (n : Int)) (.int .i64 (n : Int))).run Try.prog W = .ok (.slice (some ⟨W.heap.size, 0, none⟩) n n) (W.alloc (.cells (zws n) 72)) := by
  have h := w_info
  cases hi : Try.prog.info? 72 with
  | none => rw [hi] at h; cases h
  | some i =>
    rw [hi] at h
    simp only [Option.map_some, Option.some.injEq, Prod.mk.injEq] at h
    obtain ⟨h1, h2, h3⟩ := h
    have hr := run_make (P := Try.prog) W 23 72 i _ Try.underlying23 hi h1 .i64 .i64 (n : Int) (n : Int) (by omega) (by omega) (by rw [h3]; omega) (by omega)
    simpa [h2, zws, Value.cells] using hr
theorem own_zcs (n base : Nat) (W : World) (hb : base ≤ W.heap.size) (hn : n ≤ 1048576) : (W.alloc (.cells (zcs n) 64)).ownsRow base 64 3 (.slice (some ⟨W.heap.size, 0, none⟩) n n) n (cvs (List.replicate n zcell)) := by
  rw [← zcs_list]
  exact World.ownsRow_lit W (zcs n) n hb (by unfold maxLen; omega) (by simp [zcs, size_madeCells])
theorem own_zws (n base : Nat) (W : World) (hb : base ≤ W.heap.size) (hn : n ≤ 1048576) : (W.alloc (.cells (zws n) 72)).ownsRow base 72 2 (.slice (some ⟨W.heap.size, 0, none⟩) n n) n (wvs (List.replicate n zwrite)) := by
  rw [← zws_list]
  exact World.ownsRow_lit W (zws n) n hb (by unfold maxLen; omega) (by simp [zws, size_madeCells])
theorem cds_zero (n : Nat) : cds (List.replicate n zcell) = List.replicate n ⟨0, [], []⟩ := by simp [cds, zcell, zrow, CellR.d]
end Go.Proofs.Ytegcbmimndmfkaa.dsk
