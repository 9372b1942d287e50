/-
  The document's own reader of a record (ReadRec). Conditions: a right geometry.
-/
import Derived.Laws.Tables
import Derived.Laws.CopyOwn
import Derived.Test.YtpcadoekhoediaaDoorRcLB
import Derived.Test.YtpcadoekhoediaaDoorRcT
import Derived.Test.YtpcadoekhoediaaDoorTail
import Derived.Test.YtpcadoekhoediaaDoorGPk
namespace Go.Proofs.YtpcadoekhoediaaDoor.lrc
open Go.RowKit Go.Lib
open Go.Proofs.YtpcadoekhoediaaDoor.gmt (Ok)
open Go.Proofs.YtpcadoekhoediaaDoor.anc (bl kal kst ks bm ka)
open Go.Proofs.YtpcadoekhoediaaDoor.tbl (C1 c1_new G5 g5_new)
open Go.Proofs.YtpcadoekhoediaaDoor.img
open Go.Proofs.YtpcadoekhoediaaDoor.pck (le le_length num)

theorem blk_next {W W' : World} {v : Obj} {k : Nat} (hb : Below W.heap.size W W') (h : W.heap[k]? = some v) : W'.heap[k]? = some v := (hb.block k (Array.getElem?_eq_some_iff.1 h).1).trans h
theorem at1_get {b : List UInt8} {k : Nat} (h : k < b.length) : at1 b k = (b[k]'h).toNat := by
  unfold at1
  rw [List.drop_eq_getElem_cons h, List.take_succ_cons, List.take_zero, num, num]
  omega
/-- What the document's reader answers. -/
def RdA (c : Bool) (r : Rcd) (e : Ending) (w' : World) : Prop :=
  (c = true ∧ ∃ (X : Option Addr) (x : Nat), e = .returned (.tuple #[.agg #[.int .i64 r.kd, .int .i64 r.sq, .int .i64 r.ep, .int .i64 r.ps, .int .i64 r.nm, .int .i64 r.z, .int .i64 r.wh, .slice X r.l.length x], .bool true]) ∧ BIn w' w'.heap.size ⟨r.z, r.wh, X, x, r.l⟩) ∨ (c = false ∧ e = .returned (.tuple #[.agg #[.int .i64 0, .int .i64 0, .int .i64 0, .int .i64 0, .int .i64 0, .int .i64 0, .int .i64 0, .slice none 0 0], .bool false]))
theorem f8_row {W : World} {g : Nat} {a0 a1 a2 a3 a4 a5 a6 a7 : Value} {t : TypeId} (h : W.heap[g]? = some (.cells #[a0, a1, a2, a3, a4, a5, a6, a7] t (0, 0))) : F8 W g a0 a1 a2 a3 a4 a5 a6 a7 := by
  refine ⟨?_, fun o => frozen_of_row W g o _ t h⟩
  constructor <;> (rw [cell_of_row _ _ _ _ _ _ h]; rfl)
theorem own_q5 {w : World} {base q : Nat} {e : TypeId} {v : Value} {l : List UInt8} (h : Own w base e v l) (hq : l.length = q) : ∃ X c, v = .slice X q c ∧ Own w base e (.slice X q c) l := by
  obtain ⟨A, c, rfl, -⟩ := h.form
  rw [hq] at h ⊢
  exact ⟨A, c, rfl, h⟩
theorem own_bin {W : World} {base n c : Nat} {X : Option Addr} {e : TypeId} {l : List UInt8} (h : Own W base e (.slice X n c) l) (z wh : Int) : BIn W W.heap.size ⟨z, wh, X, c, l⟩ := by
  obtain ⟨h1, h2, h3, h4⟩ := own_bytes h
  exact ⟨h4, by rw [h1]; exact h2, h3⟩
theorem own_row {W : World} {base k : Nat} {e : TypeId} {v : Value} {l : List UInt8} (h : Own W base e v l) (hk : k < base) (cs : Array Value) : Own (W.setRow k cs) base e v l :=
  h.kept (row := some k) ⟨rfl, rfl, rfl, by simp, fun q _ hq => setRow_other W k q cs (fun e => hq (by rw [e]))⟩ (.inr fun he => absurd (pck.own_far h k he) (by omega))
theorem row_set {W : World} {k g o : Nat} {v : Obj} (u : Value) (h : W.heap[k]? = some v) (hne : k ≠ g) : (W.setCell ⟨g, o, none⟩ u).heap[k]? = some v := (heap_setCell_other W ⟨g, o, none⟩ k u hne).trans h
theorem own_set {W : World} {base g o : Nat} {e : TypeId} {v : Value} {l : List UInt8} (h : Own W base e v l) (hg : g < base) (u : Value) : Own (W.setCell ⟨g, o, none⟩ u) base e v l :=
  h.kept (row := some g) ⟨by first | rfl | simp, by first | rfl | simp, by first | rfl | simp, by rw [World.size_setCell]; exact Nat.le_refl _, fun k _ hk => heap_setCell_other W ⟨g, o, none⟩ k u (fun q => hk (by rw [q]))⟩ (.inr fun he => absurd (pck.own_far h g he) (by omega))
end Go.Proofs.YtpcadoekhoediaaDoor.lrc
