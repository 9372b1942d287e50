/-
  Tables as they lie in memory (a row of entries of three values each); copied, compared. Conditions: each law's own.
-/
import Derived.Test.YtajjmllolaajoaaTbM
import Derived.Test.YtajjmllolaajoaaAnF
import Derived.Test.YtajjmllolaajoaaGGm
namespace Go.Proofs.Ytajjmllolaajoaa.tbl
open Go.RowKit Go.Lib
open Go.Proofs.Ytajjmllolaajoaa.gmt (five_new)
open Go.Proofs.Ytajjmllolaajoaa.anc (flat_get flat_len slv_cell bl kal kst ks bm ka take_same take_other row_form row_below row_apart)

def Ent.vs (e : Ent) : List Value := [.int .i64 e.st, .int .i64 e.sm, .bool e.ls]
def evs (es : List Ent) : List Value := es.flatMap Ent.vs
theorem evs_length (es : List Ent) : (evs es).length = es.length * 3 := flat_len Ent.vs 3 (fun _ => rfl) es
theorem evs_append (a b : List Ent) : evs (a ++ b) = evs a ++ evs b := by simp [evs]
theorem evs_one (es : List Ent) : ∀ u ∈ evs es, u.oneCell' = true := by
  intro u hu
  obtain ⟨r, _, h⟩ := List.mem_flatMap.1 hu
  simp only [Ent.vs, List.mem_cons, List.not_mem_nil, or_false] at h
  rcases h with rfl | rfl | rfl <;> rfl
/-- One entry of many. -/
theorem ent_at {w : World} {B k : Nat} {A : Option Addr} {es : List Ent} (hA : SlV w B A (evs es)) (hk : k < es.length) :
    ∃ b off e, A = some ⟨b, off, none⟩ ∧ b < B ∧ w.cell? ⟨b, off + k * 3, none⟩ = some (.int .i64 e.st) ∧ w.cell? ⟨b, off + k * 3 + 1, none⟩ = some (.int .i64 e.sm) ∧ w.cell? ⟨b, off + k * 3 + 2, none⟩ = some (.bool e.ls) ∧ e ∈ es ∧ es[k]? = some e := by
  obtain ⟨b, off, rfl, -, -⟩ := hA (by rw [evs_length]; omega)
  have g := fun j (hj : j < 3) => flat_get Ent.vs 3 (fun _ => rfl) es k j hj
  rw [List.getElem?_eq_getElem hk] at g
  have c0 := slv_cell hA (i := k * 3 + 0) (v := .int .i64 es[k].st) ((g 0 (by omega)).trans rfl)
  have c1 := slv_cell hA (i := k * 3 + 1) (v := .int .i64 es[k].sm) ((g 1 (by omega)).trans rfl)
  have c2 := slv_cell hA (i := k * 3 + 2) (v := .bool es[k].ls) ((g 2 (by omega)).trans rfl)
  exact ⟨b, off, es[k], rfl, c0.2, c0.1, c1.1, c2.1, List.getElem_mem hk, List.getElem?_eq_getElem hk⟩
/-- A table as it lies. -/
structure TV where
  A : Option Addr
  c : Nat
  es : List Ent
def TV.v (t : TV) : Value := .agg #[.slice t.A t.es.length t.c]
structure TV.In (w : World) (B : Nat) (t : TV) : Prop where
  h : SlV w B t.A (evs t.es)
  l : t.es.length ≤ t.c ∧ t.c ≤ maxLen
section
variable {w w' : World} {B B' : Nat} {t : TV}
theorem TV.In.below (h : TV.In w B t) (hb : Below B w w') : TV.In w' B t := ⟨h.h.below hb, h.l⟩
theorem TV.In.more (h : TV.In w B t) (hB : B ≤ B') : TV.In w B' t := ⟨h.h.more hB, h.l⟩
theorem TV.In.next (h : TV.In w w.heap.size t) (hb : Below w.heap.size w w') : TV.In w' w'.heap.size t := (h.below hb).more hb.size
end
/-- Entries of one's own. -/
def OwnE (w : World) (base : Nat) (v : Value) (es : List Ent) : Prop := w.ownsRow base 54 3 v es.length (evs es)
theorem e_info : (Try.prog.info? 54).map (fun i => (i.zero, i.size, i.bytes)) = some (some (.agg #[.int .i64 0, .int .i64 0, .bool false]), 3, 24) := by kernel_rfl
section
variable {w w' : World} {base : Nat} {v : Value} {es : List Ent}
theorem ownE_nil (w : World) (base : Nat) : OwnE w base (.slice none 0 0) [] := World.ownsRow_nil w base _ 3
theorem OwnE.below (h : OwnE w base v es) (hb : Below w.heap.size w w') : OwnE w' base v es := row_below h hb
theorem OwnE.less {base' : Nat} (h : OwnE w base v es) (hb : base' ≤ base) : OwnE w base' v es := by
  refine ⟨h.1, ?_⟩
  rcases h.2 with k | ⟨g, cap, cur, a, b, c⟩
  · exact .inl k
  · exact .inr ⟨g, cap, cur, a, by omega, c⟩
theorem OwnE.cell_set {g o : Nat} (h : OwnE w base v es) (hg : g < base) (x : Value) : OwnE (w.setCell ⟨g, o, none⟩ x) base v es :=
  ownsRow_setCell_other h (fun k => by have := (World.ownsRow.lt h g k).1; omega) x
end
/-- A table of one's own. -/
def TV.Own (w : World) (base : Nat) (t : TV) : Prop := OwnE w base (.slice t.A t.es.length t.c) t.es
section
variable {w w' : World} {base : Nat} {t : TV}
theorem TV.Own.below (h : TV.Own w base t) (hb : Below w.heap.size w w') : TV.Own w' base t := OwnE.below h hb
theorem TV.Own.less {base' : Nat} (h : TV.Own w base t) (hb : base' ≤ base) : TV.Own w base' t := OwnE.less h hb
theorem TV.Own.inn (h : TV.Own w base t) : t.In w w.heap.size := by
  obtain ⟨A', c', hv, h1, h2, hs⟩ := row_form h
  simp only [Value.slice.injEq] at hv
  obtain ⟨ha, -, hc⟩ := hv
  exact ⟨by rw [ha]; exact hs, by omega, by omega⟩
end
theorem ownE_tv {w : World} {base : Nat} {v : Value} {es : List Ent} (h : OwnE w base v es) : ∃ t : TV, v = .slice t.A t.es.length t.c ∧ t.es = es ∧ t.Own w base := by
  obtain ⟨A, c, hv, -, -, -⟩ := row_form h
  exact ⟨⟨A, c, es⟩, hv, rfl, by rw [hv] at h; exact h⟩
def noTV : TV := ⟨none, 0, []⟩
theorem noTV_own (w : World) (base : Nat) : noTV.Own w base := ownE_nil w base
/-- One cell of a block. -/
structure C1 (W : World) (g : Nat) (a : Value) : Prop where
  c0 : W.cell? ⟨g, 0, none⟩ = some a
  f0 : W.frozen? ⟨g, 0, none⟩ = false
section
variable {W W' : World} {g : Nat} {a : Value}
theorem c1_new (w : World) (a : Value) (t : TypeId) : C1 (w.alloc (.cells #[a] t)) w.heap.size a := by
  have h := heap_alloc_new w (.cells #[a] t)
  constructor <;> first | (rw [cell_of_row _ _ _ _ _ _ h]; rfl) | exact World.frozen?_alloc_new _ _ _ _
theorem C1.keep {B : Nat} (h : C1 W g a) (hb : Below B W W') (hg : g < B) : C1 W' g a := ⟨(hb.cell (p := ⟨g, 0, none⟩) hg).trans h.c0, (hb.frozen (p := ⟨g, 0, none⟩) hg).trans h.f0⟩
theorem C1.set (h : C1 W g a) (v : Value) : C1 (W.setCell ⟨g, 0, none⟩ v) g v := ⟨World.cell?_setCell_same _ _ _ h.c0, by rw [World.frozen?_setCell]; exact h.f0⟩
theorem C1.apart (h : C1 W g a) {g' o : Nat} (hne : g ≠ g') (v : Value) : C1 (W.setCell ⟨g', o, none⟩ v) g a :=
  ⟨by rw [World.cell?_setCell_other _ _ _ _ (fun k => hne (congrArg Addr.block k).symm)]; exact h.c0, by rw [World.frozen?_setCell]; exact h.f0⟩
end
/-- A geometry's five cells. -/
structure G5 (W : World) (g : Nat) (z d s l a : Int) : Prop where
  g0 : W.cell? ⟨g, 0, none⟩ = some (.int .i64 z)
  g1 : W.cell? ⟨g, 1, none⟩ = some (.int .i64 d)
  g2 : W.cell? ⟨g, 2, none⟩ = some (.int .i64 s)
  g3 : W.cell? ⟨g, 3, none⟩ = some (.int .i64 l)
  g4 : W.cell? ⟨g, 4, none⟩ = some (.int .i64 a)
theorem G5.keep {W W' : World} {g B : Nat} {z d s l a : Int} (h : G5 W g z d s l a) (hb : Below B W W') (hg : g < B) : G5 W' g z d s l a :=
  ⟨ks hb hg h.g0, ks hb hg h.g1, ks hb hg h.g2, ks hb hg h.g3, ks hb hg h.g4⟩
theorem g5_new (w : World) (z d s l a : Int) : G5 (w.alloc (.cells #[.int .i64 z, .int .i64 d, .int .i64 s, .int .i64 l, .int .i64 a] 23)) w.heap.size z d s l a := by
  obtain ⟨g0, g1, g2, g3, g4⟩ := five_new w z d s l a
  exact ⟨g0, g1, g2, g3, g4⟩
theorem G5.set {W : World} {g g' o : Nat} {z d s l a : Int} (h : G5 W g z d s l a) (hne : g ≠ g') (v : Value) : G5 (W.setCell ⟨g', o, none⟩ v) g z d s l a := by
  have hn : ∀ i, (⟨g', o, none⟩ : Addr) ≠ ⟨g, i, none⟩ := fun i h => hne (congrArg Addr.block h).symm
  constructor <;> rw [World.cell?_setCell_other _ _ _ _ (hn _)]
  · exact h.g0
  · exact h.g1
  · exact h.g2
  · exact h.g3
  · exact h.g4
end Go.Proofs.Ytajjmllolaajoaa.tbl
