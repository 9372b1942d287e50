/-
  Records as they lie in memory (eight cells each: five numbers, an image); in a box. Conditions: each law's own.
-/
import Derived.Test.YtpcadoekhoediaaGreatDoorRcM
import Derived.Test.YtpcadoekhoediaaGreatDoorGImg
namespace Go.Proofs.YtpcadoekhoediaaGreatDoor.lrc
open Go.RowKit Go.Lib
open Go.Proofs.YtpcadoekhoediaaGreatDoor.anc (bl kal kst ks bm ka flat_get flat_len slv_cell)
open Go.Proofs.YtpcadoekhoediaaGreatDoor.img

/-- A record as it lies. -/
structure RcR where
  kd : Int
  sq : Int
  ep : Int
  ps : Int
  nm : Int
  i : ImR
def RcR.vs (r : RcR) : List Value := [.int .i64 r.kd, .int .i64 r.sq, .int .i64 r.ep, .int .i64 r.ps, .int .i64 r.nm, .int .i64 r.i.z, .int .i64 r.i.wh, .slice r.i.A r.i.l.length r.i.c]
def RcR.d (r : RcR) : Rcd := ⟨r.kd, r.sq, r.ep, r.ps, r.nm, r.i.z, r.i.wh, r.i.l⟩
def rvs (rs : List RcR) : List Value := rs.flatMap RcR.vs
def rds (rs : List RcR) : List Rcd := rs.map RcR.d
theorem rvs_length (rs : List RcR) : (rvs rs).length = rs.length * 8 := flat_len RcR.vs 8 (fun _ => rfl) rs
theorem rds_length (rs : List RcR) : (rds rs).length = rs.length := by simp [rds]
theorem rvs_append (a b : List RcR) : rvs (a ++ b) = rvs a ++ rvs b := by simp [rvs]
theorem rds_append (a b : List RcR) : rds (a ++ b) = rds a ++ rds b := by simp [rds]
theorem rvs_one (rs : List RcR) : ∀ u ∈ rvs rs, u.oneCell' = true := by
  intro u hu
  obtain ⟨r, _, h⟩ := List.mem_flatMap.1 hu
  simp only [RcR.vs, List.mem_cons, List.not_mem_nil, or_false] at h
  rcases h with rfl | rfl | rfl | rfl | rfl | rfl | rfl | rfl <;> rfl
def RIn (w : World) (B : Nat) (rs : List RcR) : Prop := ∀ r ∈ rs, BIn w B r.i
section
variable {w w' : World} {B B' : Nat} {rs : List RcR}
theorem RIn.below (h : RIn w B rs) (hb : Below B w w') : RIn w' B rs := fun r hr => (h r hr).below hb
theorem RIn.more (h : RIn w B rs) (hB : B ≤ B') : RIn w B' rs := fun r hr => (h r hr).more hB
theorem RIn.next (h : RIn w w.heap.size rs) (hb : Below w.heap.size w w') : RIn w' w'.heap.size rs := (h.below hb).more hb.size
theorem RIn.nil (w : World) (B : Nat) : RIn w B [] := fun r hr => by cases hr
end
/-- One record of many. -/
theorem rec_at {w : World} {B k : Nat} {A : Option Addr} {rs : List RcR} (hA : SlV w B A (rvs rs)) (hR : RIn w B rs) (hk : k < rs.length) :
    ∃ b off r, A = some ⟨b, off, none⟩ ∧ b < B ∧ w.cell? ⟨b, off + k * 8, none⟩ = some (.int .i64 r.kd) ∧ w.cell? ⟨b, off + k * 8 + 1, none⟩ = some (.int .i64 r.sq) ∧ w.cell? ⟨b, off + k * 8 + 2, none⟩ = some (.int .i64 r.ep) ∧ w.cell? ⟨b, off + k * 8 + 3, none⟩ = some (.int .i64 r.ps) ∧ w.cell? ⟨b, off + k * 8 + 4, none⟩ = some (.int .i64 r.nm) ∧ w.cell? ⟨b, off + k * 8 + 5, none⟩ = some (.int .i64 r.i.z) ∧ w.cell? ⟨b, off + k * 8 + 6, none⟩ = some (.int .i64 r.i.wh) ∧ w.cell? ⟨b, off + k * 8 + 7, none⟩ = some (.slice r.i.A r.i.l.length r.i.c) ∧ BIn w B r.i ∧ r ∈ rs ∧ rs[k]? = some r ∧ (rds rs)[k]? = some r.d := by
  obtain ⟨b, off, rfl, -, -⟩ := hA (by rw [rvs_length]; omega)
  have g := fun j (hj : j < 8) => flat_get RcR.vs 8 (fun _ => rfl) rs k j hj
  rw [List.getElem?_eq_getElem hk] at g
  have c0 := slv_cell hA (i := k * 8 + 0) (v := .int .i64 rs[k].kd) ((g 0 (by omega)).trans rfl)
  have c1 := slv_cell hA (i := k * 8 + 1) (v := .int .i64 rs[k].sq) ((g 1 (by omega)).trans rfl)
  have c2 := slv_cell hA (i := k * 8 + 2) (v := .int .i64 rs[k].ep) ((g 2 (by omega)).trans rfl)
  have c3 := slv_cell hA (i := k * 8 + 3) (v := .int .i64 rs[k].ps) ((g 3 (by omega)).trans rfl)
  have c4 := slv_cell hA (i := k * 8 + 4) (v := .int .i64 rs[k].nm) ((g 4 (by omega)).trans rfl)
  have c5 := slv_cell hA (i := k * 8 + 5) (v := .int .i64 rs[k].i.z) ((g 5 (by omega)).trans rfl)
  have c6 := slv_cell hA (i := k * 8 + 6) (v := .int .i64 rs[k].i.wh) ((g 6 (by omega)).trans rfl)
  have c7 := slv_cell hA (i := k * 8 + 7) (v := .slice rs[k].i.A rs[k].i.l.length rs[k].i.c) ((g 7 (by omega)).trans rfl)
  have hm := List.getElem_mem hk
  exact ⟨b, off, rs[k], rfl, c0.2, c0.1, c1.1, c2.1, c3.1, c4.1, c5.1, c6.1, c7.1, hR _ hm, hm, List.getElem?_eq_getElem hk, by simp [rds, hk]⟩
/-- A record in a box. -/
structure C8 (W : World) (g : Nat) (a0 a1 a2 a3 a4 a5 a6 a7 : Value) : Prop where
  c0 : W.cell? ⟨g, 0, none⟩ = some a0
  c1 : W.cell? ⟨g, 1, none⟩ = some a1
  c2 : W.cell? ⟨g, 2, none⟩ = some a2
  c3 : W.cell? ⟨g, 3, none⟩ = some a3
  c4 : W.cell? ⟨g, 4, none⟩ = some a4
  c5 : W.cell? ⟨g, 5, none⟩ = some a5
  c6 : W.cell? ⟨g, 6, none⟩ = some a6
  c7 : W.cell? ⟨g, 7, none⟩ = some a7
section
variable {W W' : World} {g : Nat} {a0 a1 a2 a3 a4 a5 a6 a7 : Value}
theorem c8_new (w : World) (a0 a1 a2 a3 a4 a5 a6 a7 : Value) (t : TypeId) : C8 (w.alloc (.cells #[a0, a1, a2, a3, a4, a5, a6, a7] t)) w.heap.size a0 a1 a2 a3 a4 a5 a6 a7 := by
  have h := heap_alloc_new w (.cells #[a0, a1, a2, a3, a4, a5, a6, a7] t)
  constructor <;> (rw [cell_of_row _ _ _ _ _ _ h]; rfl)
theorem C8.keep {B : Nat} (h : C8 W g a0 a1 a2 a3 a4 a5 a6 a7) (hb : Below B W W') (hg : g < B) : C8 W' g a0 a1 a2 a3 a4 a5 a6 a7 := ⟨ks hb hg h.c0, ks hb hg h.c1, ks hb hg h.c2, ks hb hg h.c3, ks hb hg h.c4, ks hb hg h.c5, ks hb hg h.c6, ks hb hg h.c7⟩
theorem C8.apart (h : C8 W g a0 a1 a2 a3 a4 a5 a6 a7) {g' o : Nat} (hne : g ≠ g') (v : Value) : C8 (W.setCell ⟨g', o, none⟩ v) g a0 a1 a2 a3 a4 a5 a6 a7 := by
  have k : ∀ i : Nat, (W.setCell ⟨g', o, none⟩ v).cell? ⟨g, i, none⟩ = W.cell? ⟨g, i, none⟩ := fun i => World.cell?_setCell_other _ _ _ _ (by simp only [ne_eq, Addr.mk.injEq, not_and]; intro q; exact absurd q.symm hne)
  exact ⟨(k 0).trans h.c0, (k 1).trans h.c1, (k 2).trans h.c2, (k 3).trans h.c3, (k 4).trans h.c4, (k 5).trans h.c5, (k 6).trans h.c6, (k 7).trans h.c7⟩
end
end Go.Proofs.YtpcadoekhoediaaGreatDoor.lrc
