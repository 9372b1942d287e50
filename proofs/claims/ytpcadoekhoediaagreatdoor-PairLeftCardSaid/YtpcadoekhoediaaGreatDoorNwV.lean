/-
  Readings: as plain data, and as they lie in memory (a row of readings of two values each, a reading's bytes a row of bytes). Conditions: each law's own.
-/
import Derived.Test.YtpcadoekhoediaaGreatDoorGAn
namespace Go.Proofs.YtpcadoekhoediaaGreatDoor.nwt
open Go.RowKit Go.Lib
open Go.Proofs.YtpcadoekhoediaaGreatDoor.anc (flat_get flat_len slv_cell)

/-- A reading as it lies. -/
structure GotR where
  e : Int
  A : Option Addr
  c : Nat
  l : List UInt8
def GotR.vs (r : GotR) : List Value := [.int .i64 r.e, .slice r.A r.l.length r.c]
def GotR.v (r : GotR) : Value := .agg #[.int .i64 r.e, .slice r.A r.l.length r.c]
def GotR.d (r : GotR) : Int × List UInt8 := (r.e, r.l)
def gvs (rs : List GotR) : List Value := rs.flatMap GotR.vs
def gds (rs : List GotR) : List (Int × List UInt8) := rs.map GotR.d
theorem gvs_length (rs : List GotR) : (gvs rs).length = rs.length * 2 := flat_len GotR.vs 2 (fun _ => rfl) rs
theorem gds_length (rs : List GotR) : (gds rs).length = rs.length := by simp [gds]
theorem gvs_append (a b : List GotR) : gvs (a ++ b) = gvs a ++ gvs b := by simp [gvs]
theorem gds_append (a b : List GotR) : gds (a ++ b) = gds a ++ gds b := by simp [gds]
theorem gvs_one (rs : List GotR) : ∀ u ∈ gvs rs, u.oneCell' = true := by
  intro u hu
  obtain ⟨r, _, h⟩ := List.mem_flatMap.1 hu
  simp only [GotR.vs, List.mem_cons, List.not_mem_nil, or_false] at h
  rcases h with rfl | rfl <;> rfl
/-- A reading's bytes lie below block B. -/
def BIn (w : World) (B : Nat) (r : GotR) : Prop := Sl w B r.A r.l ∧ r.l.length ≤ r.c ∧ r.c ≤ maxLen
def GIn (w : World) (B : Nat) (rs : List GotR) : Prop := ∀ r ∈ rs, BIn w B r
section
variable {w w' : World} {B B' : Nat} {r : GotR} {rs : List GotR}
theorem BIn.below (h : BIn w B r) (hb : Below B w w') : BIn w' B r := ⟨h.1.below hb, h.2⟩
theorem BIn.more (h : BIn w B r) (hB : B ≤ B') : BIn w B' r := ⟨h.1.more hB, h.2⟩
theorem BIn.next (h : BIn w w.heap.size r) (hb : Below w.heap.size w w') : BIn w' w'.heap.size r := (h.below hb).more hb.size
theorem GIn.below (h : GIn w B rs) (hb : Below B w w') : GIn w' B rs := fun r hr => (h r hr).below hb
theorem GIn.more (h : GIn w B rs) (hB : B ≤ B') : GIn w B' rs := fun r hr => (h r hr).more hB
theorem GIn.next (h : GIn w w.heap.size rs) (hb : Below w.heap.size w w') : GIn w' w'.heap.size rs := (h.below hb).more hb.size
theorem GIn.append {a b : List GotR} (h : GIn w B a) (k : GIn w B b) : GIn w B (a ++ b) := fun r hr => (List.mem_append.1 hr).elim (h r) (k r)
theorem GIn.nil (w : World) (B : Nat) : GIn w B [] := fun r hr => by cases hr
end
/-- One reading of many. -/
theorem got_at {w : World} {B k : Nat} {A : Option Addr} {rs : List GotR} (hA : SlV w B A (gvs rs)) (hR : GIn w B rs) (hk : k < rs.length) :
    ∃ b off r, A = some ⟨b, off, none⟩ ∧ b < B ∧ w.cell? ⟨b, off + k * 2, none⟩ = some (.int .i64 r.e) ∧ w.cell? ⟨b, off + k * 2 + 1, none⟩ = some (.slice r.A r.l.length r.c) ∧ BIn w B r ∧ r ∈ rs ∧ rs[k]? = some r ∧ (gds rs)[k]? = some r.d := by
  obtain ⟨b, off, rfl, -, -⟩ := hA (by rw [gvs_length]; omega)
  have g := fun j (hj : j < 2) => flat_get GotR.vs 2 (fun _ => rfl) rs k j hj
  rw [List.getElem?_eq_getElem hk] at g
  have c0 := slv_cell hA (i := k * 2 + 0) (v := .int .i64 rs[k].e) ((g 0 (by omega)).trans rfl)
  have c1 := slv_cell hA (i := k * 2 + 1) (v := .slice rs[k].A rs[k].l.length rs[k].c) ((g 1 (by omega)).trans rfl)
  have hm := List.getElem_mem hk
  exact ⟨b, off, rs[k], rfl, c0.2, c0.1, c1.1, hR _ hm, hm, List.getElem?_eq_getElem hk, by simp [gds, hk]⟩
/-- A slice of readings. -/
structure GV where
  A : Option Addr
  c : Nat
  rs : List GotR
def GV.v (g : GV) : Value := .slice g.A g.rs.length g.c
structure GV.In (w : World) (B : Nat) (g : GV) : Prop where
  h : SlV w B g.A (gvs g.rs)
  i : GIn w B g.rs
  l : g.rs.length ≤ g.c ∧ g.c ≤ maxLen
section
variable {w w' : World} {B B' : Nat} {g : GV}
theorem GV.In.below (h : GV.In w B g) (hb : Below B w w') : GV.In w' B g := ⟨h.h.below hb, h.i.below hb, h.l⟩
theorem GV.In.more (h : GV.In w B g) (hB : B ≤ B') : GV.In w B' g := ⟨h.h.more hB, h.i.more hB, h.l⟩
theorem GV.In.next (h : GV.In w w.heap.size g) (hb : Below w.heap.size w w') : GV.In w' w'.heap.size g := (h.below hb).more hb.size
end
end Go.Proofs.YtpcadoekhoediaaGreatDoor.nwt
