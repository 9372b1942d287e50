/-
  Tables, byte strings, a list of them with two blocks that are written to beside: they stay. Conditions: each theorem's own.
-/
import Derived.Test.YthdahdopejapmaaStU
import Derived.Test.YthdahdopejapmaaGSt
namespace Go.Proofs.Ythdahdopejapmaa.stp
open Go.RowKit Go.Lib
open Go.Proofs.Ythdahdopejapmaa.tbl (Ent EntOk OwnE)
open Go.Proofs.Ythdahdopejapmaa.zon

theorem cell_off {w : World} {q o b o' : Nat} (v : Value) (h : b ≠ q) : (w.setCell ⟨q, o, none⟩ v).cell? ⟨b, o', none⟩ = w.cell? ⟨b, o', none⟩ :=
  World.cell?_setCell_other _ _ _ _ (by simp only [ne_eq, Addr.mk.injEq, not_and]; intro k; exact absurd k.symm h)
/-- Bytes that lie, and not in the blocks p, q. -/
structure Off (w : World) (p q : Nat) (X : Option Addr) (L : List UInt8) : Prop where
  h : Sl w w.heap.size X L
  f : ∀ a, X = some a → 0 < L.length → a.block ≠ p ∧ a.block ≠ q
section
variable {w w' : World} {p q o : Nat} {X : Option Addr} {L : List UInt8}
theorem Off.next (h : Off w p q X L) (hb : Below w.heap.size w w') : Off w' p q X L := ⟨h.h.next hb, h.f⟩
theorem Off.set (h : Off w p q X L) {g : Nat} (hg : g = p ∨ g = q) (v : Value) : Off (w.setCell ⟨g, o, none⟩ v) p q X L := by
  refine ⟨fun hl => ?_, h.f⟩
  obtain ⟨b, off, rfl, hb, hc⟩ := h.h hl
  have h1 := h.f _ rfl hl
  have hne : b ≠ g := by rcases hg with rfl | rfl; exact h1.1; exact h1.2
  exact ⟨b, off, rfl, by rw [World.size_setCell]; exact hb, fun j hj => (cell_off v hne).trans (hc j hj)⟩
theorem off_arg {B : Nat} (h : Sl w B X L) (hB : B ≤ w.heap.size) (hp : B ≤ p) (hq : B ≤ q) : Off w p q X L := by
  refine ⟨h.more hB, fun a ha hl => ?_⟩
  obtain ⟨b, off, hX, hb, -⟩ := h hl
  rw [ha] at hX
  obtain rfl := Option.some.inj hX
  show b ≠ p ∧ b ≠ q
  omega
theorem off_own {base n c : Nat} {e : TypeId} (h : Own w base e (.slice X n c) L) (hp : p < base) (hq : q < base) : Off w p q X L := by
  obtain ⟨A, c', hv, h1, h2, hs, hf⟩ := h.form
  simp only [Value.slice.injEq] at hv
  obtain ⟨rfl, rfl, rfl⟩ := hv
  exact ⟨hs, fun a ha _ => by have := hf a ha; omega⟩
end
/-- A table that lies, and not in the blocks p, q. -/
structure OffT (w : World) (p q : Nat) (t : tbl.TV) : Prop where
  h : t.In w w.heap.size
  f : ∀ a, t.A = some a → a.block ≠ p ∧ a.block ≠ q
section
variable {w w' : World} {p q o : Nat} {t : tbl.TV}
theorem OffT.next (h : OffT w p q t) (hb : Below w.heap.size w w') : OffT w' p q t := ⟨h.h.next hb, h.f⟩
theorem OffT.set (h : OffT w p q t) {g : Nat} (hg : g = p ∨ g = q) (v : Value) : OffT (w.setCell ⟨g, o, none⟩ v) p q t := by
  refine ⟨⟨fun hl => ?_, h.h.l⟩, h.f⟩
  obtain ⟨b, off, hA, hb, hc⟩ := h.h.h hl
  have h1 := h.f _ hA
  have hne : b ≠ g := by rcases hg with rfl | rfl; exact h1.1; exact h1.2
  exact ⟨b, off, hA, by rw [World.size_setCell]; exact hb, fun j hj => (cell_off v hne).trans (hc j hj)⟩
theorem offT_own {base : Nat} (h : t.Own w base) (hl : 0 < t.es.length) (hp : p < base ∨ w.heap.size ≤ p) (hq : q < base ∨ w.heap.size ≤ q) : OffT w p q t := by
  obtain ⟨g, hA, h1, h2⟩ := h.row hl
  refine ⟨tbl.TV.Own.inn h, fun a ha => ?_⟩
  rw [hA] at ha
  obtain rfl := Option.some.inj ha
  show g ≠ p ∧ g ≠ q
  omega
end
/-- A list of one's own at block q, of byte strings that lie elsewhere, and not in block p. -/
structure Lst (w : World) (base p q n c : Nat) (rs : List Row) : Prop where
  o : OwnV w base 29 (.slice (some ⟨q, 0, none⟩) n c) (vals rs)
  r : ∀ x ∈ rs, Off w p q x.A x.l
  k : Caps rs
section
variable {w w' : World} {base p q n c : Nat} {rs : List Row}
theorem Lst.next (h : Lst w base p q n c rs) (hb : Below w.heap.size w w') : Lst w' base p q n c rs := ⟨h.o.below hb, fun x hx => (h.r x hx).next hb, h.k⟩
theorem Lst.less {base' : Nat} (h : Lst w base p q n c rs) (hb : base' ≤ base) : Lst w base' p q n c rs := ⟨h.o.less hb, h.r, h.k⟩
theorem Lst.len (h : Lst w base p q n c rs) : rs.length = n := by
  obtain ⟨A, c', hv, -⟩ := h.o.form
  simp only [Value.slice.injEq] at hv
  rw [← vals_length rs]
  exact hv.2.1.symm
theorem Lst.inn (h : Lst w base p q n c rs) : LV.In w w.heap.size ⟨some ⟨q, 0, none⟩, c, rs⟩ := by
  obtain ⟨A, c', hv, h1, h2, hs, -⟩ := h.o.form
  simp only [Value.slice.injEq] at hv
  obtain ⟨rfl, -, rfl⟩ := hv
  exact ⟨hs, fun x hx => (h.r x hx).h, by rw [vals_length] at h1; exact ⟨h1, h2⟩, h.k⟩
theorem Lst.other (h : Lst w base p q n c rs) (hpq : p ≠ q) {o : Nat} (v : Value) : Lst (w.setCell ⟨p, o, none⟩ v) base p q n c rs :=
  have hne : (Value.slice (some ⟨q, 0, none⟩) n c).ownBlock ≠ some p := fun (k : some q = some p) => hpq (Option.some.inj k).symm
  ⟨ownsRow_setCell_other h.o hne v, fun x hx => (h.r x hx).set (.inl rfl) v, h.k⟩
theorem Lst.put (h : Lst w base p q n c rs) (j : Nat) {x : Row} (hx : Off w p q x.A x.l) (hk : x.l.length ≤ x.c ∧ x.c ≤ maxLen) : Lst (w.setCell ⟨q, j, none⟩ x.v) base p q n c (rs.set j x) := by
  have hl : (vals rs).length = n := by rw [vals_length]; exact h.len
  obtain ⟨h1, -⟩ := h.o.store hl j x.v
  refine ⟨by unfold vals; rw [List.map_set]; exact h1, fun y hy => ?_, fun y hy => ?_⟩
  · rcases List.mem_or_eq_of_mem_set hy with k | rfl
    · exact (h.r y k).set (.inr rfl) _
    · exact hx.set (.inr rfl) _
  · rcases List.mem_or_eq_of_mem_set hy with k | rfl
    · exact h.k y k
    · exact hk
theorem Lst.cell (h : Lst w base p q n c rs) {j : Nat} (hj : j < n) : ∃ x, rs[j]? = some x ∧ w.cell? ⟨q, j, none⟩ = some (.slice x.A x.l.length x.c) ∧ Off w p q x.A x.l ∧ w.frozen? ⟨q, j, none⟩ = false := by
  have hl := h.len
  have hjl : j < rs.length := by omega
  have hc := h.o.cell j (by rw [vals_length]; exact hjl)
  rw [vals_get] at hc
  exact ⟨_, List.getElem?_eq_getElem hjl, hc, h.r _ (List.getElem_mem hjl), h.o.frozen (by rw [vals_length]; exact hl) j⟩
end
theorem lst_own {w : World} {base p q n c : Nat} {rs : List Row} {ls : List (List UInt8)} (h : OwnRows w base (.slice (some ⟨q, 0, none⟩) n c) rs ls) (hp : p < base ∨ w.heap.size ≤ p) : Lst w base p q n c rs := by
  refine ⟨h.1, fun x hx => ?_, fun x hx => own_caps (h.2.2 x hx)⟩
  have ho := h.2.2 x hx
  have h9 := own_apart ho h.1 u8_other
  obtain ⟨A, c', hv, h1, h2, hs, hf⟩ := ho.form
  unfold Row.v at hv
  simp only [Value.slice.injEq] at hv
  obtain ⟨hA, -, -⟩ := hv
  rw [← hA] at hs hf
  refine ⟨hs, fun a ha hl => ⟨?_, ?_⟩⟩
  · have hlo := hf a ha
    have hup : a.block < w.heap.size := by
      obtain ⟨b, off, hX, hb, -⟩ := hs hl
      rw [ha] at hX
      rw [Option.some.inj hX]
      exact hb
    omega
  · rcases h9 with h9 | h9
    · unfold Row.v at h9
      rw [ha] at h9
      cases h9
    · intro k
      apply h9
      unfold Row.v
      rw [ha, ← k]
      rfl
/-- One index, one block of an argument. -/
theorem one_ni {w : World} {b o c : Nat} {y : Int} (h : w.cell? ⟨b, o, none⟩ = some (.int .i64 y)) (hb : b < w.heap.size) (hc : 1 ≤ c ∧ c ≤ maxLen) : NV.In w w.heap.size ⟨some ⟨b, o, none⟩, c, [y]⟩ :=
  ⟨fun _ => ⟨b, o, rfl, hb, fun j hj => by
    have hj0 : j = 0 := by
      change j < 1 at hj
      omega
    subst hj0
    exact h⟩, hc⟩
theorem one_li {w : World} {b o c : Nat} {r : Row} (h : w.cell? ⟨b, o, none⟩ = some r.v) (hb : b < w.heap.size) (hc : 1 ≤ c ∧ c ≤ maxLen) (hs : Sl w w.heap.size r.A r.l) (hk : r.l.length ≤ r.c ∧ r.c ≤ maxLen) : LV.In w w.heap.size ⟨some ⟨b, o, none⟩, c, [r]⟩ :=
  ⟨fun _ => ⟨b, o, rfl, hb, fun j hj => by
    have hj0 : j = 0 := by
      change j < 1 at hj
      omega
    subst hj0
    exact h⟩, fun x hx => by rw [List.mem_singleton] at hx; rw [hx]; exact hs, hc, fun x hx => by rw [List.mem_singleton] at hx; rw [hx]; exact hk⟩
end Go.Proofs.Ythdahdopejapmaa.stp
