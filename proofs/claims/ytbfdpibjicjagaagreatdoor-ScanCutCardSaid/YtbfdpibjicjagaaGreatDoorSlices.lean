/-
  Slices of slices of bytes: what one that comes in reads as, what one of the call's own holds, what append makes of it. Conditions: each law's own.
-/
import Derived.Test.YtbfdpibjicjagaaGreatDoorBytes
import Derived.Test.YtbfdpibjicjagaaGreatDoorOpen
import Derived.Deep.Slices
namespace Go.Proofs.YtbfdpibjicjagaaGreatDoor
open Go.RowKit Go.ChangeShapes Go.WideShapes Go.ChangeAt
def SlV (w : World) (B : Nat) (A : Option Addr) (vs : List Value) : Prop :=
 0 < vs.length → ∃ b off, A = some ⟨b, off, none⟩ ∧ b < B ∧ ∀ j (h : j < vs.length), w.cell? ⟨b, off + j, none⟩ = some vs[j]
section
variable {w w' : World} {B B' : Nat} {A : Option Addr} {vs : List Value}
theorem SlV.nil (w : World) (B : Nat) (A : Option Addr) : SlV w B A [] := fun h => absurd h (by simp)
theorem SlV.keep (h : SlV w B A vs) (hk : ∀ b o, b < B → w'.cell? ⟨b, o, none⟩ = w.cell? ⟨b, o, none⟩) : SlV w' B A vs := fun hl => by
 obtain ⟨b, off, hA, hb, hc⟩ := h hl
 exact ⟨b, off, hA, hb, fun j hj => (hk _ _ hb).trans (hc j hj)⟩
theorem SlV.more (h : SlV w B A vs) (hB : B ≤ B') : SlV w B' A vs := fun hl => by
 obtain ⟨b, off, hA, hb, hc⟩ := h hl
 exact ⟨b, off, hA, by omega, hc⟩
theorem SlV.below (h : SlV w B A vs) (hb : Below B w w') : SlV w' B A vs := h.keep fun b o k => hb.cell (p := ⟨b, o, none⟩) k
theorem SlV.next (h : SlV w w.heap.size A vs) (hb : Below w.heap.size w w') : SlV w' w'.heap.size A vs := (h.below hb).more hb.size
theorem SlV.take (h : SlV w B A vs) (k : Nat) : SlV w B A (vs.take k) := fun hl => by
 rw [List.length_take] at hl
 obtain ⟨b, off, he, hb, hc⟩ := h (by omega)
 refine ⟨b, off, he, hb, fun j hj => ?_⟩
 rw [List.length_take] at hj
 rw [hc j (by omega)]
 simp
theorem SlV.drop {b off : Nat} (h : SlV w B (some ⟨b, off, none⟩) vs) (k : Nat) : SlV w B (some ⟨b, off + k, none⟩) (vs.drop k) := fun hl => by
 rw [List.length_drop] at hl
 obtain ⟨b', off', he, hb, hc⟩ := h (by omega)
 simp only [Option.some.injEq, Addr.mk.injEq, and_true] at he
 obtain ⟨rfl, rfl⟩ := he
 refine ⟨b, off + k, rfl, hb, fun j hj => ?_⟩
 rw [List.length_drop] at hj
 have := hc (k + j) (by omega)
 rw [show off + k + j = off + (k + j) by omega, this]
 simp
theorem SlV.of_block {W : World} {B g : Nat} {t : TypeId} {fr : Nat × Nat} {cs : Array Value} (hg : W.heap[g]? = some (.cells cs t fr)) (hcs : cs.toList = vs) (hB : g < B) : SlV W B (some ⟨g, 0, none⟩) vs := by
 subst hcs
 refine fun _ => ⟨g, 0, rfl, hB, fun j hj => ?_⟩
 rw [cell_of_row W g (0 + j) cs t fr hg, ← Array.getElem?_toList, Nat.zero_add]
 simp
theorem SlV.src {P : Program} (h : SlV w B A vs) (h1 : ∀ u ∈ vs, u.oneCell' = true) {tx e' : TypeId} (hk : P.underlying tx = some (.slice e')) (c : Nat) : Src P 1 tx (.slice A vs.length c) vs.length vs w := by
 by_cases hl : 0 < vs.length
 ·obtain ⟨b, off, rfl, _, hc⟩ := h hl
  refine Src.ofSlice w hk _ _ _ _ (by rw [Nat.mul_one]) (fun j u hu => ?_) h1
  obtain ⟨hj, rfl⟩ := List.getElem?_eq_some_iff.1 hu
  rw [Addr.add_lit, hc j hj]
 ·have : vs = [] := List.eq_nil_of_length_eq_zero (by omega)
  subst this
  cases A with
  | none => exact Src.ofNil w hk c
  | some a => exact Src.ofSlice w hk a 0 c [] rfl (fun j u hu => by simp at hu) (fun _ h => by cases h)
end
structure Row where
 A : Option Addr
 c : Nat
 l : List UInt8
def Row.v (r : Row) : Value := .slice r.A r.l.length r.c
def vals (rs : List Row) : List Value := rs.map Row.v
def Rws (w : World) (B : Nat) (rs : List Row) : Prop := ∀ r ∈ rs, Sl w B r.A r.l
theorem vals_length (rs : List Row) : (vals rs).length = rs.length := by simp [vals]
theorem vals_get (rs : List Row) (j : Nat) (h : j < (vals rs).length) : (vals rs)[j] = .slice (rs[j]'(by rwa [vals_length] at h)).A (rs[j]'(by rwa [vals_length] at h)).l.length (rs[j]'(by rwa [vals_length] at h)).c := by simp [vals, Row.v]
section
variable {w w' : World} {B B' : Nat} {rs : List Row}
theorem Rws.below (h : Rws w B rs) (hb : Below B w w') : Rws w' B rs := fun r hr => (h r hr).below hb
theorem Rws.more (h : Rws w B rs) (hB : B ≤ B') : Rws w B' rs := fun r hr => (h r hr).more hB
theorem Rws.next (h : Rws w w.heap.size rs) (hb : Below w.heap.size w w') : Rws w' w'.heap.size rs := (h.below hb).more hb.size
theorem Rws.append {a b : List Row} (h : Rws w B a) (k : Rws w B b) : Rws w B (a ++ b) := fun r hr => (List.mem_append.1 hr).elim (h r) (k r)
theorem Rws.nil (w : World) (B : Nat) : Rws w B [] := fun r hr => by cases hr
theorem Rws.one {A : Option Addr} {c : Nat} {l : List UInt8} (h : Sl w B A l) : Rws w B [⟨A, c, l⟩] := fun r hr => by
 rw [List.mem_singleton] at hr
 subst hr
 exact h
theorem Rws.take (h : Rws w B rs) (k : Nat) : Rws w B (rs.take k) := fun r hr => h r (List.mem_of_mem_take hr)
theorem Rws.drop (h : Rws w B rs) (k : Nat) : Rws w B (rs.drop k) := fun r hr => h r (List.mem_of_mem_drop hr)
end
theorem take_next {α : Type} {l : List α} {k : Nat} {x : α} (h : l[k]? = some x) : l.take (k + 1) = l.take k ++ [x] := by
 rw [List.take_add_one, h]
 rfl
def OwnV (w : World) (base : Nat) (e : TypeId) (v : Value) (vs : List Value) : Prop := w.ownsRow base e 1 v vs.length vs
section
variable {w w' : World} {base : Nat} {e : TypeId} {v : Value} {vs : List Value}
theorem OwnV.form (h : OwnV w base e v vs) : ∃ A c, v = .slice A vs.length c ∧ vs.length ≤ c ∧ c ≤ maxLen ∧ SlV w w.heap.size A vs ∧ (∀ a, A = some a → base ≤ a.block) := by
 have h' := h
 rcases h.2 with ⟨rfl, hn⟩ | ⟨g, cap, cur, rfl, hb, hg, hc, hm, _, _⟩
 ·exact ⟨none, 0, by rw [hn], by omega, Nat.zero_le _, fun hl => absurd hl (by omega), fun a ha => by cases ha⟩
 ·refine ⟨some ⟨g, 0, none⟩, cap, rfl, hc, hm, fun hl => ⟨g, 0, rfl, ?_, fun j hj => ?_⟩, fun a ha => by cases ha; exact hb⟩
  ·rcases Nat.lt_or_ge g w.heap.size with k | k
   ·exact k
   ·rw [Array.getElem?_eq_none k] at hg; cases hg
  ·have := World.ownsRow.cells h' (g := g) rfl j vs[j] (by simp)
   rwa [Addr.add_lit] at this
theorem OwnV.at (h : OwnV w base e v vs) (hl : 0 < vs.length) : ∃ g c, v = .slice (some ⟨g, 0, none⟩) vs.length c ∧ vs.length ≤ c ∧ c ≤ maxLen ∧ base ≤ g ∧ g < w.heap.size := by
 rcases h.2 with ⟨_, hn⟩ | ⟨g, cap, cur, rfl, hb, hg, hc, hm, _, _⟩
 ·omega
 ·refine ⟨g, cap, rfl, hc, hm, hb, ?_⟩
  rcases Nat.lt_or_ge g w.heap.size with k | k
  ·exact k
  ·rw [Array.getElem?_eq_none k] at hg; cases hg
theorem OwnV.cell {g n c : Nat} (h : OwnV w base e (.slice (some ⟨g, 0, none⟩) n c) vs) (j : Nat) (hj : j < vs.length) : w.cell? ⟨g, j, none⟩ = some vs[j] := by
 have := World.ownsRow.cells h (g := g) rfl j vs[j] (by simp)
 rwa [Addr.add_lit, Nat.zero_add] at this
theorem OwnV.frozen {g n c : Nat} (hn : vs.length = n) (h : OwnV w base e (.slice (some ⟨g, 0, none⟩) n c) vs) (j : Nat) : w.frozen? ⟨g, j, none⟩ = false := by
 subst hn
 exact World.ownsRow.frozenAt h j
theorem OwnV.store {g c : Nat} {n : Nat} (hn : vs.length = n) (h : OwnV w base e (.slice (some ⟨g, 0, none⟩) n c) vs) (j : Nat) (x : Value) :
  OwnV (w.setCell ⟨g, j, none⟩ x) base e (.slice (some ⟨g, 0, none⟩) n c) (vs.set j x) ∧ w.grownBy (w.setCell ⟨g, j, none⟩ x) (some g) := by
 subst hn
 have := World.ownsRow.stored h j x
 refine ⟨?_, this.2⟩
 unfold OwnV
 rw [List.length_set]
 exact this.1
theorem OwnV.kept {row : Option Nat} (h : OwnV w base e v vs) (hg : w.grownBy w' row) (hne : v.ownBlock = none ∨ v.ownBlock ≠ row) : OwnV w' base e v vs := World.ownsRow.kept h hg hne
theorem OwnV.below (h : OwnV w base e v vs) (hb : Below w.heap.size w w') : OwnV w' base e v vs := by
 refine World.ownsRow.kept (row := none) h ⟨hb.os, hb.tape, hb.output, hb.size, fun k hk _ => hb.block k hk⟩ ?_
 rcases h.2 with ⟨rfl, _⟩ | ⟨g, _, _, rfl, _⟩
 ·exact .inl rfl
 ·exact .inr (by simp [Value.ownBlock])
theorem OwnV.less {base' : Nat} (h : OwnV w base e v vs) (hb : base' ≤ base) : OwnV w base' e v vs := by
 refine ⟨h.1, ?_⟩
 rcases h.2 with k | ⟨g, cap, cur, a, b, c⟩
 ·exact .inl k
 ·exact .inr ⟨g, cap, cur, a, by omega, c⟩
theorem OwnV.drew (h : OwnV w base e v vs) : OwnV w.drew base e v vs := h
theorem OwnV.alloc (h : OwnV w base e v vs) (o : Obj) : OwnV (w.alloc o) base e v vs := World.ownsRow.alloc h o
theorem ownV_nil (w : World) (base : Nat) (e : TypeId) : OwnV w base e (.slice none 0 0) [] := World.ownsRow_nil w base e 1
end
section
variable {P : Program}
def TV (P : Program) (t e : TypeId) (z : Value) (bytes : Nat) : Prop := P.underlying t = some (.slice e) ∧ z.cells.size = 1 ∧ ∃ i, P.info? e = some i ∧ i.zero = some z ∧ i.size = 1 ∧ i.bytes = bytes
theorem run_appV (w : World) (base : Nat) (t tx ty e : TypeId) {z : Value} {bytes : Nat} (hT : TV P t e z bytes) (v : Value) (vs : List Value) (hown : OwnV w base e v vs) (x : Value) (ms : List Value) (hs : Src P 1 tx x ms.length ms w)
  (h63 : vs.length + ms.length ≤ maxLen) (hlen : (vs.length + ms.length) * bytes ≤ 140737488355328) (hbase : base ≤ w.heap.size) :
  ∃ v' w', (Builtin.append_ #[t, tx] ty #[v, x]).run P w = .ok v' w' ∧ OwnV w' base e v' (vs ++ ms) ∧ w.grownBy w' v.ownBlock ∧ (v'.ownBlock = v.ownBlock ∨ v'.ownBlock = some w.heap.size) := by
 obtain ⟨ht, hz1, i, hi, hz, h1, hb⟩ := hT
 obtain ⟨v', w', hr, ho, hg, hat⟩ := run_app (P := P) w base t tx ty e i z 1 bytes ht hi hz h1 hb hz1 v vs.length vs hown x ms.length ms hs h63 hlen hbase
 refine ⟨v', w', hr, ?_, hg, hat⟩
 unfold OwnV
 rw [List.length_append]
 exact ho
theorem wpList_appV (w : World) {ops : Array Oper} {rest : List Oper} {o : Oper} {a : Act} {Q : Exit → Act → World → Prop} (hgd : o.guard = none) (s x : Operand) (t tx : TypeId)
  (ho : o.op = .call { callee := .builtin .append, args := #[s, x], argTypes := #[t, tx] })
  (base : Nat) (e : TypeId) {z : Value} {bytes : Nat} (hT : TV P t e z bytes) (v : Value) (vs : List Value) (hv : a.eval s = v) (hown : OwnV w base e v vs) (u : Value) (ms : List Value) (hu : a.eval x = u) (hs : Src P 1 tx u ms.length ms w)
  (h63 : vs.length + ms.length ≤ maxLen) (hlen : (vs.length + ms.length) * bytes ≤ 140737488355328) (hbase : base ≤ w.heap.size)
  (h : ∀ v' w', OwnV w' base e v' (vs ++ ms) → w.grownBy w' v.ownBlock → (v'.ownBlock = v.ownBlock ∨ v'.ownBlock = some w.heap.size) → wpList P ops Q rest (a.put o.dst v') w') : wpList P ops Q (o :: rest) a w :=
 wpList_plain hgd fun _ hK => by
  obtain ⟨v', w', hrun, h2, h3, h4⟩ := run_appV (P := P) w base t tx o.type e hT v vs hown u ms hs h63 hlen hbase
  have hK' := hK _ _ (h v' w' h2 h3 h4)
  unfold Oper.wp execOp
  simp only [ho, resolve, invoke, builtin, Sem.run_bind, Sem.run_pure, Result.andThen_ok, List.map_toArray, List.map_cons, List.map_nil, hv, hu, hrun]
  exact hK'
theorem wpList_appRun (w : World) {ops : Array Oper} {rest : List Oper} {o : Oper} {a : Act} {Q : Exit → Act → World → Prop} (hgd : o.guard = none) (s x : Operand) (t tx : TypeId)
  (ho : o.op = .call { callee := .builtin .append, args := #[s, x], argTypes := #[t, tx] })
  (v u v' : Value) (w' : World) (hv : a.eval s = v) (hu : a.eval x = u) (hrun : (Builtin.append_ #[t, tx] o.type #[v, u]).run P w = .ok v' w')
  (h : wpList P ops Q rest (a.put o.dst v') w') : wpList P ops Q (o :: rest) a w :=
 wpList_plain hgd fun _ hK => by
  have hK' := hK _ _ h
  unfold Oper.wp execOp
  simp only [ho, resolve, invoke, builtin, Sem.run_bind, Sem.run_pure, Result.andThen_ok, List.map_toArray, List.map_cons, List.map_nil, hv, hu, hrun]
  exact hK'
end
structure VRow where
 A : Option Addr
 c : Nat
 vs : List Value
def VRow.v (q : VRow) : Value := .slice q.A q.vs.length q.c
def flat (qs : List VRow) : List Value := qs.flatMap VRow.vs
section
variable {H : Type} {enc : TypeId × Value → H} {P : Program} {W : World}
theorem bytes_cells {t e : TypeId} {v : Value} {x : DataW H × List MemPlace} {base fuel : Nat} {held : Bool} (ht : P.underlying t = some (.slice e)) (he : P.underlying e = some (.int .u8)) (hc : P.cellsOf e = 1)
  (hf : DataW.trod enc P W base (fun _ => true) held fuel t [v] = some x) :
  ∃ r : Row, v = r.v ∧ r.l.length ≤ r.c ∧ r.c ≤ maxLen ∧ Sl W W.heap.size r.A r.l := by
 rcases open_ints ht he hc hf with ⟨hcs, _⟩ | ⟨x, l, c, zs, hcs, _, hl, hm, hz, _, hcell, hwz⟩
 ·obtain rfl : v = .slice none 0 0 := by simpa using hcs
  exact ⟨⟨none, 0, []⟩, rfl, Nat.le_refl _, Nat.zero_le _, Sl.nil _ _ _⟩
 ·obtain rfl : v = .slice (some x) l c := by simpa using hcs
  have hz' : zs.length = c := by simpa using hz
  have hlen : ((zs.take l).map fun z => UInt8.ofNat z.toNat).length = l := by rw [List.length_map, List.length_take]; omega
  refine ⟨⟨some x, c, (zs.take l).map fun z => UInt8.ofNat z.toNat⟩, by unfold Row.v; rw [hlen], by simp; omega, hm, fun hp => ?_⟩
  show ∃ _, _
  have hp' : 0 < l := by have := hlen; simp only at hp; omega
  obtain ⟨b, off, rfl, hcl⟩ := ints_at hcell (by omega)
  refine ⟨b, off, rfl, World.block_lt_of_cell? W _ (hcl 0 (by omega)), fun j hj => ?_⟩
  have hj' : j < l := by have := hlen; simp only at hj; omega
  rw [hcl j (by omega)]
  have hb : 0 ≤ zs[j] ∧ zs[j] ≤ 255 := bounds_u8 (hwz _ (List.getElem_mem (show j < zs.length by omega)))
  have e1 : zs.getD j 0 = zs[j] := by simp [List.getD, show j < zs.length by omega]
  rw [e1, by8]
  simp
  omega
end
end Go.Proofs.YtbfdpibjicjagaaGreatDoor
