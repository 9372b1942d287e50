/-
  Words for slices of bytes: what a slice that comes in reads as, what a slice of the call's own holds, and what append makes of it, whatever is appended. Conditions: each law's own.
-/
import Derived.Below
import Derived.Laws.OwnMore
import Derived.Maps.AppendAt
import Derived.Deep.AppendSrc
import Derived.Deep.AppendLies
import Derived.OwnWalk
import Derived.Calls
import Derived.Laws.BytesArg
namespace Go.Proofs.YtbfdpibjicjagaaGreatDoor
open Go.RowKit
abbrev by8 (x : UInt8) : Value := .int .u8 (x.toNat : Int)
def cells8 (l : List UInt8) : List Value := l.map by8
theorem cells8_length (l : List UInt8) : (cells8 l).length = l.length := by simp [cells8]
theorem cells8_append (a b : List UInt8) : cells8 (a ++ b) = cells8 a ++ cells8 b := by simp [cells8]
theorem cells8_one (l : List UInt8) : ∀ u ∈ cells8 l, u.oneCell' = true := by
 intro u hu
 obtain ⟨_, _, rfl⟩ := List.mem_map.1 hu
 rfl
theorem size_list (s : ByteArray) : s.data.toList.length = s.size := by rw [Array.length_toList]; rfl
def Sl (w : World) (B : Nat) (A : Option Addr) (l : List UInt8) : Prop :=
 0 < l.length → ∃ b off, A = some ⟨b, off, none⟩ ∧ b < B ∧ ∀ j (h : j < l.length), w.cell? ⟨b, off + j, none⟩ = some (by8 l[j])
section
variable {w w' : World} {B B' : Nat} {A : Option Addr} {l : List UInt8}
theorem Sl.nil (w : World) (B : Nat) (A : Option Addr) : Sl w B A [] := fun h => absurd h (by simp)
theorem Sl.keep (h : Sl w B A l) (hk : ∀ b o, b < B → w'.cell? ⟨b, o, none⟩ = w.cell? ⟨b, o, none⟩) : Sl w' B A l := fun hl => by
 obtain ⟨b, off, hA, hb, hc⟩ := h hl
 exact ⟨b, off, hA, hb, fun j hj => (hk _ _ hb).trans (hc j hj)⟩
theorem Sl.more (h : Sl w B A l) (hB : B ≤ B') : Sl w B' A l := fun hl => by
 obtain ⟨b, off, hA, hb, hc⟩ := h hl
 exact ⟨b, off, hA, by omega, hc⟩
theorem Sl.below (h : Sl w B A l) (hb : Below B w w') : Sl w' B A l := h.keep fun b o k => hb.cell (p := ⟨b, o, none⟩) k
theorem Sl.next (h : Sl w w.heap.size A l) (hb : Below w.heap.size w w') : Sl w' w'.heap.size A l := (h.below hb).more hb.size
theorem Sl.src {P : Program} (h : Sl w B A l) {tx e' : TypeId} (hk : P.underlying tx = some (.slice e')) (c : Nat) : Src P 1 tx (.slice A l.length c) l.length (cells8 l) w := by
 by_cases hl : 0 < l.length
 ·obtain ⟨b, off, rfl, _, hc⟩ := h hl
  refine Src.ofSlice w hk _ _ _ _ (by rw [cells8_length, Nat.mul_one]) (fun j u hu => ?_) (cells8_one l)
  have hj : j < l.length := by
   rcases Nat.lt_or_ge j l.length with h | h
   ·exact h
   ·rw [List.getElem?_eq_none (by rw [cells8_length]; exact h)] at hu
    cases hu
  rw [Addr.add_lit, hc j hj]
  unfold cells8 at hu
  rw [List.getElem?_map, List.getElem?_eq_getElem hj] at hu
  exact hu
 ·have : l = [] := List.eq_nil_of_length_eq_zero (by omega)
  subst this
  cases A with
  | none => exact Src.ofNil w hk c
  | some a => exact Src.ofSlice w hk a 0 c [] rfl (fun j u hu => by simp at hu) (fun _ h => by cases h)
end
theorem Sl.of_block {W : World} {B g : Nat} {t : TypeId} {fr : Nat × Nat} {cs : Array Value} {l : List UInt8} (hg : W.heap[g]? = some (.cells cs t fr)) (hcs : cs.toList = cells8 l) (hB : g < B) : Sl W B (some ⟨g, 0, none⟩) l := by
 refine fun _ => ⟨g, 0, rfl, hB, fun j hj => ?_⟩
 rw [cell_of_row W g (0 + j) cs t fr hg, ← Array.getElem?_toList, hcs, Nat.zero_add]
 simp [cells8, hj]
def Own (w : World) (base : Nat) (e : TypeId) (v : Value) (l : List UInt8) : Prop := w.ownsRow base e 1 v l.length (cells8 l)
section
variable {w w' : World} {base : Nat} {e : TypeId} {v : Value} {l : List UInt8}
theorem Own.form (h : Own w base e v l) : ∃ A c, v = .slice A l.length c ∧ l.length ≤ c ∧ c ≤ maxLen ∧ Sl w w.heap.size A l ∧ (∀ a, A = some a → base ≤ a.block) := by
 have h' := h
 rcases h.2 with ⟨rfl, hn⟩ | ⟨g, cap, cur, rfl, hb, hg, hc, hm, _, _⟩
 ·exact ⟨none, 0, by rw [hn], by omega, Nat.zero_le _, fun hl => absurd hl (by omega), fun a ha => by cases ha⟩
 ·refine ⟨some ⟨g, 0, none⟩, cap, rfl, hc, hm, fun hl => ⟨g, 0, rfl, ?_, fun j hj => ?_⟩, fun a ha => by cases ha; exact hb⟩
  ·rcases Nat.lt_or_ge g w.heap.size with k | k
   ·exact k
   ·rw [Array.getElem?_eq_none k] at hg; cases hg
  ·have := World.ownsRow.cells h' (g := g) rfl j (by8 l[j]) (by simp [cells8, hj])
   rwa [Addr.add_lit] at this
theorem Own.at (h : Own w base e v l) (hl : 0 < l.length) : ∃ g c, v = .slice (some ⟨g, 0, none⟩) l.length c ∧ l.length ≤ c ∧ c ≤ maxLen ∧ base ≤ g ∧ g < w.heap.size := by
 rcases h.2 with ⟨_, hn⟩ | ⟨g, cap, cur, rfl, hb, hg, hc, hm, _, _⟩
 ·omega
 ·refine ⟨g, cap, rfl, hc, hm, hb, ?_⟩
  rcases Nat.lt_or_ge g w.heap.size with k | k
  ·exact k
  ·rw [Array.getElem?_eq_none k] at hg; cases hg
theorem Own.cell {g n c : Nat} (h : Own w base e (.slice (some ⟨g, 0, none⟩) n c) l) (j : Nat) (hj : j < l.length) : w.cell? ⟨g, j, none⟩ = some (by8 l[j]) := by
 have := World.ownsRow.cells h (g := g) rfl j (by8 l[j]) (by simp [cells8, hj])
 rwa [Addr.add_lit, Nat.zero_add] at this
theorem Own.frozen {g n c : Nat} (hn : l.length = n) (h : Own w base e (.slice (some ⟨g, 0, none⟩) n c) l) (j : Nat) : w.frozen? ⟨g, j, none⟩ = false := by
 subst hn
 exact World.ownsRow.frozenAt h j
theorem Own.store {g c : Nat} {n : Nat} (hn : l.length = n) (h : Own w base e (.slice (some ⟨g, 0, none⟩) n c) l) (j : Nat) (x : UInt8) :
  Own (w.setCell ⟨g, j, none⟩ (by8 x)) base e (.slice (some ⟨g, 0, none⟩) n c) (l.set j x) ∧ w.grownBy (w.setCell ⟨g, j, none⟩ (by8 x)) (some g) := by
 subst hn
 have := World.ownsRow.stored h j (by8 x)
 refine ⟨?_, this.2⟩
 unfold Own
 rw [List.length_set, show cells8 (l.set j x) = (cells8 l).set j (by8 x) by simp [cells8, List.map_set]]
 exact this.1
theorem Own.kept {row : Option Nat} (h : Own w base e v l) (hg : w.grownBy w' row) (hne : v.ownBlock = none ∨ v.ownBlock ≠ row) : Own w' base e v l := World.ownsRow.kept h hg hne
theorem Own.below (h : Own w base e v l) (hb : Below w.heap.size w w') : Own w' base e v l := by
 refine World.ownsRow.kept (row := none) h ⟨hb.os, hb.tape, hb.output, hb.size, fun k hk _ => hb.block k hk⟩ ?_
 rcases h.2 with ⟨rfl, _⟩ | ⟨g, _, _, rfl, _⟩
 ·exact .inl rfl
 ·exact .inr (by simp [Value.ownBlock])
theorem Own.less {base' : Nat} (h : Own w base e v l) (hb : base' ≤ base) : Own w base' e v l := by
 refine ⟨h.1, ?_⟩
 rcases h.2 with k | ⟨g, cap, cur, a, b, c⟩
 ·exact .inl k
 ·exact .inr ⟨g, cap, cur, a, by omega, c⟩
end
section
variable {P : Program}
theorem run_app (w : World) (base : Nat) (t tx ty e : TypeId) (i : TypeInfo) (z : Value) (size bytes : Nat) (ht : P.underlying t = some (.slice e)) (hi : P.info? e = some i) (hz : i.zero = some z)
  (hsize : i.size = size) (hby : i.bytes = bytes) (hzs : z.cells.size = size)
  (v : Value) (n : Nat) (xs : List Value) (hown : w.ownsRow base e size v n xs) (x : Value) (m : Nat) (news : List Value) (hs : Src P size tx x m news w)
  (h63 : n + m ≤ maxLen) (hbytes : (n + m) * bytes ≤ 140737488355328) (hbase : base ≤ w.heap.size) :
  ∃ v' w', (Builtin.append_ #[t, tx] ty #[v, x]).run P w = .ok v' w' ∧ w'.ownsRow base e size v' (n + m) (xs ++ news) ∧ w.grownBy w' v.ownBlock ∧
   (v'.ownBlock = v.ownBlock ∨ v'.ownBlock = some w.heap.size) := by
 subst hsize
 subst hby
 have hsmall : n + m ≤ 9223372036854775807 := by simp only [maxLen] at h63; omega
 have hlen : (xs ++ news).length = (n + m) * i.size := by rw [List.length_append, hown.1, hs.newsLen, Nat.add_mul]
 have grown : ∀ (old : Nat), old < n + m → ∀ (row : Option Nat),
   (w.drew.alloc (.cells ((xs ++ news).toArray ++ Builtin.zeroCells z.cells (grownCap w (n + m) old e - (n + m))) e)).ownsRow base e i.size
    (.slice (some ⟨w.heap.size, 0, none⟩) (n + m) (grownCap w (n + m) old e)) (n + m) (xs ++ news) ∧
   w.grownBy (w.drew.alloc (.cells ((xs ++ news).toArray ++ Builtin.zeroCells z.cells (grownCap w (n + m) old e - (n + m))) e)) row := by
  intro old ho row
  have hge := grownCap_ge w (n + m) old e
  have hcm : grownCap w (n + m) old e ≤ maxLen := grownCap_le_maxLen w (n + m) old e h63
  refine ⟨⟨hlen, .inr ⟨w.heap.size, _, _, rfl, hbase, heap_alloc_new w.drew _, hge, hcm, ?_, ?_⟩⟩, ⟨rfl, rfl, rfl, by simp, fun k hk _ => heap_alloc_old w.drew _ k hk⟩⟩
  ·simp only [Array.size_append, List.size_toArray, size_zeroCells, hzs, hlen, ← Nat.add_mul]
   congr 1
   omega
  ·simp only [Array.toList_append]
   rw [← hlen]
   exact List.take_left
 rcases hown.2 with ⟨rfl, rfl⟩ | ⟨g, cap, cur, rfl, hbg, hg, hnc, hcm, hcs, htake⟩
 ·have hx : xs = [] := List.eq_nil_of_length_eq_zero (by simpa using hown.1)
  subst hx
  by_cases hm : m = 0
  ·subst hm
   have hn : news = [] := List.eq_nil_of_length_eq_zero (by simpa using hs.newsLen)
   subst hn
   refine ⟨.slice none 0 0, w, ?_, World.ownsRow_nil w base e i.size, ⟨rfl, rfl, rfl, Nat.le_refl _, fun _ _ _ => rfl⟩, Or.inl rfl⟩
   have hcl := hs.cells
   rcases hs.kind with ⟨e', hk⟩ | hk <;>
    simp [Builtin.append_, run_underlying ht, run_underlying hk, sizeOf, typeInfo, hi, hs.len, hcl]
  ·have hold : (Builtin.firstCells i.size 0 (.slice none 0 0)).run P w.drew = .ok ([] : List Value).toArray w.drew := run_firstCells_none w.drew i.size 0 0 0
   have hr := run_append_grow_src (P := P) w t tx ty e i z ht hi hz none 0 0 [] hold x m news hs (by omega) (by omega) (growslice_fits (by omega) hbytes)
   have hgr := grown 0 (by omega) (Value.ownBlock (.slice none 0 0))
   exact ⟨_, _, hr, hgr.1, hgr.2, Or.inr rfl⟩
 ·by_cases hroom : n + m ≤ cap
  ·have hfit : n * i.size + news.length ≤ cur.size := by rw [hs.newsLen, hcs, ← Nat.add_mul]; exact Nat.mul_le_mul_right _ hroom
   have hst := run_storeCells_at P g (n * i.size) e news 0 cur w hg (by simpa using hfit) hs.one
   simp only [Nat.add_zero] at hst
   have hcl := hs.cells
   have hr : (Builtin.append_ #[t, tx] ty #[.slice (some ⟨g, 0, none⟩) n cap, x]).run P w =
     .ok (.slice (some ⟨g, 0, none⟩) (n + m) cap) (w.setRow g (cur.toList.take (n * i.size) ++ news ++ cur.toList.drop (n * i.size + news.length)).toArray) := by
    rcases hs.kind with ⟨e', hk⟩ | hk <;>
     simp [Builtin.append_, run_underlying ht, run_underlying hk, sizeOf, typeInfo, hi, hs.len, hroom, hcl, Addr.add_lit, hst]
   refine ⟨_, _, hr, ⟨hlen, .inr ⟨g, cap, _, rfl, hbg, setRow_heap w g cur _ e _ hg, hroom, hcm, ?_, ?_⟩⟩, ⟨rfl, rfl, rfl, by simp, fun k _ hk => setRow_other w g k _ (fun e => hk (by simp [Value.ownBlock, e]))⟩, Or.inl rfl⟩
   ·simp only [List.size_toArray, List.length_append, List.length_take, List.length_drop, Array.length_toList]
    omega
   ·rw [htake, ← hlen]
    exact List.take_left
  ·have holds : ∀ j u, xs[j]? = some u → w.cell? ((⟨g, 0, none⟩ : Addr).add j) = some u := hown.cells (g := g) rfl
   have hold : (Builtin.firstCells i.size n (.slice (some ⟨g, 0, none⟩) n cap)).run P w.drew = .ok xs.toArray w.drew :=
    run_firstCells_some w.drew i.size n ⟨g, 0, none⟩ n cap xs hown.1 (by simpa using holds)
   have hr := run_append_grow_src (P := P) w t tx ty e i z ht hi hz (some ⟨g, 0, none⟩) n cap xs hold x m news hs (by omega) (by omega) (growslice_fits (by omega) hbytes)
   have hgr := grown cap (by omega) (Value.ownBlock (.slice (some ⟨g, 0, none⟩) n cap))
   exact ⟨_, _, hr, hgr.1, hgr.2, Or.inr rfl⟩
def T8 (P : Program) (t e : TypeId) : Prop := P.underlying t = some (.slice e) ∧ P.underlying e = some (.int .u8) ∧ ∃ i, P.info? e = some i ∧ i.zero = some (.int .u8 0) ∧ i.size = 1 ∧ i.bytes = 1
theorem run_app8 (w : World) (base : Nat) (t tx ty e : TypeId) (hT : T8 P t e) (v : Value) (l : List UInt8) (hown : Own w base e v l) (x : Value) (m : List UInt8) (hs : Src P 1 tx x m.length (cells8 m) w)
  (hlen : l.length + m.length ≤ 140737488355328) (hbase : base ≤ w.heap.size) :
  ∃ v' w', (Builtin.append_ #[t, tx] ty #[v, x]).run P w = .ok v' w' ∧ Own w' base e v' (l ++ m) ∧ w.grownBy w' v.ownBlock ∧ (v'.ownBlock = v.ownBlock ∨ v'.ownBlock = some w.heap.size) := by
 obtain ⟨ht, _, i, hi, hz, h1, hb⟩ := hT
 obtain ⟨v', w', hr, ho, hg, hat⟩ := run_app (P := P) w base t tx ty e i (.int .u8 0) 1 1 ht hi hz h1 hb rfl v l.length (cells8 l) hown x m.length (cells8 m) hs (by simp only [maxLen]; omega) (by omega) hbase
 refine ⟨v', w', hr, ?_, hg, hat⟩
 unfold Own
 rw [List.length_append, cells8_append]
 exact ho
theorem wpList_app8 (w : World) {ops : Array Oper} {rest : List Oper} {o : Oper} {a : Act} {Q : Exit → Act → World → Prop} (hgd : o.guard = none) (s x : Operand) (t tx : TypeId)
  (ho : o.op = .call { callee := .builtin .append, args := #[s, x], argTypes := #[t, tx] })
  (base : Nat) (e : TypeId) (hT : T8 P t e) (v : Value) (l : List UInt8) (hv : a.eval s = v) (hown : Own w base e v l) (u : Value) (m : List UInt8) (hu : a.eval x = u) (hs : Src P 1 tx u m.length (cells8 m) w)
  (hlen : l.length + m.length ≤ 140737488355328) (hbase : base ≤ w.heap.size)
  (h : ∀ v' w', Own w' base e v' (l ++ m) → w.grownBy w' v.ownBlock → (v'.ownBlock = v.ownBlock ∨ v'.ownBlock = some w.heap.size) → wpList P ops Q rest (a.put o.dst v') w') : wpList P ops Q (o :: rest) a w :=
 wpList_plain hgd fun _ hK => by
  obtain ⟨v', w', hrun, h2, h3, h4⟩ := run_app8 (P := P) w base t tx o.type e hT v l hown u m hs hlen hbase
  have hK' := hK _ _ (h v' w' h2 h3 h4)
  unfold Oper.wp execOp
  simp only [ho, resolve, invoke, builtin, Sem.run_bind, Sem.run_pure, Result.andThen_ok, List.map_toArray, List.map_cons, List.map_nil, hv, hu, hrun]
  exact hK'
theorem step_app8 (w : World) {ops : Array Oper} {o : Oper} {a : Act} {K : Act → World → Prop} {Q : Exit → Act → World → Prop} {E : Prop} (hgd : o.guard = none) (s x : Operand) (t tx : TypeId)
  (ho : o.op = .call { callee := .builtin .append, args := #[s, x], argTypes := #[t, tx] })
  (base : Nat) (e : TypeId) (hT : T8 P t e) (v : Value) (l : List UInt8) (hv : a.eval s = v) (hown : Own w base e v l) (u : Value) (m : List UInt8) (hu : a.eval x = u) (hs : Src P 1 tx u m.length (cells8 m) w)
  (hlen : l.length + m.length ≤ 140737488355328) (hbase : base ≤ w.heap.size)
  (h : ∀ v' w', Own w' base e v' (l ++ m) → w.grownBy w' v.ownBlock → (v'.ownBlock = v.ownBlock ∨ v'.ownBlock = some w.heap.size) → K (a.put o.dst v') w') :
  if Region.wanted o (yielded ops a.tmps) = true then Oper.wp P o a w K Q else E := by
 have hw : Region.wanted o (yielded ops a.tmps) = true := by simp [Region.wanted, hgd]
 rw [if_pos hw]
 obtain ⟨v', w', hrun, h2, h3, h4⟩ := run_app8 (P := P) w base t tx o.type e hT v l hown u m hs hlen hbase
 have hK' := h v' w' h2 h3 h4
 unfold Oper.wp execOp
 simp only [ho, resolve, invoke, builtin, Sem.run_bind, Sem.run_pure, Result.andThen_ok, List.map_toArray, List.map_cons, List.map_nil, hv, hu, hrun]
 exact hK'
theorem Own.drew {w : World} {base : Nat} {e : TypeId} {v : Value} {l : List UInt8} (h : Own w base e v l) : Own w.drew base e v l := h
theorem own_nil (w : World) (base : Nat) (e : TypeId) : Own w base e (.slice none 0 0) [] := World.ownsRow_nil w base e 1
theorem Own.alloc {w : World} {base : Nat} {e : TypeId} {v : Value} {l : List UInt8} (h : Own w base e v l) (o : Obj) : Own (w.alloc o) base e v l := World.ownsRow.alloc h o
theorem own_made (w : World) (base cap : Nat) (e : TypeId) (cur : Array Value) (hb : base ≤ w.heap.size) (hm : cap ≤ maxLen) (hs : cur.size = cap) :
  Own (w.alloc (.cells cur e)) base e (.slice (some ⟨w.heap.size, 0, none⟩) 0 cap) [] := World.ownsRow_made w cur cap hb hm (by omega)
end
end Go.Proofs.YtbfdpibjicjagaaGreatDoor
