/-
  casematekeep.TwinDisk: a disk like it, all of one's own. Conditions: rows and byte strings shorter than 2^20.
-/
import Derived.Test.YtegcbmimndmfkaaDkF
import Derived.Test.YtegcbmimndmfkaaKeepRows
namespace Go.Proofs.Ytegcbmimndmfkaa.dsk
open Go.RowKit Go.Lib

theorem ks {B b o : Nat} {a W : World} {v : Value} (h : Below B a W) (hb : b < B) (hv : a.cell? ⟨b, o, none⟩ = some v) : W.cell? ⟨b, o, none⟩ = some v := (h.cell (p := ⟨b, o, none⟩) hb).trans hv
theorem bm {B : Nat} {a b c : World} (h : Below B a b) (hB : B ≤ a.heap.size) (k : Below b.heap.size b c) : Below B a c := h.trans (k.mono (Nat.le_trans hB h.size))
theorem ka {B : Nat} {a W : World} (h : Below B a W) (hB : B ≤ a.heap.size) (o : Obj) : Below B a (W.alloc o) := h.alloc (Nat.le_trans hB h.size) o
theorem row_apart {w : World} {base base' k k' n n' : Nat} {e e' : TypeId} {v v' : Value} {xs xs' : List Value} (h : w.ownsRow base e k v n xs) (h' : w.ownsRow base' e' k' v' n' xs') (he : e ≠ e') : v.ownBlock = none ∨ v.ownBlock ≠ v'.ownBlock := by
  rcases h.2 with ⟨rfl, _⟩ | ⟨g, cap, cur, rfl, _, hg, _⟩
  · exact .inl rfl
  · right
    rcases h'.2 with ⟨rfl, _⟩ | ⟨g', cap', cur', rfl, _, hg', _⟩
    · simp [Value.ownBlock]
    · intro hh
      simp only [Value.ownBlock, Option.some.injEq] at hh
      subst hh
      rw [hg] at hg'
      simp only [Option.some.injEq, Obj.cells.injEq] at hg'
      exact he hg'.2.1

theorem row_form {w : World} {base k n : Nat} {e : TypeId} {v : Value} {xs : List Value} (h : w.ownsRow base e k v n xs) : ∃ A c, v = .slice A n c ∧ n ≤ c ∧ c ≤ maxLen ∧ SlV w w.heap.size A xs := by
  have h' := h
  rcases h.2 with ⟨rfl, hn⟩ | ⟨g, cap, cur, rfl, hb, hg, hc, hm, _, _⟩
  · refine ⟨none, 0, by rw [hn], by omega, Nat.zero_le _, fun hl => ?_⟩
    have := h.1
    rw [hn] at this
    omega
  · refine ⟨some ⟨g, 0, none⟩, cap, rfl, hc, hm, fun hl => ⟨g, 0, rfl, ?_, fun j hj => ?_⟩⟩
    · rcases Nat.lt_or_ge g w.heap.size with k | k
      · exact k
      · rw [Array.getElem?_eq_none k] at hg; cases hg
    · have := World.ownsRow.cells h' (g := g) rfl j xs[j] (by simp [hj])
      rwa [Addr.add_lit] at this
/-- A slice of cells of one's own, and all that it holds; a slice of writes. -/
def OwnC (w : World) (base : Nat) (v : Value) (rs : List CellR) : Prop :=
  w.ownsRow base 64 3 v rs.length (cvs rs) ∧ ∀ r ∈ rs, Own w base 5 r.b.v r.b.l ∧ Own w base 5 r.o.v r.o.l
def OwnW (w : World) (base : Nat) (v : Value) (rs : List WriR) : Prop :=
  w.ownsRow base 72 2 v rs.length (wvs rs) ∧ ∀ r ∈ rs, Own w base 5 r.b.v r.b.l
theorem u8_cell : 5 ≠ 64 := by decide
theorem u8_write : 5 ≠ 72 := by decide
theorem cell_write : 64 ≠ 72 := by decide
theorem row_below {w w' : World} {base k n : Nat} {e : TypeId} {v : Value} {xs : List Value} (h : w.ownsRow base e k v n xs) (hb : Below w.heap.size w w') : w'.ownsRow base e k v n xs := by
  refine World.ownsRow.kept (row := none) h ⟨hb.os, hb.tape, hb.output, hb.size, fun k hk _ => hb.block k hk⟩ ?_
  rcases h.2 with ⟨rfl, _⟩ | ⟨g, _, _, rfl, _⟩
  · exact .inl rfl
  · exact .inr (by simp [Value.ownBlock])
section
variable {w w' : World} {base : Nat} {v v' : Value} {cs : List CellR} {ws : List WriR}
theorem ownC_nil (w : World) (base : Nat) : OwnC w base (.slice none 0 0) [] := ⟨World.ownsRow_nil w base _ 3, fun r hr => by cases hr⟩
theorem ownW_nil (w : World) (base : Nat) : OwnW w base (.slice none 0 0) [] := ⟨World.ownsRow_nil w base _ 2, fun r hr => by cases hr⟩
theorem OwnC.below (h : OwnC w base v cs) (hb : Below w.heap.size w w') : OwnC w' base v cs := ⟨row_below h.1 hb, fun r hr => ⟨(h.2 r hr).1.below hb, (h.2 r hr).2.below hb⟩⟩
theorem OwnW.below (h : OwnW w base v ws) (hb : Below w.heap.size w w') : OwnW w' base v ws := ⟨row_below h.1 hb, fun r hr => (h.2 r hr).below hb⟩
/-- Where another row (of another type) of one's own grows. -/
theorem OwnC.other {base' k n : Nat} {e : TypeId} {xs : List Value} (h : OwnC w base v cs) (h' : w.ownsRow base' e k v' n xs) (hg : w.grownBy w' v'.ownBlock) (h1 : 64 ≠ e) (h2 : 5 ≠ e) : OwnC w' base v cs :=
  ⟨World.ownsRow.kept h.1 hg (row_apart h.1 h' h1), fun r hr => ⟨(h.2 r hr).1.kept hg (row_apart (h.2 r hr).1 h' h2), (h.2 r hr).2.kept hg (row_apart (h.2 r hr).2 h' h2)⟩⟩
theorem OwnC.more {r : CellR} (h : OwnC w base v cs) (hg : w.grownBy w' v.ownBlock) (hb : Own w base 5 r.b.v r.b.l) (ho : Own w base 5 r.o.v r.o.l) (h' : w'.ownsRow base 64 3 v' (cs.length + 1) (cvs cs ++ r.vs)) : OwnC w' base v' (cs ++ [r]) := by
  have hk : ∀ {q : Row}, Own w base 5 q.v q.l → Own w' base 5 q.v q.l := fun hq => hq.kept hg (row_apart hq h.1 u8_cell)
  refine ⟨?_, fun x hx => ?_⟩
  · rw [List.length_append, cvs_append, show cvs [r] = r.vs by simp [cvs]]
    exact h'
  · rcases List.mem_append.1 hx with k | k
    · exact ⟨hk (h.2 x k).1, hk (h.2 x k).2⟩
    · obtain rfl : x = r := List.mem_singleton.1 k
      exact ⟨hk hb, hk ho⟩
theorem OwnW.more {r : WriR} (h : OwnW w base v ws) (hg : w.grownBy w' v.ownBlock) (hb : Own w base 5 r.b.v r.b.l) (h' : w'.ownsRow base 72 2 v' (ws.length + 1) (wvs ws ++ r.vs)) : OwnW w' base v' (ws ++ [r]) := by
  have hk : ∀ {q : Row}, Own w base 5 q.v q.l → Own w' base 5 q.v q.l := fun hq => hq.kept hg (row_apart hq h.1 u8_write)
  refine ⟨?_, fun x hx => ?_⟩
  · rw [List.length_append, wvs_append, show wvs [r] = r.vs by simp [wvs]]
    exact h'
  · rcases List.mem_append.1 hx with k | k
    · exact hk (h.2 x k)
    · obtain rfl : x = r := List.mem_singleton.1 k
      exact hk hb
end

theorem OwnC.cell_set {w : World} {base g o : Nat} {v : Value} {cs : List CellR} (h : OwnC w base v cs) (hg : g < base) (x : Value) : OwnC (w.setCell ⟨g, o, none⟩ x) base v cs := by
  have hne : ∀ {e : TypeId} {u : Value} {k n : Nat} {xs : List Value}, w.ownsRow base e k u n xs → u.ownBlock ≠ some g := fun hu k => by have := (World.ownsRow.lt hu g k).1; omega
  exact ⟨ownsRow_setCell_other h.1 (hne h.1) x, fun r hr => ⟨ownsRow_setCell_other (h.2 r hr).1 (hne (h.2 r hr).1) x, ownsRow_setCell_other (h.2 r hr).2 (hne (h.2 r hr).2) x⟩⟩
theorem OwnW.cell_set {w : World} {base g o : Nat} {v : Value} {cs : List WriR} (h : OwnW w base v cs) (hg : g < base) (x : Value) : OwnW (w.setCell ⟨g, o, none⟩ x) base v cs := by
  have hne : ∀ {e : TypeId} {u : Value} {k n : Nat} {xs : List Value}, w.ownsRow base e k u n xs → u.ownBlock ≠ some g := fun hu k => by have := (World.ownsRow.lt hu g k).1; omega
  exact ⟨ownsRow_setCell_other h.1 (hne h.1) x, fun r hr => ownsRow_setCell_other (h.2 r hr) (hne (h.2 r hr)) x⟩

theorem own_rin {w : World} {base : Nat} {e : TypeId} {r : Row} (h : Own w base e r.v r.l) : RIn w w.heap.size r := by
  obtain ⟨A, c, hv, h1, h2, hs, _⟩ := h.form
  unfold Row.v at hv
  simp only [Value.slice.injEq] at hv
  obtain ⟨ha, -, hc⟩ := hv
  exact ⟨by rw [ha]; exact hs, by omega, by omega⟩
theorem ownC_in {w : World} {base c : Nat} {A : Option Addr} {rs : List CellR} (h : OwnC w base (.slice A rs.length c) rs) : SlV w w.heap.size A (cvs rs) ∧ CIn w w.heap.size rs ∧ rs.length ≤ c ∧ c ≤ maxLen := by
  obtain ⟨A', c', hv, h1, h2, hs⟩ := row_form h.1
  simp only [Value.slice.injEq] at hv
  obtain ⟨rfl, -, rfl⟩ := hv
  exact ⟨hs, fun r hr => ⟨own_rin (h.2 r hr).1, own_rin (h.2 r hr).2⟩, h1, h2⟩
theorem ownW_in {w : World} {base c : Nat} {A : Option Addr} {rs : List WriR} (h : OwnW w base (.slice A rs.length c) rs) : SlV w w.heap.size A (wvs rs) ∧ WIn w w.heap.size rs ∧ rs.length ≤ c ∧ c ≤ maxLen := by
  obtain ⟨A', c', hv, h1, h2, hs⟩ := row_form h.1
  simp only [Value.slice.injEq] at hv
  obtain ⟨rfl, -, rfl⟩ := hv
  exact ⟨hs, fun r hr => own_rin (h.2 r hr), h1, h2⟩

theorem c_info : (Try.prog.info? 64).map (fun i => (i.zero, i.size, i.bytes)) = some (some (.agg #[.int .i64 0, .slice none 0 0, .slice none 0 0]), 3, 56) := by kernel_rfl
theorem w_info : (Try.prog.info? 72).map (fun i => (i.zero, i.size, i.bytes)) = some (some (.agg #[.int .i64 0, .slice none 0 0]), 2, 32) := by kernel_rfl

/-- append of rows of k cells, in a region that draws. -/
theorem step_row {P : Program} (w : World) {ops : Array Oper} {o : Oper} {a : Act} {K : Act → World → Prop} {Q : Exit → Act → World → Prop} {E : Prop} (hgd : o.guard = none) (s x : Operand) (t tx : TypeId)
    (ho : o.op = .call { callee := .builtin .append, args := #[s, x], argTypes := #[t, tx] })
    (base k bytes : Nat) (e : TypeId) (z : Value) (ht : P.underlying t = some (.slice e)) (hi : (P.info? e).map (fun i => (i.zero, i.size, i.bytes)) = some (some z, k, bytes)) (hz : z.cells.size = k)
    (v : Value) (n : Nat) (xs : List Value) (hv : a.eval s = v) (hown : w.ownsRow base e k v n xs) (u : Value) (m : Nat) (news : List Value) (hu : a.eval x = u) (hs : Src P k tx u m news w)
    (h63 : n + m ≤ maxLen) (hlen : (n + m) * bytes ≤ 140737488355328) (hbase : base ≤ w.heap.size)
    (h : ∀ v' w', w'.ownsRow base e k v' (n + m) (xs ++ news) → w.grownBy w' v.ownBlock → K (a.put o.dst v') w') :
    if Region.wanted o (yielded ops a.tmps) = true then Oper.wp P o a w K Q else E := by
  have hw : Region.wanted o (yielded ops a.tmps) = true := by simp [Region.wanted, hgd]
  rw [if_pos hw]
  cases hi' : P.info? e with
  | none => rw [hi'] at hi; cases hi
  | some i =>
    rw [hi'] at hi
    simp only [Option.map_some, Option.some.injEq, Prod.mk.injEq] at hi
    obtain ⟨v', w', hrun, h2, h3, h4⟩ := run_app (P := P) w base t tx o.type e i z k bytes ht hi' hi.1 hi.2.1 hi.2.2 hz v n xs hown u m news hs h63 hlen hbase
    have hK' := h v' w' h2 h3
    unfold Oper.wp execOp
    simp only [ho, resolve, invoke, builtin, Sem.run_bind, Sem.run_pure, Result.andThen_ok, List.map_toArray, List.map_cons, List.map_nil, hv, hu, hrun]
    exact hK'
/-- A row just laid, as append's source. -/
theorem src_cell {P : Program} {w : World} {g : Nat} {t tx e' : TypeId} {a b c : Value} (hg : w.heap[g]? = some (.cells #[a, b, c] t)) (hk : P.underlying tx = some (.slice e')) (h1 : ∀ u ∈ [a, b, c], u.oneCell' = true) : Src P 3 tx (.slice (some ⟨g, 0, none⟩) 1 1) 1 [a, b, c] w := by
  refine Src.ofSlice w hk ⟨g, 0, none⟩ 1 1 [a, b, c] rfl (fun j u hu => ?_) h1
  rw [Addr.add_lit, cell_of_row w g (0 + j) _ t _ hg, Nat.zero_add, ← Array.getElem?_toList]
  exact hu
theorem src_write {P : Program} {w : World} {g : Nat} {t tx e' : TypeId} {a b : Value} (hg : w.heap[g]? = some (.cells #[a, b] t)) (hk : P.underlying tx = some (.slice e')) (h1 : ∀ u ∈ [a, b], u.oneCell' = true) : Src P 2 tx (.slice (some ⟨g, 0, none⟩) 1 1) 1 [a, b] w := by
  refine Src.ofSlice w hk ⟨g, 0, none⟩ 1 1 [a, b] rfl (fun j u hu => ?_) h1
  rw [Addr.add_lit, cell_of_row w g (0 + j) _ t _ hg, Nat.zero_add, ← Array.getElem?_toList]
  exact hu
end Go.Proofs.Ytegcbmimndmfkaa.dsk
