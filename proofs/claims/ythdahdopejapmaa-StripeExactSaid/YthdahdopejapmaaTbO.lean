/-
  A table of one's own, one of its entries written over, or cut off. Conditions: each law's own.
-/
import Derived.Test.YthdahdopejapmaaGTa
import Derived.Test.YthdahdopejapmaaAnSet
namespace Go.Proofs.Ythdahdopejapmaa.tbl
open Go.RowKit Go.Lib
open Go.Proofs.Ythdahdopejapmaa.anc (flat_set)

theorem TV.Own.row {w : World} {base : Nat} {t : TV} (h : t.Own w base) (hl : 0 < t.es.length) : ∃ g, t.A = some ⟨g, 0, none⟩ ∧ g < w.heap.size ∧ base ≤ g := by
  have h1 : w.ownsRow base 61 3 (.slice t.A t.es.length t.c) t.es.length (evs t.es) := h
  rcases h1.2 with ⟨e, -⟩ | ⟨g, cap, cur, e, -⟩
  · obtain ⟨h2, -⟩ := h1
    simp only [Value.slice.injEq] at e
    omega
  · simp only [Value.slice.injEq] at e
    obtain ⟨e, -, -⟩ := e
    have := World.ownsRow.lt h1 g (by rw [e]; rfl)
    exact ⟨g, e, this.2, this.1⟩
theorem TV.Own.frozen {w : World} {base g : Nat} {t : TV} (h : t.Own w base) (hg : t.A = some ⟨g, 0, none⟩) (j : Nat) : w.frozen? ⟨g, j, none⟩ = false := by
  have h1 : w.ownsRow base 61 3 (.slice t.A t.es.length t.c) t.es.length (evs t.es) := h
  rw [hg] at h1
  exact World.ownsRow.frozenAt h1 j
theorem TV.Own.store {w : World} {base g j i : Nat} {t : TV} {e e' : Ent} {v : Value} (h : t.Own w base) (hg : t.A = some ⟨g, 0, none⟩) (hj : t.es[j]? = some e) (hi : i < 3) (hv : e'.vs = e.vs.set i v) :
    TV.Own (w.setCell ⟨g, j * 3 + i, none⟩ v) base ⟨t.A, t.c, t.es.set j e'⟩ := by
  have h1 : w.ownsRow base 61 3 (.slice t.A t.es.length t.c) t.es.length (evs t.es) := h
  rw [hg] at h1
  show World.ownsRow _ base 61 3 (.slice t.A (t.es.set j e').length t.c) (t.es.set j e').length (evs (t.es.set j e'))
  have hf : evs (t.es.set j e') = (evs t.es).set (j * 3 + i) v := flat_set Ent.vs 3 (fun _ => rfl) t.es j i e' v hi (fun y hy => by
    rw [hj] at hy
    rw [← Option.some.inj hy]
    exact hv)
  rw [hf, List.length_set, hg]
  exact (World.ownsRow.stored h1 (j * 3 + i) v).1
theorem TV.In.drop {w : World} {B b off : Nat} {t : TV} (h : t.In w B) (hA : t.A = some ⟨b, off, none⟩) : TV.In w B ⟨some ⟨b, off + 3, none⟩, t.c - 1, t.es.drop 1⟩ := by
  have h1 := h.h
  rw [hA] at h1
  have h2 := h1.drop 3
  have he : (evs t.es).drop 3 = evs (t.es.drop 1) := by
    rcases t.es with _ | ⟨e, es⟩
    · rfl
    · simp [evs, Ent.vs]
  rw [he] at h2
  have h3 := h.l
  exact ⟨h2, by show (t.es.drop 1).length ≤ t.c - 1 ∧ t.c - 1 ≤ maxLen; rw [List.length_drop]; omega⟩
/-- append of rows of k cells; where they lie then. -/
theorem wpList_row4 {P : Program} (w : World) {ops : Array Oper} {rest : List Oper} {o : Oper} {a : Act} {Q : Exit → Act → World → Prop} (hgd : o.guard = none) (s x : Operand) (t tx : TypeId)
    (ho : o.op = .call { callee := .builtin .append, args := #[s, x], argTypes := #[t, tx] })
    (base k bytes : Nat) (e : TypeId) (z : Value) (ht : P.underlying t = some (.slice e)) (hi : (P.info? e).map (fun i => (i.zero, i.size, i.bytes)) = some (some z, k, bytes)) (hz : z.cells.size = k)
    (v : Value) (n : Nat) (xs : List Value) (hv : a.eval s = v) (hown : w.ownsRow base e k v n xs) (u : Value) (m : Nat) (news : List Value) (hu : a.eval x = u) (hs : Src P k tx u m news w)
    (h63 : n + m ≤ maxLen) (hlen : (n + m) * bytes ≤ 140737488355328) (hbase : base ≤ w.heap.size)
    (h : ∀ v' w', w'.ownsRow base e k v' (n + m) (xs ++ news) → w.grownBy w' v.ownBlock → (v'.ownBlock = v.ownBlock ∨ v'.ownBlock = some w.heap.size) → wpList P ops Q rest (a.put o.dst v') w') : wpList P ops Q (o :: rest) a w :=
  wpList_plain hgd fun _ hK => by
    cases hi' : P.info? e with
    | none => rw [hi'] at hi; cases hi
    | some i =>
      rw [hi'] at hi
      simp only [Option.map_some, Option.some.injEq, Prod.mk.injEq] at hi
      obtain ⟨v', w', hrun, h2, h3, h4⟩ := run_app (P := P) w base t tx o.type e i z k bytes ht hi' hi.1 hi.2.1 hi.2.2 hz v n xs hown u m news hs h63 hlen hbase
      have hK' := hK _ _ (h v' w' h2 h3 h4)
      unfold Oper.wp execOp
      simp only [ho, resolve, invoke, builtin, Sem.run_bind, Sem.run_pure, Result.andThen_ok, List.map_toArray, List.map_cons, List.map_nil, hv, hu, hrun]
      exact hK'
end Go.Proofs.Ythdahdopejapmaa.tbl
