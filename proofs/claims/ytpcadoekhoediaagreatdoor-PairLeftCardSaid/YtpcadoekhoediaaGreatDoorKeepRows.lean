/-
  Package casematekeep, as far as it is about lists of byte strings: Rows tells whether they are the same, TwinRows copies. Conditions: lists and byte strings shorter than 2^20.
-/
import Derived.Test.YtpcadoekhoediaaGreatDoorKeep
import Derived.Test.YtpcadoekhoediaaGreatDoorSlices
import Derived.Deep.RegionHeld3
namespace Go.Proofs.YtpcadoekhoediaaGreatDoor
open Go.RowKit Go.Lib

def Short (n : Nat) (rs : List Row) : Prop := ∀ r ∈ rs, r.l.length ≤ n
theorem b_info : (Tryz.prog.info? 28).map (fun i => (i.zero, i.size, i.bytes)) = some (some (.slice none 0 0), 1, 24) := by kernel_rfl
theorem srcV_one {P : Program} (w : World) {tx e' : TypeId} (hk : P.underlying tx = some (.slice e')) (x : Value) (hx : x.oneCell' = true) (t : TypeId) : Src P 1 tx (.slice (some ⟨w.heap.size, 0, none⟩) 1 1) [x].length [x] (w.alloc (.cells #[x] t)) :=
  (SlV.of_block (vs := [x]) (heap_alloc_new w _) rfl (Nat.lt_succ_self _)).src (fun u hu => by rw [List.mem_singleton] at hu; subst hu; exact hx) hk 1

theorem own_apart {w : World} {base base' : Nat} {e e' : TypeId} {v v' : Value} {l : List UInt8} {vs : List Value} (h : Own w base e v l) (k : OwnV w base' e' v' vs) (he : e ≠ e') : v.ownBlock = none ∨ v.ownBlock ≠ v'.ownBlock := by
  rcases h.2 with ⟨rfl, _⟩ | ⟨g, cap, cur, rfl, _, hg, _⟩
  · exact .inl rfl
  · right
    rcases k.2 with ⟨rfl, _⟩ | ⟨g', cap', cur', rfl, _, hg', _⟩
    · simp [Value.ownBlock]
    · intro hh
      simp only [Value.ownBlock, Option.some.injEq] at hh
      subst hh
      rw [hg] at hg'
      simp only [Option.some.injEq, Obj.cells.injEq] at hg'
      exact he hg'.2.1
theorem u8_other : 5 ≠ 28 := by decide

/-- Rows of the call's own (from block base on) with the bytes ls. -/
def OwnRows (w : World) (base : Nat) (v : Value) (rs : List Row) (ls : List (List UInt8)) : Prop :=
  OwnV w base 28 v (vals rs) ∧ lists rs = ls ∧ ∀ r ∈ rs, Own w base 5 r.v r.l
theorem row_sl {w : World} {base : Nat} {e : TypeId} {r : Row} (h : Own w base e r.v r.l) : Sl w w.heap.size r.A r.l := by
  obtain ⟨A, c, hv, _, _, hs, _⟩ := h.form
  unfold Row.v at hv
  simp only [Value.slice.injEq] at hv
  rw [hv.1]
  exact hs
theorem OwnRows.rws {w : World} {base : Nat} {v : Value} {rs : List Row} {ls : List (List UInt8)} (h : OwnRows w base v rs ls) : Rws w w.heap.size rs := fun r hr => row_sl (h.2.2 r hr)
theorem OwnRows.below {w w' : World} {base : Nat} {v : Value} {rs : List Row} {ls : List (List UInt8)} (h : OwnRows w base v rs ls) (hb : Below w.heap.size w w') : OwnRows w' base v rs ls :=
  ⟨h.1.below hb, h.2.1, fun r hr => (h.2.2 r hr).below hb⟩
theorem OwnRows.alloc {w : World} {base : Nat} {v : Value} {rs : List Row} {ls : List (List UInt8)} (h : OwnRows w base v rs ls) (o : Obj) : OwnRows (w.alloc o) base v rs ls :=
  ⟨h.1.alloc o, h.2.1, fun r hr => (h.2.2 r hr).alloc o⟩
/-- One row more, appended. -/
theorem OwnRows.more {w w' : World} {base : Nat} {v v' : Value} {rs : List Row} {ls : List (List UInt8)} (h : OwnRows w base v rs ls) {r : Row} (hr : Own w base 5 r.v r.l) (hv : OwnV w' base 28 v' (vals rs ++ [r.v])) (hg : w.grownBy w' v.ownBlock) :
    OwnRows w' base v' (rs ++ [r]) (ls ++ [r.l]) := by
  refine ⟨by rw [vals_append]; exact hv, by rw [lists_append, h.2.1]; rfl, fun q hq => ?_⟩
  have hq' : Own w base 5 q.v q.l := by
    rcases List.mem_append.1 hq with k | k
    · exact h.2.2 q k
    · rw [List.mem_singleton] at k
      rw [k]
      exact hr
  exact hq'.kept hg (own_apart hq' h.1 u8_other)
theorem OwnRows.len {w : World} {base : Nat} {v : Value} {rs : List Row} {ls : List (List UInt8)} (h : OwnRows w base v rs ls) : rs.length = ls.length := by
  rw [← h.2.1, lists_length]
theorem OwnRows.at {w : World} {base n : Nat} {v : Value} {rs : List Row} {ls : List (List UInt8)} (h : OwnRows w base v rs ls) (hn : ls.length = n) (h0 : 0 < n) : ∃ g c, v = .slice (some ⟨g, 0, none⟩) n c ∧ n ≤ c ∧ c ≤ maxLen ∧ base ≤ g ∧ g < w.heap.size := by
  have hv : (vals rs).length = n := by rw [vals_length, h.len, hn]
  obtain ⟨g, c, h1, h2, h3, h4, h5⟩ := h.1.at (by omega)
  rw [hv] at h1 h2
  exact ⟨g, c, h1, h2, h3, h4, h5⟩
/-- One row exchanged. -/
theorem OwnRows.set {w : World} {base g n c : Nat} {rs : List Row} {ls : List (List UInt8)} (h : OwnRows w base (.slice (some ⟨g, 0, none⟩) n c) rs ls) (hn : ls.length = n) (k : Nat) {r : Row} (hr : Own w base 5 r.v r.l) :
    OwnRows (w.setCell ⟨g, k, none⟩ r.v) base (.slice (some ⟨g, 0, none⟩) n c) (rs.set k r) (ls.set k r.l) ∧ w.grownBy (w.setCell ⟨g, k, none⟩ r.v) (some g) := by
  obtain ⟨h1, hg⟩ := h.1.store (by rw [vals_length, h.len, hn]) k r.v
  refine ⟨⟨by unfold vals; rw [List.map_set]; exact h1, by rw [← h.2.1]; unfold lists; rw [List.map_set], fun q hq => ?_⟩, hg⟩
  have hq' : Own w base 5 q.v q.l := by
    rcases List.mem_or_eq_of_mem_set hq with k | rfl
    · exact h.2.2 q k
    · exact hr
  exact hq'.kept hg (own_apart hq' h.1 u8_other)
theorem srcV_at {P : Program} {W : World} {tx e' : TypeId} (hk : P.underlying tx = some (.slice e')) (x : Value) (hx : x.oneCell' = true) (t : TypeId) (g : Nat) (fr : Nat × Nat) (hg : W.heap[g]? = some (.cells #[x] t fr)) : Src P 1 tx (.slice (some ⟨g, 0, none⟩) 1 1) [x].length [x] W := by
  have hlt : g < W.heap.size := by
    rcases Nat.lt_or_ge g W.heap.size with k | k
    · exact k
    · rw [Array.getElem?_eq_none k] at hg; cases hg
  exact (SlV.of_block (vs := [x]) hg rfl hlt).src (fun u hu => by rw [List.mem_singleton] at hu; subst hu; exact hx) hk 1
theorem own_nil_row (w : World) (base : Nat) : Own w base 5 (Row.v ⟨none, 0, []⟩) [] := own_nil w base _

end Go.Proofs.YtpcadoekhoediaaGreatDoor
