/-
  Rows of integers of one's own, and the list of them: made, one appended to. Conditions: none.
-/
import Derived.Test.YtalmimmcfjolkaaDoorGRa
import Derived.Test.YtalmimmcfjolkaaDoorGRd
import Derived.Test.YtalmimmcfjolkaaDoorGAw
namespace Go.Proofs.YtalmimmcfjolkaaDoor.rng
open Go.RowKit Go.Lib
open Go.Proofs.YtalmimmcfjolkaaDoor.anc (row_form row_below row_apart)

/-- A row of integers: where it lies, its capacity, what it holds. -/
structure NR where
  A : Option Addr
  c : Nat
  vs : List Int
def NR.v (r : NR) : Value := .slice r.A r.vs.length r.c
theorem int_ints : 3 ≠ 27 := by decide
theorem nr_info : (Tryd.prog.info? 27).map (fun i => (i.zero, i.size, i.bytes)) = some (some (.slice none 0 0), 1, 24) := by kernel_rfl
def ncells (n : Nat) : Array Value := madeCells #[.slice none 0 0] n
theorem ncells_list (n : Nat) : (ncells n).toList = (List.replicate n (⟨none, 0, []⟩ : NR)).map NR.v := by
  unfold ncells madeCells
  apply List.ext_getElem
  · simp
  · intro i h2 h3
    simp [Nat.mod_one, NR.v]
theorem ncells_size (n : Nat) : (ncells n).size = n := by simp [ncells, madeCells]
theorem make_nrs (n : Nat) (hn : n ≤ 1048576) (W : World) : (Instr.makeSlice 35 (.int .i64 (n : Int)) (.int .i64 (n : Int))).run Tryd.prog W = .ok (.slice (some ⟨W.heap.size, 0, none⟩) n n) (W.alloc (.cells (ncells n) 27)) := by
  have h := nr_info
  cases hi : Tryd.prog.info? 27 with
  | none => rw [hi] at h; cases h
  | some i =>
    rw [hi] at h
    simp only [Option.map_some, Option.some.injEq, Prod.mk.injEq] at h
    obtain ⟨h1, h2, h3⟩ := h
    have hr := run_make (P := Tryd.prog) W 35 27 i _ Tryd.underlying35 hi h1 .i64 .i64 (n : Int) (n : Int) (by omega) (by omega) (by rw [h3]; omega) (by omega)
    simpa [h2, ncells, Value.cells] using hr
/-- A list of rows of integers, all of one's own, no two in one block. -/
structure OwnN (w : World) (base g N : Nat) (rs : List NR) : Prop where
  h : OwnV w base 27 (.slice (some ⟨g, 0, none⟩) N N) (rs.map NR.v)
  o : ∀ r ∈ rs, OwnV w base 3 r.v (ints r.vs)
  p : rs.Pairwise fun r q => r.v.ownBlock = none ∨ r.v.ownBlock ≠ q.v.ownBlock
theorem pairwise_set {rs : List NR} {R : NR → NR → Prop} {i : Nat} {r' : NR} (h : rs.Pairwise R) (h1 : ∀ j (hj : j < rs.length), j < i → R rs[j] r') (h2 : ∀ j (hj : j < rs.length), i < j → R r' rs[j]) : (rs.set i r').Pairwise R := by
  rw [List.pairwise_iff_getElem] at h ⊢
  intro a b ha hb hab
  rw [List.length_set] at ha hb
  rw [List.getElem_set, List.getElem_set]
  by_cases ea : i = a
  · rw [if_pos ea, if_neg (by omega)]
    exact h2 b hb (by omega)
  · rw [if_neg ea]
    by_cases eb : i = b
    · rw [if_pos eb]
      exact h1 a ha (by omega)
    · rw [if_neg eb]
      exact h a b ha hb hab
section
variable {w w' : World} {base g N i : Nat} {rs : List NR} {r : NR}
theorem OwnN.below (h : OwnN w base g N rs) (hb : Below w.heap.size w w') : OwnN w' base g N rs := ⟨h.h.below hb, fun r hr => (h.o r hr).below hb, h.p⟩
theorem OwnN.len (h : OwnN w base g N rs) : rs.length = N := by
  obtain ⟨A, c, e, -⟩ := h.h.form
  simp only [Value.slice.injEq] at e
  have := e.2.1
  rw [List.length_map] at this
  exact this.symm
theorem OwnN.cell (h : OwnN w base g N rs) (hi : rs[i]? = some r) : w.cell? ⟨g, i, none⟩ = some (.slice r.A r.vs.length r.c) := by
  obtain ⟨hl, rfl⟩ := List.getElem?_eq_some_iff.1 hi
  have h1 := h.h.cell i (by rw [List.length_map]; exact hl)
  rw [h1, List.getElem_map]
  rfl
theorem OwnN.frozen (h : OwnN w base g N rs) (i : Nat) : w.frozen? ⟨g, i, none⟩ = false := OwnV.frozen (by rw [List.length_map, h.len]) h.h i
theorem OwnN.at (h : OwnN w base g N rs) : base ≤ g ∧ g < w.heap.size := World.ownsRow.lt h.h g rfl
theorem OwnN.head (h : OwnN w base g N rs) (hi : rs[i]? = some r) (hg : w.grownBy w' r.v.ownBlock) : w'.cell? ⟨g, i, none⟩ = some (.slice r.A r.vs.length r.c) ∧ w'.frozen? ⟨g, i, none⟩ = false := by
  obtain ⟨hl, rfl⟩ := List.getElem?_eq_some_iff.1 hi
  have hr1 := h.o _ (List.getElem_mem hl)
  have hh : OwnV w' base 27 (.slice (some ⟨g, 0, none⟩) N N) (rs.map NR.v) := by
    refine h.h.kept hg ?_
    rcases row_apart hr1 h.h int_ints with k | k
    · rw [k]
      exact .inr (by intro e; cases e)
    · exact .inr fun e => k e.symm
  refine ⟨?_, OwnV.frozen (by rw [List.length_map, h.len]) hh i⟩
  have h1 := hh.cell i (by rw [List.length_map]; exact hl)
  rw [h1, List.getElem_map]
  rfl
theorem OwnN.far (h : OwnN w base g N rs) (hi : rs[i]? = some r) : ∀ q, r.v.ownBlock = some q → base ≤ q := fun q hq => (World.ownsRow.lt (h.o r (List.mem_of_getElem? hi)) q hq).1
theorem own_formI {x : Int} {vs : List Int} {v : Value} (h : OwnV w base 3 v (ints vs ++ [.int .i64 x])) : ∃ (A : Option Addr) (c : Nat), v = .slice A (vs.length + 1) c ∧ OwnV w base 3 (.slice A (vs.length + 1) c) (ints (vs ++ [x])) := by
  obtain ⟨A, c, e, -⟩ := h.form
  rw [List.length_append, ints_length, List.length_singleton] at e
  subst e
  refine ⟨A, c, rfl, ?_⟩
  rw [show ints (vs ++ [x]) = ints vs ++ [.int .i64 x] by simp [ints]]
  exact h
/-- One appended to a row of them. -/
theorem OwnN.app {x : Int} {A' : Option Addr} {c' : Nat} (h : OwnN w base g N rs) (hi : rs[i]? = some r) (ho : OwnV w' base 3 (.slice A' (r.vs.length + 1) c') (ints (r.vs ++ [x]))) (hg : w.grownBy w' r.v.ownBlock) (hd : (Value.slice A' (r.vs.length + 1) c').ownBlock = r.v.ownBlock ∨ (Value.slice A' (r.vs.length + 1) c').ownBlock = some w.heap.size) :
    OwnN (w'.setCell ⟨g, i, none⟩ (.slice A' (r.vs.length + 1) c')) base g N (rs.set i ⟨A', c', r.vs ++ [x]⟩) := by
  obtain ⟨hl, hr⟩ := List.getElem?_eq_some_iff.1 hi
  have hm : r ∈ rs := List.mem_of_getElem? hi
  have hr1 := h.o r hm
  have hv : NR.v ⟨A', c', r.vs ++ [x]⟩ = .slice A' (r.vs.length + 1) c' := by simp [NR.v]
  have hh : OwnV w' base 27 (.slice (some ⟨g, 0, none⟩) N N) (rs.map NR.v) := by
    refine h.h.kept hg ?_
    rcases row_apart hr1 h.h int_ints with k | k
    · rw [k]
      exact .inr (by intro e; cases e)
    · exact .inr fun e => k e.symm
  have hlt : ∀ q ∈ rs, ∀ b, q.v.ownBlock = some b → b < w.heap.size := fun q hq b hb' => (World.ownsRow.lt (h.o q hq) b hb').2
  have ap : ∀ j (hj : j < rs.length), j ≠ i → (rs[j].v.ownBlock = none ∨ rs[j].v.ownBlock ≠ r.v.ownBlock) := by
    intro j hj hne
    have hp := List.pairwise_iff_getElem.1 h.p
    rcases Nat.lt_or_gt_of_ne hne with k | k
    · have := hp j i hj hl k
      rw [hr] at this
      exact this
    · have := hp i j hl hj k
      rw [hr] at this
      rcases this with e | e
      · cases hq : rs[j].v.ownBlock with
        | none => exact .inl rfl
        | some b => exact .inr (by rw [e]; intro q; cases q)
      · exact .inr fun q => e q.symm
  have ap2 : ∀ j (hj : j < rs.length), j ≠ i → (rs[j].v.ownBlock = none ∨ rs[j].v.ownBlock ≠ (Value.slice A' (r.vs.length + 1) c').ownBlock) := by
    intro j hj hne
    rcases hd with e | e
    · rw [e]; exact ap j hj hne
    · rw [e]
      cases hq : rs[j].v.ownBlock with
      | none => exact .inl rfl
      | some b =>
        have := hlt _ (List.getElem_mem hj) b hq
        exact .inr fun q => by
          have := Option.some.inj q
          omega
  refine ⟨?_, fun q hq => ?_, ?_⟩
  · have h1 := (OwnV.store (by rw [List.length_map, h.len]) hh i (.slice A' (r.vs.length + 1) c')).1
    rw [← hv] at h1 ⊢
    rw [List.map_set]
    exact h1
  · have hne : ∀ {u : Value} {us : List Value}, OwnV w' base 3 u us → u.ownBlock ≠ some g := fun hu e => by
      rcases row_apart hu hh int_ints with k | k
      · rw [k] at e; cases e
      · exact k (by rw [e]; rfl)
    obtain ⟨j, hj, rfl⟩ := List.mem_iff_getElem.1 hq
    rw [List.length_set] at hj
    rw [List.getElem_set]
    split
    · rw [hv]
      exact ownsRow_setCell_other ho (hne ho) _
    · rename_i hij
      have h1 : OwnV w' base 3 rs[j].v (ints rs[j].vs) := (h.o _ (List.getElem_mem hj)).kept hg (ap j hj (fun e => hij e.symm))
      exact ownsRow_setCell_other h1 (hne h1) _
  · refine pairwise_set h.p (fun j hj hji => ?_) (fun j hj hji => ?_)
    · rw [hv]
      exact ap2 j hj (by omega)
    · rw [hv]
      rcases ap2 j hj (by omega) with e | e
      · rw [e]
        cases hq : (Value.slice A' (r.vs.length + 1) c').ownBlock with
        | none => exact .inl rfl
        | some b => exact .inr (by intro q; cases q)
      · exact .inr fun q => e q.symm
theorem ownN_new (W : World) (base n : Nat) (hn : n ≤ 1048576) (hb : base ≤ W.heap.size) : OwnN (W.alloc (.cells (ncells n) 27)) base W.heap.size n (List.replicate n ⟨none, 0, []⟩) := by
  refine ⟨?_, fun r hr => ?_, ?_⟩
  · unfold OwnV
    rw [List.length_map, List.length_replicate, ← ncells_list]
    exact World.ownsRow_lit W (ncells n) n hb (by unfold maxLen; omega) (by rw [ncells_size]; omega)
  · rw [(List.mem_replicate.1 hr).2]
    exact ownV_nil _ _ _
  · rw [List.pairwise_iff_getElem]
    intro a b ha hb hab
    rw [List.getElem_replicate]
    exact .inl rfl
end
end Go.Proofs.YtalmimmcfjolkaaDoor.rng
