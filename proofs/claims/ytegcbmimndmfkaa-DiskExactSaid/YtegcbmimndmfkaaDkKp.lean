/-
  What the law DiskKeeps needs of plain disks. No condition.
-/
import Derived.Test.YtegcbmimndmfkaaDkY
namespace Go.Proofs.Ytegcbmimndmfkaa.dsk
open Go.RowKit Go.Lib

theorem play_append (f : Nat → Bool) (x : Wri) : ∀ (ws : List Wri) (i : Nat) (cs : List Cel), play f i cs (ws ++ [x]) = if f (i + ws.length) then carry (play f i cs ws) x else play f i cs ws
  | [], i, cs => by
    show play f i cs [x] = _
    rw [play]
    rfl
  | y :: ws, i, cs => by
    rw [List.cons_append, play, play_append f x ws, play, List.length_cons, show i + 1 + ws.length = i + (ws.length + 1) by omega]
/-- Behind k writes to a new disk of n cells: rs is what a cut-off keeps. -/
structure Keeps (n k : Nat) (f : Nat → Bool) (D : Dsk) (rs : List (List UInt8)) : Prop where
  cs : D.cells = List.replicate n ⟨0, [], []⟩
  ca : D.cache.length = k
  ok : ∀ x ∈ D.cache, OkWri n x
  rq : D.reqs = k
  lf : D.left = -1
  bs : (play f 0 D.cells D.cache).map Cel.bs = rs
  st : ∀ c ∈ play f 0 D.cells D.cache, c.st = 0
section
variable {n k : Nat} {f : Nat → Bool} {D : Dsk} {rs : List (List UInt8)}
theorem Keeps.len (h : Keeps n k f D rs) : rs.length = n := by
  rw [← h.bs, List.length_map, play_length, h.cs, List.length_replicate]
theorem Keeps.valid (h : Keeps n k f D rs) (h1 : 1 ≤ n) (h2 : n ≤ 8) (hk : k ≤ 31) : Valid D := by
  have e1 := congrArg List.length h.cs
  rw [List.length_replicate] at e1
  have e2 := h.ca
  have e3 := h.rq
  have e4 := h.lf
  refine ⟨⟨⟨by omega, by omega, by omega⟩, by omega, by omega, by omega, by omega⟩, fun c hc => ?_, fun x hx => ?_⟩
  · rw [h.cs] at hc
    obtain rfl := List.eq_of_mem_replicate hc
    exact ⟨by show (0 : Int) ≤ 0; omega, by show (0 : Int) ≤ 2; omega, by show (0 : Nat) ≤ 200; omega, by show (0 : Nat) ≤ 200; omega⟩
  · rw [e1]; exact h.ok x hx
theorem keeps_new : Keeps n 0 f ⟨List.replicate n ⟨0, [], []⟩, [], 0, -1⟩ (List.replicate n []) := by
  refine ⟨rfl, rfl, fun x hx => (by cases hx), rfl, rfl, ?_, fun c hc => ?_⟩
  · show (List.replicate n (⟨0, [], []⟩ : Cel)).map Cel.bs = _
    simp
  · obtain rfl := List.eq_of_mem_replicate (show c ∈ List.replicate n (⟨0, [], []⟩ : Cel) from hc)
    rfl
theorem new_ok (h1 : 1 ≤ n) (h2 : n ≤ 8) : newA n = (⟨List.replicate n ⟨0, [], []⟩, [], 0, -1⟩, 0) := by
  unfold newA
  rw [if_pos ⟨by omega, by omega⟩]
  rfl
theorem Keeps.write (h : Keeps n k f D rs) (h1 : 1 ≤ n) (h2 : n ≤ 8) (hk : k < 31) {a : Nat} (ha : a < n) {b : List UInt8} (hb : b.length ≤ 200) :
    ∃ D', writeA D a b = (D', 0) ∧ Keeps n (k + 1) f D' (if f k then rs.set a b else rs) := by
  have hv := h.valid h1 h2 (by omega)
  have e1 := congrArg List.length h.cs
  rw [List.length_replicate] at e1
  refine ⟨⟨D.cells, D.cache ++ [⟨a, b⟩], (req D).reqs, (req D).left⟩, ?_, ?_⟩
  · unfold writeA
    rw [if_neg (not_not_intro ⟨hv, ⟨by omega, by omega⟩, hb⟩), if_neg (by rw [h.lf]; decide), if_neg (fun hq => ?_)]
    rcases hq with hq | hq
    · rw [h.cs] at hq
      obtain ⟨c, hc, e⟩ := Option.map_eq_some_iff.1 hq
      obtain rfl := List.eq_of_mem_replicate (List.mem_of_getElem? hc)
      cases e
    · have := h.ca; omega
  · have hp := play_append f ⟨a, b⟩ D.cache 0 D.cells
    rw [Nat.zero_add, h.ca] at hp
    refine ⟨h.cs, by show (D.cache ++ [_]).length = _; rw [List.length_append, h.ca]; rfl, fun x hx => ?_, ?_, ?_, ?_, ?_⟩
    · rcases List.mem_append.1 hx with q | q
      · exact h.ok x q
      · obtain rfl := List.mem_singleton.1 q
        exact ⟨by show (0 : Int) ≤ a; omega, by show (a : Int) < n; omega, hb⟩
    · show min (D.reqs + 1) 1048576 = ((k + 1 : Nat) : Int)
      rw [h.rq]; omega
    · show less D.left = -1
      rw [h.lf]; rfl
    · show (play f 0 D.cells (D.cache ++ [⟨a, b⟩])).map Cel.bs = _
      rw [hp]
      split
      · unfold carry
        show ((play f 0 D.cells D.cache).modify a (onto b)).map Cel.bs = _
        rw [← h.bs]
        apply List.ext_getElem?
        intro i
        rw [List.getElem?_map, List.getElem?_modify, List.getElem?_set, List.getElem?_map]
        by_cases hi : a = i
        · subst hi
          have hl : a < (play f 0 D.cells D.cache).length := by rw [play_length]; omega
          have h0 : ((play f 0 D.cells D.cache)[a]).st = 0 := h.st _ (List.getElem_mem hl)
          rw [List.getElem?_eq_getElem hl]
          have : onto b (play f 0 D.cells D.cache)[a] = ⟨0, b, ((play f 0 D.cells D.cache)[a]).bs⟩ := if_neg (by rw [h0]; decide)
          simp [this, hl]
        · simp [hi]
      · exact h.bs
    · intro c hc
      have hc : c ∈ play f 0 D.cells (D.cache ++ [⟨a, b⟩]) := hc
      rw [hp] at hc
      split at hc
      · rcases mem_modify hc with q | ⟨z, hz, rfl⟩
        · exact h.st c q
        · have h0 := h.st z hz
          show (onto b z).st = 0
          rw [show onto b z = ⟨0, b, z.bs⟩ from if_neg (by rw [h0]; decide)]
      · exact h.st c hc
end
end Go.Proofs.Ytegcbmimndmfkaa.dsk
