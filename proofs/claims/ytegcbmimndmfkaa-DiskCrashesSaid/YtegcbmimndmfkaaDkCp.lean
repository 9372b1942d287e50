/-
  What the law DiskCrashes needs of plain disks. No condition.
-/
import Derived.Test.YtegcbmimndmfkaaDkRp
import Derived.Test.YtegcbmimndmfkaaDkKp
namespace Go.Proofs.Ytegcbmimndmfkaa.dsk
open Go.RowKit Go.Lib

theorem play_offc (f : Nat → Bool) (hf : ∀ i, f i = false) : ∀ (ws : List Wri) (i : Nat) (cs : List Cel), play f i cs ws = cs
  | [], _, _ => rfl
  | x :: ws, i, cs => by
    rw [play, hf i]
    exact play_offc f hf ws (i + 1) cs
theorem pick_allc : pick 2147483647 = fun _ => true := by
  funext i
  show Nat.testBit (2 ^ 31 - 1) (i % 31) = true
  rw [Nat.testBit_two_pow_sub_one]
  exact decide_eq_true (Nat.mod_lt i (by decide))
theorem pick_zeroc (i : Nat) : pick 0 i = false := by
  show Nat.testBit 0 (i % 31) = false
  exact Nat.zero_testBit _
/-- All cells can be read and written; sure is what was flushed, now what is read. -/
structure Cr (n i : Nat) (D : Dsk) (sure now : List (List UInt8)) : Prop where
  c : D.cells.length = n
  st : ∀ c ∈ D.cells, c.st = 0 ∧ OkCel c
  ok : ∀ x ∈ D.cache, OkWri n x
  ca : D.cache.length ≤ i
  rq : 0 ≤ D.reqs ∧ D.reqs ≤ 1048576
  lf : D.left = -1
  sure : D.cells.map Cel.bs = sure
  now : (play (fun _ => true) 0 D.cells D.cache).map Cel.bs = now
section
variable {n i : Nat} {D : Dsk} {sure now : List (List UInt8)}
theorem Cr.lens (h : Cr n i D sure now) : sure.length = n ∧ now.length = n := by
  rw [← h.sure, ← h.now, List.length_map, List.length_map, play_length]
  exact ⟨h.c, h.c⟩
theorem Cr.valid (h : Cr n i D sure now) (h1 : 1 ≤ n) (h2 : n ≤ 8) (hi : i ≤ 200) : Valid D := by
  have e1 := h.c
  have e2 := h.ca
  have e3 := h.rq
  have e4 := h.lf
  exact ⟨⟨⟨by omega, by omega, by omega⟩, by omega, by omega, by omega, by omega⟩, fun c hc => (h.st c hc).2, fun x hx => by rw [e1]; exact h.ok x hx⟩
theorem okst_play (f : Nat → Bool) (h : Cr n i D sure now) : ∀ c ∈ play f 0 D.cells D.cache, c.st = 0 ∧ OkCel c :=
  play_all (fun c => c.st = 0 ∧ OkCel c) _ _ _ _ h.st fun x hx c k => ⟨by rw [show onto x.bs c = ⟨0, x.bs, c.bs⟩ from if_neg (by rw [k.1]; decide)], onto_okc (h.ok x hx) c k.2⟩
theorem req_num (h : Cr n i D sure now) : (0 ≤ (req D).reqs ∧ (req D).reqs ≤ 1048576) ∧ (req D).left = -1 := by
  have e3 := h.rq
  refine ⟨⟨?_, ?_⟩, ?_⟩
  · show 0 ≤ min (D.reqs + 1) 1048576; omega
  · show min (D.reqs + 1) 1048576 ≤ 1048576; omega
  · show less D.left = -1; rw [h.lf]; rfl
theorem cr_new (n : Nat) : Cr n 0 ⟨List.replicate n ⟨0, [], []⟩, [], 0, -1⟩ (List.replicate n []) (List.replicate n []) := by
  refine ⟨List.length_replicate, fun c hc => ?_, fun x hx => (by cases hx), Nat.le_refl _, ⟨by show (0 : Int) ≤ 0; omega, by show (0 : Int) ≤ 1048576; omega⟩, rfl, ?_, ?_⟩
  · obtain rfl := List.eq_of_mem_replicate (show c ∈ List.replicate n (⟨0, [], []⟩ : Cel) from hc)
    exact ⟨rfl, by decide⟩
  · show (List.replicate n (⟨0, [], []⟩ : Cel)).map Cel.bs = _
    simp
  · show (List.replicate n (⟨0, [], []⟩ : Cel)).map Cel.bs = _
    simp
theorem Cr.read (h : Cr n i D sure now) (h1 : 1 ≤ n) (h2 : n ≤ 8) (hi : i ≤ 200) {a : Nat} (ha : a < n) :
    ∃ b, now[a]? = some b ∧ b.length ≤ 200 ∧ readA D a = (req D, b, 0) ∧ Cr n (i + 1) (req D) sure now := by
  have hv := h.valid h1 h2 hi
  have hl : a < D.cells.length := by rw [h.c]; exact ha
  have hs := h.st _ (List.getElem_mem hl)
  obtain ⟨c', k1, k2⟩ := play_cell a D.cache 0 D.cells _ h.ok (List.getElem?_eq_getElem hl) (by rw [hs.1]; decide)
  have hcn : content D a = (c'.bs, 0) := by
    unfold content
    rw [show D.cells[(a : Int).toNat]? = some (D.cells[a]'hl) from List.getElem?_eq_getElem hl]
    revert k2
    cases lastW D.cache (a : Int) with
    | some b => intro k2; dsimp only; rw [k2.2]
    | none => intro k2; dsimp only at k2 ⊢; rw [if_pos hs.1, k2]
  refine ⟨c'.bs, ?_, ?_, ?_, ?_⟩
  · rw [← h.now, List.getElem?_map, k1]; rfl
  · exact (okst_play _ h c' (List.mem_of_getElem? k1)).2.2.2.1
  · rw [readA_ok hv hl (by rw [h.lf]; decide), hcn]
  · exact ⟨h.c, h.st, h.ok, Nat.le_succ_of_le h.ca, (req_num h).1, (req_num h).2, h.sure, h.now⟩
theorem Cr.write (h : Cr n i D sure now) (h1 : 1 ≤ n) (h2 : n ≤ 8) (hi : i ≤ 200) {a : Nat} (ha : a < n) {b : List UInt8} (hb : b.length ≤ 200) :
    ∃ D', writeA D a b = (D', 0) ∧ Cr n (i + 1) D' sure (now.set a b) := by
  have hv := h.valid h1 h2 hi
  have hl : a < D.cells.length := by rw [h.c]; exact ha
  refine ⟨⟨D.cells, D.cache ++ [⟨a, b⟩], (req D).reqs, (req D).left⟩, ?_, ?_⟩
  · unfold writeA
    rw [if_neg (not_not_intro ⟨hv, ⟨by omega, by omega⟩, hb⟩), if_neg (by rw [h.lf]; decide), if_neg (fun hq => ?_)]
    rcases hq with hq | hq
    · obtain ⟨c, hc, e⟩ := Option.map_eq_some_iff.1 hq
      have := (h.st c (List.mem_of_getElem? hc)).1
      omega
    · have := h.ca; omega
  · have hp := play_append (fun _ => true) ⟨a, b⟩ D.cache 0 D.cells
    rw [if_pos rfl] at hp
    refine ⟨h.c, h.st, fun x hx => ?_, by show (D.cache ++ [_]).length ≤ _; rw [List.length_append]; have := h.ca; simp; omega, (req_num h).1, (req_num h).2, h.sure, ?_⟩
    · rcases List.mem_append.1 hx with q | q
      · exact h.ok x q
      · obtain rfl := List.mem_singleton.1 q
        exact ⟨by show (0 : Int) ≤ a; omega, by show (a : Int) < n; omega, hb⟩
    · show (play (fun _ => true) 0 D.cells (D.cache ++ [⟨a, b⟩])).map Cel.bs = _
      rw [hp]
      unfold carry
      show ((play (fun _ => true) 0 D.cells D.cache).modify a (onto b)).map Cel.bs = _
      rw [← h.now]
      apply List.ext_getElem?
      intro j
      rw [List.getElem?_map, List.getElem?_modify, List.getElem?_set, List.getElem?_map]
      by_cases hj : a = j
      · subst hj
        have hl2 : a < (play (fun _ => true) 0 D.cells D.cache).length := by rw [play_length]; exact hl
        have h0 := (okst_play (fun _ => true) h _ (List.getElem_mem hl2)).1
        rw [List.getElem?_eq_getElem hl2]
        have : onto b (play (fun _ => true) 0 D.cells D.cache)[a] = ⟨0, b, ((play (fun _ => true) 0 D.cells D.cache)[a]).bs⟩ := if_neg (by rw [h0]; decide)
        simp [this, hl2]
      · simp [hj]
theorem Cr.flush (h : Cr n i D sure now) (h1 : 1 ≤ n) (h2 : n ≤ 8) (hi : i ≤ 200) : ∃ D', flushA D = (D', 0) ∧ Cr n (i + 1) D' now now := by
  refine ⟨⟨play (fun _ => true) 0 D.cells D.cache, [], (req D).reqs, (req D).left⟩, ?_, ⟨by show (play _ _ _ _).length = n; rw [play_length]; exact h.c, okst_play _ h, fun x hx => (by cases hx), Nat.zero_le _, (req_num h).1, (req_num h).2, h.now, h.now⟩⟩
  unfold flushA
  rw [if_neg (not_not_intro (h.valid h1 h2 hi)), if_neg (by rw [h.lf]; decide)]
theorem Cr.crash0 (h : Cr n i D sure now) (h1 : 1 ≤ n) (h2 : n ≤ 8) (hi : i ≤ 200) : ∃ D', crashA D 0 = (D', 0) ∧ D'.cache = [] ∧ Cr n (i + 1) D' sure sure := by
  refine ⟨⟨D.cells, [], D.reqs, -1⟩, ?_, rfl, ⟨h.c, h.st, fun x hx => (by cases hx), Nat.zero_le _, h.rq, rfl, h.sure, h.sure⟩⟩
  unfold crashA
  rw [if_neg (not_not_intro ⟨h.valid h1 h2 hi, Int.le_refl 0⟩), play_offc _ pick_zeroc]
theorem Cr.crash1 (h : Cr n i D sure now) (h1 : 1 ≤ n) (h2 : n ≤ 8) (hi : i ≤ 200) : ∃ D', crashA D 2147483647 = (D', 0) ∧ D'.cache = [] ∧ Cr n (i + 1) D' now now := by
  refine ⟨⟨play (fun _ => true) 0 D.cells D.cache, [], D.reqs, -1⟩, ?_, rfl, ⟨by show (play _ _ _ _).length = n; rw [play_length]; exact h.c, okst_play _ h, fun x hx => (by cases hx), Nat.zero_le _, h.rq, rfl, h.now, h.now⟩⟩
  unfold crashA
  rw [if_neg (not_not_intro ⟨h.valid h1 h2 hi, by decide⟩), pick_allc]
end
end Go.Proofs.Ytegcbmimndmfkaa.dsk
