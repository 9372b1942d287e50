/-
  What the law DiskReads needs of plain disks. No condition.
-/
import Derived.Test.YtegcbmimndmfkaaDkY
namespace Go.Proofs.Ytegcbmimndmfkaa.dsk
open Go.RowKit Go.Lib

theorem lastW_len {n : Nat} : ∀ (ws : List Wri) (a : Int) (b : List UInt8), (∀ x ∈ ws, OkWri n x) → lastW ws a = some b → b.length ≤ 200
  | [], _, _, _, h => by cases h
  | x :: ws, a, b, hw, h => by
    rw [lastW] at h
    split at h
    · rename_i q
      obtain rfl := Option.some.inj h
      exact lastW_len ws a _ (fun y hy => hw y (List.mem_cons_of_mem _ hy)) q
    · split at h
      · obtain rfl := Option.some.inj h
        exact (hw x List.mem_cons_self).2.2
      · cases h
theorem content_len {D : Dsk} (h : Valid D) (a : Int) : (content D a).1.length ≤ 200 := by
  unfold content
  split
  · rename_i b q
    exact lastW_len _ _ _ h.2.2 q
  · split
    · exact Nat.zero_le _
    · rename_i c q
      split
      · exact (h.2.1 c (List.mem_of_getElem? q)).2.2.1
      · exact Nat.zero_le _
theorem readA_ok {D : Dsk} (h : Valid D) {a : Nat} (ha : a < D.cells.length) (hl : ¬ D.left = 0) : readA D a = (req D, (content D a).1, (content D a).2) := by
  unfold readA
  rw [if_neg (not_not_intro ⟨h, ⟨by omega, by omega⟩⟩), if_neg hl]
theorem content_req (D : Dsk) (a : Int) : content (req D) a = content D a := rfl
theorem req_valid {D : Dsk} (h : Valid D) : Valid (req D) := by
  obtain ⟨⟨⟨h1, h2, h3⟩, h4, h5, h6, h7⟩, hc, hw⟩ := h
  refine ⟨⟨⟨h1, h2, h3⟩, ?_, ?_, ?_, ?_⟩, hc, hw⟩
  · show 0 ≤ min (D.reqs + 1) 1048576; omega
  · show min (D.reqs + 1) 1048576 ≤ 1048576; omega
  · show -1 ≤ less D.left; unfold less; split <;> omega
  · show less D.left ≤ 1048576; unfold less; split <;> omega
theorem onto_okc {x : Wri} {n : Nat} (hx : OkWri n x) (c : Cel) (hc : OkCel c) : OkCel (onto x.bs c) := by
  unfold onto
  split
  · exact hc
  · exact ⟨by show (0 : Int) ≤ 0; omega, by show (0 : Int) ≤ 2; omega, hx.2.2, hc.2.2.1⟩
theorem flush_valid {D : Dsk} (h : Valid D) (f : Nat → Bool) : Valid ⟨play f 0 D.cells D.cache, [], (req D).reqs, (req D).left⟩ := by
  obtain ⟨⟨⟨h1, h2, -⟩, h4, h5, h6, h7⟩, hc, hw⟩ := req_valid h
  refine ⟨⟨⟨?_, ?_, by show (0 : Nat) ≤ 2000; omega⟩, h4, h5, h6, h7⟩, play_all OkCel _ _ _ _ hc fun x hx c k => onto_okc (hw x hx) c k, fun x hx => by cases hx⟩
  · show 1 ≤ (play f 0 D.cells D.cache).length; rw [play_length]; exact h1
  · show (play f 0 D.cells D.cache).length ≤ 300; rw [play_length]; exact h2
/-- What all writes make of a cell that can be written. -/
theorem play_cell (a : Nat) {n : Nat} : ∀ (ws : List Wri) (i : Nat) (cs : List Cel) (c : Cel), (∀ x ∈ ws, OkWri n x) → cs[a]? = some c → c.st ≠ 2 →
    ∃ c', (play (fun _ => true) i cs ws)[a]? = some c' ∧ match lastW ws a with | some b => c'.st = 0 ∧ c'.bs = b | none => c' = c
  | [], _, cs, c, _, h, _ => ⟨c, h, rfl⟩
  | x :: ws, i, cs, c, hw, h, hc => by
    have hx := (hw x List.mem_cons_self).1
    have hw' := fun y hy => hw y (List.mem_cons_of_mem x hy)
    by_cases e : x.addr = (a : Int)
    · have e1 : x.addr.toNat = a := by omega
      have h1 : (carry cs x)[a]? = some (onto x.bs c) := by
        unfold carry
        rw [e1, List.getElem?_modify, h]
        simp
      have h2 : onto x.bs c = ⟨0, x.bs, c.bs⟩ := if_neg hc
      rw [h2] at h1
      obtain ⟨c', k1, k2⟩ := play_cell a ws (i + 1) (carry cs x) _ hw' h1 (by show (0 : Int) ≠ 2; decide)
      refine ⟨c', k1, ?_⟩
      rw [lastW]
      revert k2
      cases lastW ws (a : Int) with
      | some b => exact fun k2 => k2
      | none => intro k2; subst k2; simp only [e, if_true, and_self]
    · have e1 : x.addr.toNat ≠ a := by omega
      have h1 : (carry cs x)[a]? = some c := by
        unfold carry
        rw [List.getElem?_modify, h]
        simp [e1]
      obtain ⟨c', k1, k2⟩ := play_cell a ws (i + 1) (carry cs x) _ hw' h1 hc
      refine ⟨c', k1, ?_⟩
      rw [lastW]
      revert k2
      cases lastW ws (a : Int) with
      | some b => exact fun k2 => k2
      | none => intro k2; simp only [e, if_false]; exact k2
theorem reads_of {D : Dsk} (hv : Valid D) (hl : D.left < 0 ∨ 5 ≤ D.left) (hc : D.cache.length < 50) (A B : Nat) (hA : A < D.cells.length) (hB : B < D.cells.length) (x : List UInt8) (hx : x.length ≤ 200) :
    ∃ C : List UInt8 × Int, readA D A = (req D, C.1, C.2) ∧ readA (req D) A = (req (req D), C.1, C.2) ∧ C.1.length ≤ 200 ∧
      (∃ (W : Dsk) (g : Int) (U : List UInt8 × Int), writeA D B x = (W, g) ∧ readA W A = (req W, U.1, U.2) ∧ U.1.length ≤ 200 ∧ (g = 0 ∨ g = 7) ∧ (A ≠ B → U = C) ∧ (A = B → g = 0 → U = (x, 0))) ∧
      ∃ (L : Dsk) (V : List UInt8 × Int), flushA D = (L, 0) ∧ readA L A = (req L, V.1, V.2) ∧ V.1.length ≤ 200 ∧ (C.2 = 0 → ∀ c, D.cells[A]? = some c → c.st ≠ 2 → V = C) := by
  have l0 : ¬ D.left = 0 := by omega
  have l1 : ¬ (req D).left = 0 := by
    show ¬ less D.left = 0
    unfold less; split <;> omega
  have v1 := req_valid hv
  refine ⟨content D A, readA_ok hv hA l0, readA_ok v1 hA l1, content_len hv A, ?_, ?_⟩
  · by_cases hb : bad D B
    · refine ⟨req D, 7, content D A, ?_, readA_ok v1 hA l1, content_len hv A, .inr rfl, fun _ => rfl, fun _ h => by cases h⟩
      unfold writeA
      rw [if_neg (not_not_intro ⟨hv, ⟨by omega, by omega⟩, hx⟩), if_neg l0, if_pos hb]
    · have v2 : Valid ⟨D.cells, D.cache ++ [⟨B, x⟩], (req D).reqs, (req D).left⟩ := by
        obtain ⟨⟨⟨h1, h2, h3⟩, h4⟩, h5, h6⟩ := v1
        refine ⟨⟨⟨h1, h2, ?_⟩, h4⟩, h5, fun y hy => ?_⟩
        · show (D.cache ++ [_]).length ≤ 2000
          rw [List.length_append, List.length_singleton]; omega
        · rcases List.mem_append.1 hy with q | q
          · exact h6 y q
          · obtain rfl := List.mem_singleton.1 q
            exact ⟨by show (0 : Int) ≤ B; omega, by show (B : Int) < D.cells.length; omega, hx⟩
      refine ⟨⟨D.cells, D.cache ++ [⟨B, x⟩], (req D).reqs, (req D).left⟩, 0, content ⟨D.cells, D.cache ++ [⟨B, x⟩], (req D).reqs, (req D).left⟩ A, ?_, readA_ok v2 hA l1, content_len v2 A, .inl rfl, fun h => ?_, fun h _ => ?_⟩
      · unfold writeA
        rw [if_neg (not_not_intro ⟨hv, ⟨by omega, by omega⟩, hx⟩), if_neg l0, if_neg hb]
      · unfold content
        rw [show (⟨D.cells, D.cache ++ [⟨B, x⟩], (req D).reqs, (req D).left⟩ : Dsk).cache = D.cache ++ [⟨B, x⟩] from rfl, lastW_append, if_neg (by show ¬ (B : Int) = A; omega)]
      · unfold content
        rw [show (⟨D.cells, D.cache ++ [⟨B, x⟩], (req D).reqs, (req D).left⟩ : Dsk).cache = D.cache ++ [⟨B, x⟩] from rfl, lastW_append, if_pos (by show (B : Int) = A; omega)]
  · have v3 := flush_valid hv fun _ => true
    refine ⟨⟨play (fun _ => true) 0 D.cells D.cache, [], (req D).reqs, (req D).left⟩, content ⟨play (fun _ => true) 0 D.cells D.cache, [], (req D).reqs, (req D).left⟩ A, ?_, readA_ok v3 (by show A < (play _ _ _ _).length; rw [play_length]; exact hA) l1, content_len v3 A, fun h0 c hcl hst => ?_⟩
    · unfold flushA
      rw [if_neg (not_not_intro hv), if_neg l0]
    · obtain ⟨c', k1, k2⟩ := play_cell A D.cache 0 D.cells c hv.2.2 hcl hst
      unfold content at h0 ⊢
      rw [show lastW (⟨play (fun _ => true) 0 D.cells D.cache, [], (req D).reqs, (req D).left⟩ : Dsk).cache (A : Int) = none from rfl]
      rw [show (⟨play (fun _ => true) 0 D.cells D.cache, [], (req D).reqs, (req D).left⟩ : Dsk).cells[(A : Int).toNat]? = some c' from k1]
      rw [show D.cells[(A : Int).toNat]? = some c from hcl] at h0 ⊢
      revert h0 k2
      cases lastW D.cache (A : Int) with
      | some b =>
        intro h0 k2
        dsimp only
        rw [if_pos k2.1, k2.2]
      | none =>
        intro h0 k2
        dsimp only at h0 ⊢
        subst k2
        by_cases hs : c'.st = 0
        · rw [if_pos hs]
        · rw [if_neg hs] at h0
end Go.Proofs.Ytegcbmimndmfkaa.dsk
