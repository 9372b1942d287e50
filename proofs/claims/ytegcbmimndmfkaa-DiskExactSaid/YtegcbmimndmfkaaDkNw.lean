/-
  A disk made anew (New, the program's). No condition.
-/
import Derived.Test.YtegcbmimndmfkaaDkCr
namespace Go.Proofs.Ytegcbmimndmfkaa.dsk
open Go.RowKit Go.Lib

theorem new_at (n : Int) (w : World) :
    Calls Try.prog 28 #[.int .i64 n] w fun e w' => Wd w.heap.size (newA n) e w' ∧ Below w.heap.size w w' := by
  have Q0 := four_new w (.slice none 0 0) (.slice none 0 0) (.int .i64 0) (.int .i64 0) 25
  have B0 := bl w (.cells #[.slice none 0 0, .slice none 0 0, .int .i64 0, .int .i64 0] 25)
  have S0 : (w.alloc (.cells #[.slice none 0 0, .slice none 0 0, .int .i64 0, .int .i64 0] 25)).heap.size = w.heap.size + 1 := by simp
  unfold newA
  by_cases h : 1 ≤ n ∧ n ≤ 300
  · rw [if_pos h]
    obtain ⟨k, rfl⟩ : ∃ k : Nat, n = k := ⟨n.toNat, by omega⟩
    have mc := make_cells k (by omega)
    have h1 : ¬ ((k : Int) < 1) := by omega
    have h2 : ¬ (300 < (k : Int)) := by omega
    go_enter Try.func28, Try.ntmps28
    go_wp2_with fail
    have k4 := (four_new w (.slice (some ⟨w.heap.size + 1, 0, none⟩) k k) (.slice none 0 0) (.int .i64 0) (.int .i64 (-1)) 25).alloc (by simp) (.cells (zcs k) 64)
    have hB := kal (bl w (.cells #[.slice (some ⟨w.heap.size + 1, 0, none⟩) k k, .slice none 0 0, .int .i64 0, .int .i64 (-1)] 25)) (.cells (zcs k) 64)
    have hz := own_zcs k w.heap.size (w.alloc (.cells #[.slice (some ⟨w.heap.size + 1, 0, none⟩) k k, .slice none 0 0, .int .i64 0, .int .i64 (-1)] 25)) (by simp) (by omega)
    rw [World.size_alloc] at hz
    refine bodyPost_ret (v := .tuple #[.agg #[.slice (some ⟨w.heap.size + 1, 0, none⟩) k k, .slice none 0 0, .int .i64 0, .int .i64 (-1)], .int .i64 0]) (by simp [results, Try.results28, go_sem, k4.c0, k4.c1, k4.c2, k4.c3]) rfl ⟨⟨⟨some ⟨w.heap.size + 1, 0, none⟩, k, List.replicate k zcell, none, 0, [], 0, -1⟩, by simp [DV.v], ?_, ⟨by simpa using hz, World.ownsRow_nil _ _ _ _, ?_, WIn.nil _ _⟩⟩, hB⟩
    · show (⟨cds (List.replicate k zcell), [], 0, -1⟩ : Dsk) = _
      rw [cds_zero]
    · intro r hr
      obtain rfl := List.eq_of_mem_replicate hr
      exact ⟨zrow_in _ _, zrow_in _ _⟩
  · rw [if_neg h]
    by_cases h1 : n < 1
    · clear h
      go_enter Try.func28, Try.ntmps28
      go_wp2_with fail
      refine bodyPost_ret (v := .tuple #[.agg #[.slice none 0 0, .slice none 0 0, .int .i64 0, .int .i64 0], .int .i64 1]) (by simp [results, Try.results28, go_sem, Q0.c0, Q0.c1, Q0.c2, Q0.c3]) rfl ⟨⟨zdv, rfl, rfl, zdv_own _ _⟩, B0⟩
    · have h2 : 300 < n := by omega
      clear h
      go_enter Try.func28, Try.ntmps28
      go_wp2_with fail
      refine bodyPost_ret (v := .tuple #[.agg #[.slice none 0 0, .slice none 0 0, .int .i64 0, .int .i64 0], .int .i64 1]) (by simp [results, Try.results28, go_sem, Q0.c0, Q0.c1, Q0.c2, Q0.c3]) rfl ⟨⟨zdv, rfl, rfl, zdv_own _ _⟩, B0⟩
end Go.Proofs.Ytegcbmimndmfkaa.dsk
