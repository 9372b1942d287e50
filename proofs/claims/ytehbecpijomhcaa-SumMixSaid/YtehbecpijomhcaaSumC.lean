/-
  'wakes' of the statements on checksums: it answers true; the document's turning of bits. Conditions: slices shorter than 2^16 bytes.
-/
import Derived.Test.YtehbecpijomhcaaSumB
import Derived.Laws.ShiftsVarLaws
import Derived.Lib.SlBytesConst
namespace Go.Proofs.Ytehbecpijomhcaa.crc
open Go.RowKit Go.Lib

theorem heap2 (w : World) (o o' : Obj) : ((w.alloc o).alloc o').heap[w.heap.size + 1]? = some o' := by
  have := heap_alloc_new (w.alloc o) o'
  rwa [show (w.alloc o).heap.size = w.heap.size + 1 by simp] at this
theorem heap3 (w : World) (o o' p : Obj) : (((w.alloc o).alloc o').alloc p).heap[w.heap.size + 1 + 1]? = some p := by
  have := heap_alloc_new ((w.alloc o).alloc o') p
  rwa [show ((w.alloc o).alloc o').heap.size = w.heap.size + 1 + 1 by simp] at this
theorem dig5 (W : World) (g B : Nat) (t : TypeId) (fr : Nat × Nat) (hg : W.heap[g]? = some (.cells #[.int .u8 49, .int .u8 50, .int .u8 51, .int .u8 52, .int .u8 53] t fr)) (hB : g < B) :
    Calls Try.prog 15 #[.slice (some ⟨g, 0, none⟩) 5 5] W fun e w' => e = .returned (.int .i64 416359221) ∧ W = w' := by
  have h := of_any (some ⟨g, 0, none⟩) 5 B [49, 50, 51, 52, 53] W (Sl.of_block hg rfl hB) (by decide)
  rw [show sum [49, 50, 51, 52, 53] = 416359221 by decide +kernel] at h
  exact h
theorem dig9 (W : World) (g B : Nat) (t : TypeId) (fr : Nat × Nat) (hg : W.heap[g]? = some (.cells #[.int .u8 49, .int .u8 50, .int .u8 51, .int .u8 52, .int .u8 53, .int .u8 54, .int .u8 55, .int .u8 56, .int .u8 57] t fr)) (hB : g < B) :
    Calls Try.prog 15 #[.slice (some ⟨g, 0, none⟩) 9 9] W fun e w' => e = .returned (.int .i64 3808858755) ∧ W = w' := by
  have h := of_any (some ⟨g, 0, none⟩) 9 B [49, 50, 51, 52, 53, 54, 55, 56, 57] W (Sl.of_block hg rfl hB) (by decide)
  rw [show sum [49, 50, 51, 52, 53, 54, 55, 56, 57] = 3808858755 by decide +kernel] at h
  exact h
theorem dig4 (W : World) (g B : Nat) (t : TypeId) (fr : Nat × Nat) (hg : W.heap[g]? = some (.cells #[.int .u8 54, .int .u8 55, .int .u8 56, .int .u8 57] t fr)) (hB : g < B) :
    Calls Try.prog 11 #[.int .i64 416359221, .slice (some ⟨g, 0, none⟩) 4 4] W fun e w' => e = .returned (.tuple #[.int .i64 3808858755, .int .i64 0]) ∧ W = w' := by
  have h := more_any 416359221 (some ⟨g, 0, none⟩) 4 B [54, 55, 56, 57] W (by omega) (Sl.of_block hg rfl hB) (by decide)
  rw [show more 416359221 [54, 55, 56, 57] = 3808858755 by decide +kernel] at h
  exact h
theorem tab0 (W : World) : Calls Try.prog 12 #[.int .i64 0] W fun e w' => e = .returned (.tuple #[.int .i64 0, .int .i64 0]) ∧ W = w' := table_any 0 W (by omega)

set_option maxHeartbeats 1000000 in
theorem wakes_any (w : World) :
    Calls Try.prog 18 #[] w fun e w' => e = .returned (.bool true) ∧ Below w.heap.size w w' := by
  have kc := fun (W : World) (C : Array Value) (n c : Nat) => Lib.run_convert_bytes_const (P := Try.prog) W 22 5 C n c Try.underlying22 Try.underlying5
  have k1 : ∀ (C : Array Value) (n c : Nat), _ := fun C n c => kc w C n c
  have k2 : ∀ (o : Obj) (C : Array Value) (n c : Nat), _ := fun o C n c => kc (w.alloc o) C n c
  have k3 : ∀ (o o' : Obj) (C : Array Value) (n c : Nat), _ := fun o o' C n c => kc ((w.alloc o).alloc o') C n c
  have s1 : ∀ o : Obj, (w.alloc o).heap.size = w.heap.size + 1 := fun o => by simp
  have s2 : ∀ o o' : Obj, ((w.alloc o).alloc o').heap.size = w.heap.size + 1 + 1 := fun o o' => by simp
  simp only [s1] at k2
  simp only [s2] at k3
  clear kc s1 s2
  go_enter Try.func18, Try.ntmps18
  go_wp2_with (first
    | (go_at_call 12; (with_reducible refine (tab0 _).mono ?_); rintro e w1 ⟨rfl, rfl⟩)
    | (go_at_call 15; (with_reducible refine (dig5 _ _ _ _ _ (heap_alloc_new _ _) (Nat.lt_succ_self _)).mono ?_); rintro e w2 ⟨rfl, rfl⟩)
    | (go_at_call 11; (with_reducible refine (dig4 _ _ _ _ _ (heap2 _ _ _) (Nat.lt_succ_self _)).mono ?_); rintro e w3 ⟨rfl, rfl⟩)
    | (go_at_call 15; (with_reducible refine (dig9 _ _ _ _ _ (heap3 _ _ _ _) (Nat.lt_succ_self _)).mono ?_); rintro e w4 ⟨rfl, rfl⟩))
  go_ret
  exact ⟨rfl, (((Below.refl w.heap.size w).alloc (Nat.le_refl _) _).alloc (by simp) _).alloc (by simp; omega) _⟩
end Go.Proofs.Ytehbecpijomhcaa.crc
