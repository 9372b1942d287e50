/-
  The document's own answers for numbers as bytes (as the statements' package gives them), each by its contract; 'wakes'. Conditions: slices shorter than 2^20.
-/
import Derived.Test.YthdahdopejapmaaGPk
namespace Go.Proofs.Ythdahdopejapmaa.pck
open Go.RowKit Go.Lib

theorem le_next (k m : Nat) : le (k + 1) m = le k m ++ [UInt8.ofNat (m / 256 ^ k % 256)] := by
  induction k generalizing m with
  | zero => simp [le]
  | succ k ih =>
    rw [le, ih]
    simp only [le, List.cons_append, Nat.div_div_eq_div_mul, Nat.pow_succ]
    rw [Nat.mul_comm 256 (256 ^ k)]
theorem src_one' (w : World) (n : Nat) (t : TypeId) : Src Try.prog 1 29 (.slice (some ⟨w.heap.size, 0, none⟩) 1 1) [UInt8.ofNat (n % 256)].length (cells8 [UInt8.ofNat (n % 256)]) (w.alloc (.cells #[.int .u8 ((n : Int) % 256)] t)) :=
  src_new (l := [UInt8.ofNat (n % 256)]) (cs := #[.int .u8 ((n : Int) % 256)]) 1 (heap_alloc_new _ _) (by simp only [cells8, List.map_cons, List.map_nil, by8, byte_toNat]; rfl)
set_option maxRecDepth 100000 in
set_option maxHeartbeats 1000000 in
theorem ref_put (k m n : Nat) (A : Option Addr) (c : Nat) (l : List UInt8) (w : World) (hk : k ≤ 8) (hm : m < 4294967296) (hln : l.length = n) (hl : n ≤ 1048576) (hA : Sl w w.heap.size A l) :
    Calls Try.prog 58 #[.slice A n c, .int .i64 m, .int .i64 k] w fun e w' => One w.heap.size (l ++ le k m) e w' ∧ Below w.heap.size w w' := by
  have cT : Calls Try.prog 30 #[.slice A n c] w fun e w' => One w.heap.size l e w' ∧ Below w.heap.size w w' := by
    have := twin_any A c _ l w hA (by omega)
    rwa [hln] at this
  clear hA
  go_enter Try.func58, Try.ntmps58
  go_wp2_with (go_at_call 30; (with_reducible refine cT.mono ?_); rintro e w1 ⟨⟨v1, rfl, hown1⟩, hb1⟩)
  go_loopw [1, 7, 8] (fun x v i w' => ∃ j : Nat, j ≤ k ∧ i = .int .i64 j ∧ x = .int .i64 (m / 256 ^ j : Nat) ∧ Own w' w.heap.size 5 v (l ++ le j m) ∧ Below w.heap.size w w') (fun _ _ i _ => k - (RowKit.intOf i).toNat)
  case atStart => exact ⟨0, by omega, rfl, by simp, by simpa [le] using hown1, hb1⟩
  case round =>
    clear cT hown1 hb1
    rename_i wr
    obtain ⟨j, hj, rfl, rfl, hown, hbr⟩ := hrel
    have lw := hbr.size
    by_cases hlt : j < k
    · have i1 : (j : Int) < (k : Int) := by omega
      have hd : m / 256 ^ j ≤ m := Nat.div_le_self _ _
      have HN : Hid (le (j + 1) m = le j m ++ [UInt8.ofNat (m / 256 ^ j % 256)] ∧ m / 256 ^ (j + 1) = m / 256 ^ j / 256) := ⟨le_next j m, by rw [Nat.pow_succ, Nat.div_div_eq_div_mul]⟩
      have hlen : (l ++ le j m).length = n + j := by rw [List.length_append, le_length, hln]
      generalize m / 256 ^ j = y at *
      have i2 : (y : Int) < 4294967296 := by omega
      have i3 : (0 : Int) ≤ (y : Int) := by omega
      have hs := fun (W : World) => src_one' W y 5
      clear hd hln
      go_wp2_with (first
        | (at_builtin
           refine wpList_app8 _ rfl (.tmp 16) (.tmp 19) _ _ rfl w.heap.size 5 t8 _ _ rfl (hown.alloc _) _ [UInt8.ofNat (y % 256)] rfl (hs wr) ?_ ?_ ?_
           · rw [hlen]; simp; omega
           · simp; omega
           intro v2 w2 hown2 hg2 hat2))
      have hb2 := (hbr.alloc lw (.cells #[.int .u8 ((y : Int) % 256)] 5)).grown hg2 (by simp; omega) (own_far hown)
      go_roundw
      case rel => exact ⟨j + 1, by omega, by go_num, by rw [HN.out.2]; go_num, by rw [HN.out.1, ← List.append_assoc]; exact hown2, hb2⟩
      case measure => simp [RowKit.intOf]; omega
    · obtain rfl : j = k := by omega
      go_wp2
      go_ret
      exact ⟨⟨_, rfl, hown⟩, hbr⟩

theorem wk_keep (t : TypeId) (X : Option Addr) (c : Nat) (w : World) (h : Sl w w.heap.size X [9, 1, 2]) : Calls Try.prog 24 #[.slice X 3 c, .slice (some ⟨w.heap.size, 0, none⟩) 3 3] (w.alloc (.cells #[.int .u8 9, .int .u8 1, .int .u8 2] t)) fun e w' => e = .returned (.bool true) ∧ Below w.heap.size w w' := by
  have hb : Below w.heap.size w (w.alloc (.cells #[.int .u8 9, .int .u8 1, .int .u8 2] t)) := (Below.refl _ _).alloc (Nat.le_refl _) _
  refine (keep_any X (some ⟨w.heap.size, 0, none⟩) c 3 w.heap.size (w.heap.size + 1) [9, 1, 2] [9, 1, 2] _ (h.below hb) (Sl.of_block (heap_alloc_new w _) rfl (by omega)) hb.size (by simp) (by decide)).mono ?_
  rintro e w' ⟨rfl, hb'⟩
  exact ⟨by simp, bt hb hb'⟩
end Go.Proofs.Ythdahdopejapmaa.pck
