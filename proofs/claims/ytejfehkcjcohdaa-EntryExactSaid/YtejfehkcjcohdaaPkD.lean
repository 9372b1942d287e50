/-
  The document's own answers for numbers as bytes (as the statements' package gives them), each by its contract; 'wakes'. Conditions: slices shorter than 2^20.
-/
import Derived.Test.YtejfehkcjcohdaaGPk
namespace Go.Proofs.Ytejfehkcjcohdaa.pck
open Go.RowKit Go.Lib

theorem le_next (k m : Nat) : le (k + 1) m = le k m ++ [UInt8.ofNat (m / 256 ^ k % 256)] := by
  induction k generalizing m with
  | zero => simp [le]
  | succ k ih =>
    rw [le, ih]
    simp only [le, List.cons_append, Nat.div_div_eq_div_mul, Nat.pow_succ]
    rw [Nat.mul_comm 256 (256 ^ k)]
theorem src_one' (w : World) (n : Nat) (t : TypeId) : Src Try.prog 1 25 (.slice (some ⟨w.heap.size, 0, none⟩) 1 1) [UInt8.ofNat (n % 256)].length (cells8 [UInt8.ofNat (n % 256)]) (w.alloc (.cells #[.int .u8 ((n : Int) % 256)] t)) :=
  src_new (l := [UInt8.ofNat (n % 256)]) (cs := #[.int .u8 ((n : Int) % 256)]) 1 (heap_alloc_new _ _) (by simp only [cells8, List.map_cons, List.map_nil, by8, byte_toNat]; rfl)
set_option maxRecDepth 100000 in
set_option maxHeartbeats 1000000 in
theorem ref_put (k m n : Nat) (A : Option Addr) (c : Nat) (l : List UInt8) (w : World) (hk : k ≤ 8) (hm : m < 4294967296) (hln : l.length = n) (hl : n ≤ 1048576) (hA : Sl w w.heap.size A l) :
    Calls Try.prog 39 #[.slice A n c, .int .i64 m, .int .i64 k] w fun e w' => One w.heap.size (l ++ le k m) e w' ∧ Below w.heap.size w w' := by
  have cT : Calls Try.prog 40 #[.slice A n c] w fun e w' => One w.heap.size l e w' ∧ Below w.heap.size w w' := by
    have := twin_any A c _ l w hA (by omega)
    rwa [hln] at this
  clear hA
  go_enter Try.func39, Try.ntmps39
  go_wp2_with (go_at_call 40; (with_reducible refine cT.mono ?_); rintro e w1 ⟨⟨v1, rfl, hown1⟩, hb1⟩)
  go_loopw [1, 7, 8] (fun x v i w' => ∃ j : Nat, j ≤ k ∧ i = .int .i64 j ∧ x = .int .i64 (m / 256 ^ j : Nat) ∧ Own w' w.heap.size 5 v (l ++ le j m) ∧ Below w.heap.size w w') (fun _ _ i _ => k - (RowKit.intOf i).toNat)
  case atStart => exact ⟨0, by omega, rfl, by simp, by simpa [le] using hown1, hb1⟩
  case round =>
    clear cT hown1 hb1
    rename_i wr
    obtain ⟨j, hj, rfl, rfl, hown, hbr⟩ := hrel
    have lw := hbr.size
    by_cases hlt : j < k
    · have i1 : (j : Int) < (k : Int) := by omega
      have hd : m / 256 ^ j ≤ m := Nat.div_le_self _ _
      have HN : Hid (le (j + 1) m = le j m ++ [UInt8.ofNat (m / 256 ^ j % 256)] ∧ m / 256 ^ (j + 1) = m / 256 ^ j / 256) := ⟨le_next j m, by rw [Nat.pow_succ, Nat.div_div_eq_div_mul]⟩
      have hlen : (l ++ le j m).length = n + j := by rw [List.length_append, le_length, hln]
      generalize m / 256 ^ j = y at *
      have i2 : (y : Int) < 4294967296 := by omega
      have i3 : (0 : Int) ≤ (y : Int) := by omega
      have hs := fun (W : World) => src_one' W y 5
      clear hd hln
      go_wp2_with (first
        | (at_builtin
           refine wpList_app8 _ rfl (.tmp 16) (.tmp 19) _ _ rfl w.heap.size 5 t8 _ _ rfl (hown.alloc _) _ [UInt8.ofNat (y % 256)] rfl (hs wr) ?_ ?_ ?_
           · rw [hlen]; simp; omega
           · simp; omega
           intro v2 w2 hown2 hg2 hat2))
      have hb2 := (hbr.alloc lw (.cells #[.int .u8 ((y : Int) % 256)] 5)).grown hg2 (by simp; omega) (own_far hown)
      go_roundw
      case rel => exact ⟨j + 1, by omega, by go_num, by rw [HN.out.2]; go_num, by rw [HN.out.1, ← List.append_assoc]; exact hown2, hb2⟩
      case measure => simp [RowKit.intOf]; omega
    · obtain rfl : j = k := by omega
      go_wp2
      go_ret
      exact ⟨⟨_, rfl, hown⟩, hbr⟩

set_option maxRecDepth 100000 in
set_option maxHeartbeats 1000000 in
theorem ref_get (k n : Nat) (A : Option Addr) (c B : Nat) (l : List UInt8) (w : World) (hk : k ≤ 4) (hln : l.length = n) (hkn : k ≤ n) (hA : Sl w B A l) :
    Calls Try.prog 50 #[.slice A n c, .int .i64 k] w fun e w' => e = .returned (.int .i64 (num (l.take k))) ∧ w = w' := by
  go_enter Try.func50, Try.ntmps50
  go_wp2
  go_loop [5, 6] (fun x i => ∃ j : Nat, j ≤ k ∧ i = .int .i64 ((j : Int) - 1) ∧ x = .int .i64 (num ((l.take k).drop j))) (fun _ i => (RowKit.intOf i + 1).toNat)
  case atStart => exact ⟨k, by omega, rfl, by rw [List.drop_eq_nil_of_le (by rw [List.length_take]; omega)]; rfl⟩
  case round =>
    obtain ⟨j, hj, rfl, rfl⟩ := hrel
    cases j with
    | zero =>
      have i1 : ¬ (0 : Int) ≤ (((0 : Nat) : Int) - 1) := by omega
      go_wp2
      go_ret
      exact ⟨rfl, rfl⟩
    | succ j =>
      have hjl : j < (l.take k).length := by rw [List.length_take]; omega
      obtain ⟨b, off, rfl, hb, hc⟩ := hA (by omega)
      have g := hc j (by omega)
      have hd : num ((l.take k).drop j) = l[j].toNat + 256 * num ((l.take k).drop (j + 1)) := by
        rw [List.drop_eq_getElem_cons hjl]
        simp [num]
      have hlt := num_lt ((l.take k).drop (j + 1))
      have hlen : ((l.take k).drop (j + 1)).length ≤ 3 := by rw [List.length_drop, List.length_take]; omega
      have hb2 : num ((l.take k).drop (j + 1)) < 16777216 := Nat.lt_of_lt_of_le hlt (Nat.pow_le_pow_right (by omega) hlen)
      have HD := Lib.hid hd
      have hx := l[j].toNat_lt
      unfold by8 at g
      generalize l[j].toNat = a at *
      generalize num ((l.take k).drop (j + 1)) = y at *
      rw [show (((j + 1 : Nat) : Int) - 1) = (j : Int) by omega]
      have i1 : (0 : Int) ≤ (j : Int) := by omega
      have i2 : (j : Int) < (n : Int) := by omega
      clear hc hd hlt hlen hA hln
      go_wp2
      go_round
      case rel => exact ⟨j, by omega, rfl, by rw [HD.out]; go_num⟩
      case measure => simp [RowKit.intOf] <;> omega
/-- What Put, Get and Unpart answer to the bytes that 'wakes' lays. -/
theorem wk_put (t : TypeId) (w : World) : Calls Try.prog 36 #[.slice (some ⟨w.heap.size, 0, none⟩) 1 1, .int .i64 513, .int .i64 2] (w.alloc (.cells #[.int .u8 9] t)) fun e w' => Put w.heap.size [9, 1, 2] e w' ∧ Below w.heap.size w w' := by
  have hb : Below w.heap.size w (w.alloc (.cells #[.int .u8 9] t)) := (Below.refl _ _).alloc (Nat.le_refl _) _
  have h : Calls Try.prog 36 #[.slice (some ⟨w.heap.size, 0, none⟩) 1 1, .int .i64 513, .int .i64 2] (w.alloc (.cells #[.int .u8 9] t)) fun e w' => Put (w.alloc (.cells #[.int .u8 9] t)).heap.size ([9] ++ le 2 513) e w' ∧ Below (w.alloc (.cells #[.int .u8 9] t)).heap.size (w.alloc (.cells #[.int .u8 9] t)) w' :=
    put_ok 2 513 1 (some ⟨w.heap.size, 0, none⟩) 1 [9] _ (.inr (.inl rfl)) (by decide) rfl (by decide) (Sl.of_block (heap_alloc_new w _) rfl (by simp))
  refine h.mono ?_
  rintro e w' ⟨⟨v, rfl, ho⟩, hb'⟩
  exact ⟨⟨v, rfl, ho.less hb.size⟩, bt hb hb'⟩
theorem wk_get (t : TypeId) (w : World) : Calls Try.prog 55 #[.slice (some ⟨w.heap.size, 0, none⟩) 3 3, .int .i64 2] (w.alloc (.cells #[.int .u8 1, .int .u8 2, .int .u8 7] t)) fun e w' => (∃ v, e = .returned (.tuple #[.int .i64 513, v, .int .i64 0]) ∧ Own w' w.heap.size 5 v [7]) ∧ Below w.heap.size w w' := by
  have hb : Below w.heap.size w (w.alloc (.cells #[.int .u8 1, .int .u8 2, .int .u8 7] t)) := (Below.refl _ _).alloc (Nat.le_refl _) _
  refine (get_ok 2 3 (some ⟨w.heap.size, 0, none⟩) 3 [1, 2, 7] _ (.inr (.inl rfl)) rfl (by decide) (by decide) (by decide) (by decide) (Sl.of_block (heap_alloc_new w _) rfl (by simp))).mono ?_
  rintro e w' ⟨⟨v, rfl, ho⟩, hb'⟩
  exact ⟨⟨v, rfl, ho.less hb.size⟩, bt hb hb'⟩
theorem wk_unpart (t : TypeId) (w : World) : Calls Try.prog 70 #[.slice (some ⟨w.heap.size, 0, none⟩) 3 3] (w.alloc (.cells #[.int .u8 1, .int .u8 8, .int .u8 9] t)) fun e w' => Parted w.heap.size [8] [9] e w' ∧ Below w.heap.size w w' := by
  have hb : Below w.heap.size w (w.alloc (.cells #[.int .u8 1, .int .u8 8, .int .u8 9] t)) := (Below.refl _ _).alloc (Nat.le_refl _) _
  refine (unpart_ok 3 1 (some ⟨w.heap.size, 0, none⟩) 3 [1, 8, 9] _ rfl (by decide) rfl (by decide) (by decide) (by decide) (by decide) (Sl.of_block (heap_alloc_new w _) rfl (by simp))).mono ?_
  rintro e w' ⟨⟨v, u, rfl, ho, hp⟩, hb'⟩
  exact ⟨⟨v, u, rfl, ho.less hb.size, hp.less hb.size⟩, bt hb hb'⟩
theorem wk_keep (t : TypeId) (X : Option Addr) (c : Nat) (w : World) (h : Sl w w.heap.size X [9, 1, 2]) : Calls Try.prog 13 #[.slice X 3 c, .slice (some ⟨w.heap.size, 0, none⟩) 3 3] (w.alloc (.cells #[.int .u8 9, .int .u8 1, .int .u8 2] t)) fun e w' => e = .returned (.bool true) ∧ Below w.heap.size w w' := by
  have hb : Below w.heap.size w (w.alloc (.cells #[.int .u8 9, .int .u8 1, .int .u8 2] t)) := (Below.refl _ _).alloc (Nat.le_refl _) _
  refine (keep_any X (some ⟨w.heap.size, 0, none⟩) c 3 w.heap.size (w.heap.size + 1) [9, 1, 2] [9, 1, 2] _ (h.below hb) (Sl.of_block (heap_alloc_new w _) rfl (by omega)) hb.size (by simp) (by decide)).mono ?_
  rintro e w' ⟨rfl, hb'⟩
  exact ⟨by simp, bt hb hb'⟩
end Go.Proofs.Ytejfehkcjcohdaa.pck
