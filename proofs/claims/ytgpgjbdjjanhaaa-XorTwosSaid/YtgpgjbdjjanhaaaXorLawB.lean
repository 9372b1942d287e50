/-
  The law XorTwos, walked: it returns true for every input. No condition.
-/
import Derived.Test.YtgpgjbdjjanhaaaXorLawA
namespace Go.Proofs.Ytgpgjbdjjanhaaa.par
open Go.RowKit Go.Lib

def zcells (n : Nat) : Array Value := madeCells #[.int .u8 0] n
theorem zcells_list (n : Nat) : (zcells n).toList = cells8 (zeros n) := made_zeros n
theorem zcells_size (n : Nat) : (zcells n).size = n := by simp [zcells, madeCells]
theorem make_run (n : Nat) (hn : n ≤ 16777216) (W : World) : (Instr.makeSlice 22 (.int .i64 (n : Int)) (.int .i64 (n : Int))).run Try.prog W = .ok (.slice (some ⟨W.heap.size, 0, none⟩) n n) (W.alloc (.cells (zcells n) 5)) := by
  obtain ⟨ht, _, i, hi, hz, h1, hb8⟩ := t8
  have hr := run_make (P := Try.prog) W 22 5 i (.int .u8 0) ht hi hz .i64 .i64 (n : Int) (n : Int) (by omega) (by omega) (by rw [hb8]; omega) (by omega)
  simpa [h1, zcells, Value.cells] using hr
theorem own_zeros (n : Nat) (W : World) (base : Nat) (hb : base ≤ W.heap.size) (hn : n ≤ 16777216) : Own (W.alloc (.cells (zcells n) 5)) base 5 (.slice (some ⟨W.heap.size, 0, none⟩) n n) (zeros n) := by
  unfold Own
  rw [zeros_length, ← zcells_list]
  exact World.ownsRow_lit W (zcells n) n hb (by unfold maxLen; omega) (by rw [zcells_size]; omega)
theorem sl_zeros (n : Nat) (W : World) : Sl (W.alloc (.cells (zcells n) 5)) (W.alloc (.cells (zcells n) 5)).heap.size (some ⟨W.heap.size, 0, none⟩) (zeros n) :=
  Sl.of_block (heap_alloc_new _ _) (zcells_list n) (by simp)

theorem twos_out (A A' : Option Addr) (c c' m m' : Nat) (w : World) (h : 200 < m ∨ m' ≠ m) :
    Calls Try.prog 6 #[.slice A m c, .slice A' m' c'] w fun e w' => e = .returned (.bool true) ∧ Below w.heap.size w w' := by
  by_cases h2 : m' = m
  · subst h2
    have hi : (200 : Int) < (m' : Int) := by omega
    clear h
    go_enter Try.func6, Try.ntmps6
    go_wp2
    go_ret
    exact ⟨rfl, Below.refl _ _⟩
  · have n1 : ((m' : Int) != (m : Int)) = true := bne_iff_ne.2 (by omega)
    have n2 : ((m' : Int) == (m : Int)) = false := beq_eq_false_iff_ne.2 (by omega)
    have n3 : (m' != m) = true := bne_iff_ne.2 h2
    have n4 : (m' == m) = false := beq_eq_false_iff_ne.2 h2
    clear h
    go_enter Try.func6, Try.ntmps6
    go_wp2
    all_goals
      go_ret
      exact ⟨rfl, Below.refl _ _⟩

set_option maxHeartbeats 1000000 in
theorem twos_go (A A' : Option Addr) (c c' n : Nat) (a b : List UInt8) (w : World) (ha : a.length = n) (hb : b.length = n) (hn : n ≤ 200) (hA : Sl w w.heap.size A a) (hB : Sl w w.heap.size A' b) :
    Calls Try.prog 6 #[.slice A n c, .slice A' n c'] w fun e w' => e = .returned (.bool true) ∧ Below w.heap.size w w' := by
  have i2 : ¬ (200 : Int) < (n : Int) := by omega
  have p1 : ((n : Int) != (n : Int)) = false := bne_self_eq_false _
  have HP : Hid ((zx a b).length = n) := zx_length ha hb
  have hmk := make_run n (by omega)
  have c1 := two_ok A A' c c' n a b w ha hb hA hB (by omega)
  have c2 : ∀ W, Below w.heap.size w W → Calls Try.prog 11 #[.slice A' n c', .slice A n c] W fun e w' => Ans W.heap.size (zx a b) e w' ∧ Below W.heap.size W w' := fun W hW => by
    have := two_ok A' A c' c n b a W hb ha ((hB.below hW).more hW.size) ((hA.below hW).more hW.size) (by omega)
    rwa [zx_comm b a] at this
  have c3 : ∀ (W : World) (X : Option Addr) (k : Nat), Below w.heap.size w W → Sl W W.heap.size X (zx a b) → Calls Try.prog 11 #[.slice X n k, .slice A' n c'] W fun e w' => Ans W.heap.size a e w' ∧ Below W.heap.size W w' := fun W X k hW hX => by
    have := two_ok X A' k c' n (zx a b) b W HP.out hb hX ((hB.below hW).more hW.size) (by omega)
    rwa [zx_twice ha hb] at this
  have c4 : ∀ W, Below w.heap.size w W → Calls Try.prog 11 #[.slice A n c, .slice A n c] W fun e w' => Ans W.heap.size (zeros n) e w' ∧ Below W.heap.size W w' := fun W hW => by
    have := two_ok A A c c n a a W ha ha ((hA.below hW).more hW.size) ((hA.below hW).more hW.size) (by omega)
    rwa [zx_self ha] at this
  have c5 := fun (W : World) (X Y : Option Addr) (k k' : Nat) (hX : Sl W W.heap.size X (zx a b)) (hY : Sl W W.heap.size Y (zx a b)) => same_any n X Y k k' (zx a b) W HP.out hX hY (by omega)
  have c6 : ∀ (W : World) (X : Option Addr) (k : Nat), Below w.heap.size w W → Sl W W.heap.size X a → _ := fun W X k hW hX => same_any n X A k c a W ha hX ((hA.below hW).more hW.size) (by omega)
  have c7 : ∀ (W : World) (X : Option Addr) (k : Nat), Sl W W.heap.size X (zeros n) → Calls Try.prog 15 #[.slice X n k, .slice (some ⟨W.heap.size, 0, none⟩) n n] (W.alloc (.cells (zcells n) 5)) fun e w' => e = .returned (.bool true) ∧ Below W.heap.size W w' := fun W X k hX => by
    refine (same_any n X _ k n (zeros n) (W.alloc (.cells (zcells n) 5)) (zeros_length n) (hX.next (bl W _)) (sl_zeros n W) (by omega)).mono ?_
    rintro e w' ⟨rfl, hb⟩
    exact ⟨rfl, bt (bl W _) hb⟩
  have HZ : Hid ((zeros n).length = n) := zeros_length n
  have HA : Hid (a.length = n) := ha
  generalize zx a b = z at *
  generalize zeros n = o at *
  clear ha hb hA hB
  go_enter Try.func6, Try.ntmps6
  go_wp2_with (first
    | (go_at_call 11; (with_reducible refine c1.mono ?_); rintro e w1 ⟨⟨v1, rfl, hown1⟩, hb1⟩; obtain ⟨X1, k1, hv1, -, -, hs1, -⟩ := hown1.form; rw [HP.out] at hv1; subst hv1)
    | (go_at_call 11; (with_reducible refine (c2 _ hb1).mono ?_); rintro e w2 ⟨⟨v2, rfl, hown2⟩, hb2⟩; obtain ⟨X2, k2, hv2, -, -, hs2, -⟩ := hown2.form; rw [HP.out] at hv2; subst hv2; have hb12 := bt hb1 hb2; have hs12 := hs1.next hb2)
    | (go_at_call 11; (with_reducible refine (c3 _ _ _ hb12 hs12).mono ?_); rintro e w3 ⟨⟨v3, rfl, hown3⟩, hb3⟩; obtain ⟨X3, k3, hv3, -, -, hs3, -⟩ := hown3.form; rw [HA.out] at hv3; subst hv3; have hb13 := bt hb12 hb3; have hs13 := hs12.next hb3; have hs23 := hs2.next hb3)
    | (go_at_call 11; (with_reducible refine (c4 _ hb13).mono ?_); rintro e w4 ⟨⟨v4, rfl, hown4⟩, hb4⟩; obtain ⟨X4, k4, hv4, -, -, hs4, -⟩ := hown4.form; rw [HZ.out] at hv4; subst hv4; have hb14 := bt hb13 hb4; have hs14 := hs13.next hb4; have hs24 := hs23.next hb4; have hs34 := hs3.next hb4)
    | (go_at_call 15; (with_reducible refine (c5 _ _ _ _ _ hs14 hs24).mono ?_); rintro e w5 ⟨rfl, hb5⟩; have hb15 := bt hb14 hb5; have hs35 := hs34.next hb5; have hs45 := hs4.next hb5)
    | (go_at_call 15; (with_reducible refine (c6 _ _ _ hb15 hs35).mono ?_); rintro e w6 ⟨rfl, hb6⟩; have hb16 := bt hb15 hb6; have hs46 := hs45.next hb6)
    | (go_at_call 15; (with_reducible refine (c7 _ _ _ hs46).mono ?_); rintro e w7 ⟨rfl, hb7⟩; have hb17 := bt hb16 hb7)
    | (go_at_call 21; (with_reducible refine (wakes_any _).mono ?_); rintro e w8 ⟨rfl, hb8⟩))
  go_ret
  exact ⟨rfl, bt hb17 hb8⟩
theorem xorTwos_law (A A' : Option Addr) (c c' : Nat) (a b : List UInt8) (w : World) (hA : Sl w w.heap.size A a) (hB : Sl w w.heap.size A' b) :
    Calls Try.prog 6 #[.slice A a.length c, .slice A' b.length c'] w fun e w' => e = .returned (.bool true) ∧ Below w.heap.size w w' := by
  by_cases h : 200 < a.length ∨ b.length ≠ a.length
  · exact twos_out A A' c c' _ _ w h
  · have hb : b.length = a.length := by omega
    rw [hb]
    exact twos_go A A' c c' a.length a b w rfl hb (by omega) hA hB
end Go.Proofs.Ytgpgjbdjjanhaaa.par
