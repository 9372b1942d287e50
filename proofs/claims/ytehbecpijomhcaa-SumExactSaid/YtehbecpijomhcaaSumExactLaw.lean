/-
  The law SumExact, walked: it returns true for every input. No condition.
-/
import Derived.Test.YtehbecpijomhcaaSumMixLaw
namespace Go.Proofs.Ytehbecpijomhcaa.crc
open Go.RowKit Go.Lib

theorem exact_long (A : Option Addr) (c n : Nat) (s i : Int) (w : World) (h : 400 < n) :
    Calls Try.prog 3 #[.slice A n c, .int .i64 s, .int .i64 i] w fun e w' => e = .returned (.bool true) ∧ Below w.heap.size w w' := by
  have hi : (400 : Int) < (n : Int) := by omega
  go_enter Try.func3, Try.ntmps3
  go_wp2
  go_ret
  exact ⟨rfl, Below.refl _ _⟩

set_option maxHeartbeats 2000000 in
theorem exact_go (A : Option Addr) (c n : Nat) (l : List UInt8) (s i : Int) (w : World) (hl : l.length = n) (h1 : n ≤ 400) (hA : Sl w w.heap.size A l) :
    Calls Try.prog 3 #[.slice A n c, .int .i64 s, .int .i64 i] w fun e w' => e = .returned (.bool true) ∧ Below w.heap.size w w' := by
  have i1 : ¬ (400 : Int) < (n : Int) := by omega
  have cT : Calls Try.prog 10 #[.slice A n c] w fun e w' => One w.heap.size l e w' ∧ Below w.heap.size w w' := by
    have := twin_any A c _ l w hA (by omega)
    rwa [hl] at this
  have cO : ∀ W X1 k1 B, Sl W B X1 l → Calls Try.prog 15 #[.slice X1 n k1] W fun e w' => e = .returned (.int .i64 (sum l)) ∧ W = w' := fun W X1 k1 B hs => by
    have := of_any X1 k1 B l W hs (by unfold maxLen; omega)
    rwa [hl] at this
  have cS : ∀ W, Below w.heap.size w W → Calls Try.prog 16 #[.slice A n c] W fun e w' => e = .returned (.int .i64 (sum l)) ∧ W = w' := fun W hb => by
    have := ref_sum A c _ l W (hA.below hb) (by unfold maxLen; omega)
    rwa [hl] at this
  have cK : ∀ W X1 k1, Below w.heap.size w W → Sl W W.heap.size X1 l → Calls Try.prog 17 #[.slice X1 n k1, .slice A n c] W fun e w' => e = .returned (.bool true) ∧ Below W.heap.size W w' := fun W X1 k1 hb hs => by
    have := keep_any X1 A k1 c _ _ l l W hs (hA.below hb) (Nat.le_refl _) hb.size (by omega)
    rwa [hl, decide_eq_true rfl] at this
  have cM : (∀ W X1 k1 B, Sl W B X1 l → Calls Try.prog 11 #[.int .i64 s, .slice X1 n k1] W fun e w' => e = .returned (.tuple #[.int .i64 0, .int .i64 1]) ∧ W = w') ∧ (s < 0 ∨ 4294967295 < s) ∨
      ∃ m : Nat, s = (m : Int) ∧ ¬ s < 0 ∧ ¬ 4294967295 < s ∧ (∀ W X1 k1 B, Sl W B X1 l → Calls Try.prog 11 #[.int .i64 s, .slice X1 n k1] W fun e w' => e = .returned (.tuple #[.int .i64 (more m l), .int .i64 0]) ∧ W = w') ∧
        (∀ W, Below w.heap.size w W → Calls Try.prog 13 #[.int .i64 s, .slice A n c] W fun e w' => e = .returned (.int .i64 (more m l)) ∧ W = w') := by
    by_cases hs : s < 0 ∨ 4294967295 < s
    · exact .inl ⟨fun W X1 k1 B _ => more_not s _ W hs, hs⟩
    · obtain ⟨m, rfl⟩ : ∃ m : Nat, s = (m : Int) := ⟨s.toNat, by omega⟩
      refine .inr ⟨m, rfl, by omega, by omega, fun W X1 k1 B h => ?_, fun W hb => ?_⟩
      · have := more_any m X1 k1 B l W (by omega) h (by unfold maxLen; omega)
        rwa [hl] at this
      · have := ref_more m A c _ l W (by omega) (hA.below hb) (by unfold maxLen; omega)
        rwa [hl] at this
  have cI : (∀ W, Calls Try.prog 12 #[.int .i64 i] W fun e w' => e = .returned (.tuple #[.int .i64 0, .int .i64 1]) ∧ W = w') ∧ (i < 0 ∨ 255 < i) ∨
      ∃ m : Nat, i = (m : Int) ∧ ¬ i < 0 ∧ ¬ 255 < i ∧ (∀ W, Calls Try.prog 12 #[.int .i64 i] W fun e w' => e = .returned (.tuple #[.int .i64 (downs 8 m), .int .i64 0]) ∧ W = w') ∧
        (∀ W, Calls Try.prog 14 #[.int .i64 i] W fun e w' => e = .returned (.int .i64 (downs 8 m)) ∧ W = w') := by
    by_cases hs : i < 0 ∨ 255 < i
    · exact .inl ⟨fun W => table_not i W hs, hs⟩
    · obtain ⟨m, rfl⟩ : ∃ m : Nat, i = (m : Int) := ⟨i.toNat, by omega⟩
      exact .inr ⟨m, rfl, by omega, by omega, fun W => table_any m W (by omega), fun W => ref_eight m W (by omega)⟩
  have HL := Lib.hid hl
  clear hA hl
  have cM' : ((∀ W X1 k1 B, Sl W B X1 l → Calls Try.prog 11 #[.int .i64 s, .slice X1 n k1] W fun e w' => e = .returned (.tuple #[.int .i64 0, .int .i64 1]) ∧ W = w') ∧ s < 0) ∨ ((∀ W X1 k1 B, Sl W B X1 l → Calls Try.prog 11 #[.int .i64 s, .slice X1 n k1] W fun e w' => e = .returned (.tuple #[.int .i64 0, .int .i64 1]) ∧ W = w') ∧ ¬ s < 0 ∧ 4294967295 < s) ∨
      ∃ m : Nat, ¬ s < 0 ∧ ¬ 4294967295 < s ∧ (∀ W X1 k1 B, Sl W B X1 l → Calls Try.prog 11 #[.int .i64 s, .slice X1 n k1] W fun e w' => e = .returned (.tuple #[.int .i64 (more m l), .int .i64 0]) ∧ W = w') ∧
        (∀ W, Below w.heap.size w W → Calls Try.prog 13 #[.int .i64 s, .slice A n c] W fun e w' => e = .returned (.int .i64 (more m l)) ∧ W = w') := by
    rcases cM with ⟨h, k⟩ | ⟨m, -, h1, h2, h3, h4⟩
    · by_cases hk : s < 0
      · exact .inl ⟨h, hk⟩
      · exact .inr (.inl ⟨h, hk, by omega⟩)
    · exact .inr (.inr ⟨m, h1, h2, h3, h4⟩)
  have cI' : ((∀ W, Calls Try.prog 12 #[.int .i64 i] W fun e w' => e = .returned (.tuple #[.int .i64 0, .int .i64 1]) ∧ W = w') ∧ i < 0) ∨ ((∀ W, Calls Try.prog 12 #[.int .i64 i] W fun e w' => e = .returned (.tuple #[.int .i64 0, .int .i64 1]) ∧ W = w') ∧ ¬ i < 0 ∧ 255 < i) ∨
      ∃ m : Nat, ¬ i < 0 ∧ ¬ 255 < i ∧ (∀ W, Calls Try.prog 12 #[.int .i64 i] W fun e w' => e = .returned (.tuple #[.int .i64 (downs 8 m), .int .i64 0]) ∧ W = w') ∧
        (∀ W, Calls Try.prog 14 #[.int .i64 i] W fun e w' => e = .returned (.int .i64 (downs 8 m)) ∧ W = w') := by
    rcases cI with ⟨h, k⟩ | ⟨m, -, h1, h2, h3, h4⟩
    · by_cases hk : i < 0
      · exact .inl ⟨h, hk⟩
      · exact .inr (.inl ⟨h, hk, by omega⟩)
    · exact .inr (.inr ⟨m, h1, h2, h3, h4⟩)
  clear cM cI
  rcases cM' with ⟨qM, s1⟩ | ⟨qM, s1, s2⟩ | ⟨m, s1, s2, qM, rM⟩
  all_goals
    rcases cI' with ⟨qI, t1⟩ | ⟨qI, t1, t2⟩ | ⟨m', t1, t2, qI, rI⟩
    all_goals
      go_enter Try.func3, Try.ntmps3
      go_wp2_with (first
        | (go_at_call 10
           (with_reducible refine cT.mono ?_)
           rintro e w1 ⟨⟨v, rfl, hown⟩, hb1⟩
           obtain ⟨X1, k1, hv, -, -, hs1, -⟩ := hown.form
           rw [HL.out] at hv
           subst hv)
        | (go_at_call 11; (with_reducible refine (qM _ _ _ _ hs1).mono ?_); rintro e w4 ⟨rfl, rfl⟩)
        | (go_at_call 12; (with_reducible refine (qI _).mono ?_); rintro e w4 ⟨rfl, rfl⟩)
        | (go_at_call 13; (with_reducible refine (rM _ hb1).mono ?_); rintro e w4 ⟨rfl, rfl⟩)
        | (go_at_call 14; (with_reducible refine (rI _).mono ?_); rintro e w4 ⟨rfl, rfl⟩)
        | (go_at_call 15; (with_reducible refine (cO _ _ _ _ hs1).mono ?_); rintro e w4 ⟨rfl, rfl⟩)
        | (go_at_call 16; (with_reducible refine (cS _ hb1).mono ?_); rintro e w4 ⟨rfl, rfl⟩)
        | (go_at_call 17; (with_reducible refine (cK _ _ _ hb1 hs1).mono ?_); rintro e w5 ⟨rfl, hb5⟩; have hb6 := bt hb1 hb5)
        | (go_at_call 18; (with_reducible refine (wakes_any _).mono ?_); rintro e w7 ⟨rfl, hb7⟩; have hb8 := bt hb6 hb7))
      go_ret
      exact ⟨rfl, hb8⟩

theorem sumExact_law (A : Option Addr) (c : Nat) (l : List UInt8) (s i : Int) (w : World) (hA : Sl w w.heap.size A l) :
    Calls Try.prog 3 #[.slice A l.length c, .int .i64 s, .int .i64 i] w fun e w' => e = .returned (.bool true) ∧ Below w.heap.size w w' := by
  by_cases h : 400 < l.length
  · exact exact_long A c _ s i w h
  · exact exact_go A c _ l s i w rfl (by omega) hA
end Go.Proofs.Ytehbecpijomhcaa.crc
