/-
  The law SumAlone, walked: it returns true for every input. No condition.
-/
import Derived.Test.YtehbecpijomhcaaSumCutLaw
namespace Go.Proofs.Ytehbecpijomhcaa.crc
open Go.RowKit Go.Lib

theorem alone_long (A : Option Addr) (c m : Nat) (w : World) (h : 400 < m) :
    Calls Try.prog 9 #[.slice A m c] w fun e w' => e = .returned (.bool true) ∧ Below w.heap.size w w' := by
  have hi : (400 : Int) < (m : Int) := by omega
  go_enter Try.func9, Try.ntmps9
  go_wp2
  go_ret
  exact ⟨rfl, Below.refl _ _⟩
theorem alone_none (A : Option Addr) (c : Nat) (w : World) :
    Calls Try.prog 9 #[.slice A 0 c] w fun e w' => e = .returned (.bool true) ∧ Below w.heap.size w w' := by
  go_enter Try.func9, Try.ntmps9
  go_wp2_with (first
    | (go_at_call 15; (with_reducible refine (of_empty _ _ _).mono ?_); rintro e w2 ⟨rfl, rfl⟩)
    | (go_at_call 18; (with_reducible refine (wakes_any _).mono ?_); rintro e w3 ⟨rfl, hb3⟩))
  go_ret
  exact ⟨rfl, hb3⟩

set_option maxHeartbeats 1000000 in
theorem alone_go (b1 off c B : Nat) (l : List UInt8) (k : Nat) (w : World) (hA : Sl w B (some ⟨b1, off, none⟩) l) (hB : B ≤ w.heap.size) (hl : l.length ≤ 400) (hlc : l.length ≤ c) (hcm : c ≤ maxLen) (hk : l.length = k + 1) :
    Calls Try.prog 9 #[.slice (some ⟨b1, off, none⟩) l.length c] w fun e w' => e = .returned (.bool true) ∧ Below w.heap.size w w' := by
  unfold maxLen at hcm
  have hs := Sl.drop hA k
  have hsm : sum l = more (sum (l.take k)) (l.drop k) := by rw [sum_more, List.take_append_drop]
  have cO : ∀ W, Below w.heap.size w W → Calls Try.prog 15 #[.slice (some ⟨b1, off, none⟩) k c] W fun e w' => e = .returned (.int .i64 (sum (l.take k))) ∧ W = w' := fun W hb => by
    have := of_any _ c B _ W ((Sl.take hA k).below (hb.mono hB)) (by rw [List.length_take]; unfold maxLen; omega)
    rwa [List.length_take, Nat.min_eq_left (by omega)] at this
  have cM : ∀ W c', Below w.heap.size w W → Calls Try.prog 11 #[.int .i64 (sum (l.take k)), .slice (some ⟨b1, off + k, none⟩) 1 c'] W fun e w' => e = .returned (.tuple #[.int .i64 (sum l), .int .i64 0]) ∧ W = w' := fun W c' hb => by
    have := more_any (sum (l.take k)) _ c' B _ W (sum_lt _) (hs.below (hb.mono hB)) (by rw [List.length_drop]; unfold maxLen; omega)
    rwa [List.length_drop, ← hsm, show l.length - k = 1 by omega] at this
  have cF : ∀ W, Below w.heap.size w W → Calls Try.prog 15 #[.slice (some ⟨b1, off, none⟩) (k + 1) c] W fun e w' => e = .returned (.int .i64 (sum l)) ∧ W = w' := fun W hb => by
    have := of_any _ c B _ W (hA.below (hb.mono hB)) (by unfold maxLen; omega)
    rwa [hk] at this
  have hy := sum_lt l
  rw [hk] at hl hlc ⊢
  clear hsm hs hA hk
  generalize sum (l.take k) = x at *
  generalize sum l = y at *
  have hi : ¬ (400 : Int) < (k : Int) + 1 := by omega
  have h0 : ((k : Int) + 1 == 0) = false := beq_eq_false_iff_ne.2 (by omega)
  have j0 : (0 : Int) ≤ (k : Int) := by omega
  have j1 : (k : Int) ≤ (c : Int) := by omega
  have j2 : (k : Int) ≤ (k : Int) + 1 := by omega
  have j3 : (k : Int) + 1 ≤ (c : Int) := by omega
  have y1 : (0 : Int) ≤ (y : Int) := by omega
  have y2 : (y : Int) ≤ 4294967295 := by omega
  have w1 : IntKind.i64.wrap ((k : Int) + 1 - 1) = (k : Int) := by rw [Int.add_sub_cancel]; exact wrap_small _ (by omega) (by omega)
  go_enter Try.func9, Try.ntmps9
  go_wp2_with (go_at_call 15; (with_reducible refine (cF _ (Below.refl _ _)).mono ?_); rintro e w2 ⟨rfl, rfl⟩)
  go_quiet (first
    | (go_at_call 15; refine Calls.quiet_of_same (quiet (cO _ (below_dn (Below.refl _ _) _))))
    | (go_at_call 11; refine Calls.quiet_of_same (quiet (cM _ _ (below_dn (Below.refl _ _) _)))))
  go_wp2_with (first
    | (go_at_call 15; (with_reducible refine (of_empty _ _ _).mono ?_); rintro e w2 ⟨rfl, rfl⟩)
    | (go_at_call 18; (with_reducible refine (wakes_any _).mono ?_); rintro e w3 ⟨rfl, hb3⟩))
  go_ret
  exact ⟨rfl, bt (below_dn (Below.refl _ _) _) hb3⟩

theorem sumAlone_law (A : Option Addr) (c : Nat) (l : List UInt8) (w : World) (hlc : l.length ≤ c) (hcm : c ≤ maxLen) (hA : Sl w w.heap.size A l) :
    Calls Try.prog 9 #[.slice A l.length c] w fun e w' => e = .returned (.bool true) ∧ Below w.heap.size w w' := by
  by_cases h : 400 < l.length
  · exact alone_long A c l.length w h
  · by_cases h0 : 0 < l.length
    · obtain ⟨b1, off, rfl, -, -⟩ := hA h0
      exact alone_go b1 off c _ l (l.length - 1) w hA (Nat.le_refl _) (by omega) hlc hcm (by omega)
    · obtain rfl : l = [] := List.eq_nil_of_length_eq_zero (by omega)
      exact alone_none A c w
end Go.Proofs.Ytehbecpijomhcaa.crc
