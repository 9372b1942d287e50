/-
  The laws SumParts and SumAlone, walked: each returns true for every input. No condition.
-/
import Derived.Test.YtehbecpijomhcaaSumTabLaw
import Derived.StillTactics
namespace Go.Proofs.Ytehbecpijomhcaa.crc
open Go.RowKit Go.Lib

theorem quiet {f : FuncId} {args : Array Value} {W : World} {v : Value} (h : Calls Try.prog f args W fun e w' => e = .returned v ∧ W = w') : Calls Try.prog f args W fun e w' => e = .returned v ∧ w' = W := h.mono fun _ _ ⟨a, b⟩ => ⟨a, b.symm⟩
theorem parts_long (A : Option Addr) (c m : Nat) (cut : Int) (w : World) (h : 400 < m) :
    Calls Try.prog 4 #[.slice A m c, .int .i64 cut] w fun e w' => e = .returned (.bool true) ∧ Below w.heap.size w w' := by
  have hi : (400 : Int) < (m : Int) := by omega
  go_enter Try.func4, Try.ntmps4
  go_wp2
  go_ret
  exact ⟨rfl, Below.refl _ _⟩

set_option maxHeartbeats 1000000 in
theorem parts_go (b1 off c B : Nat) (l : List UInt8) (cut : Int) (k : Nat) (w : World) (hA : Sl w B (some ⟨b1, off, none⟩) l) (hB : B ≤ w.heap.size) (hl : l.length ≤ 400) (hlc : l.length ≤ c) (hcm : c ≤ maxLen) (hkl : k ≤ l.length) (hkc : k < c)
    (hK : (IntKind.u64.wrap cut).tmod ((l.length : Int) + 1) = (k : Int)) :
    Calls Try.prog 4 #[.slice (some ⟨b1, off, none⟩) l.length c, .int .i64 cut] w fun e w' => e = .returned (.bool true) ∧ Below w.heap.size w w' := by
  unfold maxLen at hcm
  have hi : ¬ (400 : Int) < (l.length : Int) := by omega
  have hs := Sl.drop hA k
  have hsm : sum l = more (sum (l.take k)) (l.drop k) := by rw [sum_more, List.take_append_drop]
  have cO : ∀ W, Below w.heap.size w W → Calls Try.prog 15 #[.slice (some ⟨b1, off, none⟩) k c] W fun e w' => e = .returned (.int .i64 (sum (l.take k))) ∧ W = w' := fun W hb => by
    have := of_any _ c B _ W ((Sl.take hA k).below (hb.mono hB)) (by rw [List.length_take]; unfold maxLen; omega)
    rwa [List.length_take, Nat.min_eq_left hkl] at this
  have cM : ∀ W c', Below w.heap.size w W → Calls Try.prog 11 #[.int .i64 (sum (l.take k)), .slice (some ⟨b1, off + k, none⟩) (l.length - k) c'] W fun e w' => e = .returned (.tuple #[.int .i64 (sum l), .int .i64 0]) ∧ W = w' := fun W c' hb => by
    have := more_any (sum (l.take k)) _ c' B _ W (sum_lt _) (hs.below (hb.mono hB)) (by rw [List.length_drop]; unfold maxLen; omega)
    rwa [List.length_drop, ← hsm] at this
  have cF : ∀ W, Below w.heap.size w W → Calls Try.prog 15 #[.slice (some ⟨b1, off, none⟩) l.length c] W fun e w' => e = .returned (.int .i64 (sum l)) ∧ W = w' := fun W hb => of_any _ c B _ W (hA.below (hb.mono hB)) (by unfold maxLen; omega)
  clear hsm hs hA
  have j0 : (0 : Int) ≤ (k : Int) := by omega
  have j1 : (k : Int) ≤ (c : Int) := by omega
  have j2 : (k : Int) ≤ (l.length : Int) := by omega
  have j3 : (l.length : Int) ≤ (c : Int) := by omega
  generalize sum (l.take k) = x at *
  generalize sum l = y at *
  go_enter Try.func4, Try.ntmps4
  go_wp2_with fail
  go_quiet (first
    | (go_at_call 15; refine Calls.quiet_of_same (quiet (cO _ (below_dn (Below.refl _ _) _))))
    | (go_at_call 11; refine Calls.quiet_of_same (quiet (cM _ _ (below_dn (Below.refl _ _) _)))))
  go_wp2_with (first
    | (go_at_call 15; (with_reducible refine (cF _ (below_dn (Below.refl _ _) _)).mono ?_); rintro e w2 ⟨rfl, rfl⟩)
    | (go_at_call 18; (with_reducible refine (wakes_any _).mono ?_); rintro e w3 ⟨rfl, hb3⟩))
  go_ret
  exact ⟨rfl, bt (below_dn (Below.refl _ _) _) hb3⟩

theorem more_none {s : Nat} (h : s < 4294967296) : more s [] = s := by unfold more ones reg; omega
theorem of_empty (A : Option Addr) (c : Nat) (w : World) : Calls Try.prog 15 #[.slice A 0 c] w fun e w' => e = .returned (.int .i64 0) ∧ w = w' := of_any A c 0 [] w (Sl.nil w 0 A) (by simp [maxLen])
theorem more_empty (s : Nat) (hs : s < 4294967296) (A : Option Addr) (c : Nat) (w : World) : Calls Try.prog 11 #[.int .i64 s, .slice A 0 c] w fun e w' => e = .returned (.tuple #[.int .i64 s, .int .i64 0]) ∧ w = w' := by
  have := more_any s A c 0 [] w hs (Sl.nil w 0 A) (by simp [maxLen])
  rwa [more_none hs] at this

set_option maxHeartbeats 1000000 in
theorem parts_end (b1 off B : Nat) (l : List UInt8) (cut : Int) (w : World) (hA : Sl w B (some ⟨b1, off, none⟩) l) (hB : B ≤ w.heap.size) (hl : l.length ≤ 400)
    (hK : (IntKind.u64.wrap cut).tmod ((l.length : Int) + 1) = (l.length : Int)) :
    Calls Try.prog 4 #[.slice (some ⟨b1, off, none⟩) l.length l.length, .int .i64 cut] w fun e w' => e = .returned (.bool true) ∧ Below w.heap.size w w' := by
  have hi : ¬ (400 : Int) < (l.length : Int) := by omega
  have cF : ∀ W, Below w.heap.size w W → Calls Try.prog 15 #[.slice (some ⟨b1, off, none⟩) l.length l.length] W fun e w' => e = .returned (.int .i64 (sum l)) ∧ W = w' := fun W hb => of_any _ _ B _ W (hA.below (hb.mono hB)) (by unfold maxLen; omega)
  have cM := more_empty (sum l) (sum_lt l)
  clear hA
  have j0 : (0 : Int) ≤ (l.length : Int) := by omega
  have j1 : (l.length : Int) ≤ (l.length : Int) := Int.le_refl _
  generalize sum l = y at *
  generalize l.length = m at *
  go_enter Try.func4, Try.ntmps4
  go_wp2_with fail
  go_quiet (first
    | (go_at_call 15; refine Calls.quiet_of_same (quiet (cF _ (below_dn (Below.refl _ _) _))))
    | (go_at_call 11; refine Calls.quiet_of_same (quiet (cM _ _ _))))
  go_wp2_with (first
    | (go_at_call 15; (with_reducible refine (cF _ (below_dn (Below.refl _ _) _)).mono ?_); rintro e w2 ⟨rfl, rfl⟩)
    | (go_at_call 18; (with_reducible refine (wakes_any _).mono ?_); rintro e w3 ⟨rfl, hb3⟩))
  go_ret
  exact ⟨rfl, bt (below_dn (Below.refl _ _) _) hb3⟩

set_option maxHeartbeats 1000000 in
theorem parts_none (A : Option Addr) (c : Nat) (cut : Int) (w : World) :
    Calls Try.prog 4 #[.slice A 0 c, .int .i64 cut] w fun e w' => e = .returned (.bool true) ∧ Below w.heap.size w w' := by
  have cF := of_empty
  have cM : ∀ (A : Option Addr) (c : Nat) (W : World), Calls Try.prog 11 #[.int .i64 0, .slice A 0 c] W fun e w' => e = .returned (.tuple #[.int .i64 0, .int .i64 0]) ∧ W = w' := more_empty 0 (by omega)
  have hK : (IntKind.u64.wrap cut).tmod 1 = 0 := by simp
  have j0 : (0 : Int) ≤ (c : Int) := by omega
  cases A
  all_goals
    go_enter Try.func4, Try.ntmps4
    go_wp2_with fail
    go_quiet (first
      | (go_at_call 15; refine Calls.quiet_of_same (quiet (cF _ _ _)))
      | (go_at_call 11; refine Calls.quiet_of_same (quiet (cM _ _ _))))
    go_wp2_with (first
      | (go_at_call 15; (with_reducible refine (cF _ _ _).mono ?_); rintro e w2 ⟨rfl, rfl⟩)
      | (go_at_call 18; (with_reducible refine (wakes_any _).mono ?_); rintro e w3 ⟨rfl, hb3⟩))
    go_ret
    exact ⟨rfl, bt (below_dn (Below.refl _ _) _) hb3⟩

theorem sumParts_law (A : Option Addr) (c : Nat) (l : List UInt8) (cut : Int) (w : World) (hlc : l.length ≤ c) (hcm : c ≤ maxLen) (hA : Sl w w.heap.size A l) :
    Calls Try.prog 4 #[.slice A l.length c, .int .i64 cut] w fun e w' => e = .returned (.bool true) ∧ Below w.heap.size w w' := by
  by_cases h : 400 < l.length
  · exact parts_long A c l.length cut w h
  · by_cases h0 : 0 < l.length
    · obtain ⟨b1, off, rfl, -, -⟩ := hA h0
      obtain ⟨k, hk, hK⟩ := wrap_mod cut (l.length + 1) (by omega)
      rw [show ((l.length + 1 : Nat) : Int) = (l.length : Int) + 1 by omega] at hK
      by_cases hc : k < c
      · exact parts_go b1 off c _ l cut k w hA (Nat.le_refl _) (by omega) hlc hcm (by omega) hc hK
      · obtain rfl : k = l.length := by omega
        obtain rfl : c = l.length := by omega
        exact parts_end b1 off _ l cut w hA (Nat.le_refl _) (by omega) hK
    · obtain rfl : l = [] := List.eq_nil_of_length_eq_zero (by omega)
      exact parts_none A c cut w
end Go.Proofs.Ytehbecpijomhcaa.crc
