/-
  casematekeep.Bytes once more: it changes nothing in memory (it draws). Conditions: byte strings shorter than 2^20.
-/
import Derived.Test.YthdahdopejapmaaKeep
import Derived.Deep.QuietTactic
import Derived.BigQuiet
namespace Go.Proofs.Ythdahdopejapmaa
open Go.RowKit Go.Lib

theorem keep_long_q (A A' : Option Addr) (c c' m n : Nat) (w : World) (h : m ≠ n) :
    Calls Try.prog 24 #[.slice A m c, .slice A' n c'] w fun e w' => e = .returned (.bool false) ∧ ∃ m, w' = w.drewN m := by
  have h1 : ((m : Int) == (n : Int)) = false := beq_eq_false_iff_ne.2 (by omega)
  have h2 : ((m : Int) != (n : Int)) = true := bne_iff_ne.2 (by omega)
  have h3 : (m == n) = false := beq_eq_false_iff_ne.2 h
  have h4 : (m != n) = true := bne_iff_ne.2 h
  go_enter Try.func24, Try.ntmps24
  go_wp2
  go_ret
  exact ⟨rfl, 0, rfl⟩
set_option maxHeartbeats 1000000 in
theorem keep_short_q (A A' : Option Addr) (c c' B B' : Nat) (a b : List UInt8) (w : World) (hab : a.length = b.length) (hA : Sl w B A a) (hA' : Sl w B' A' b) (hB : B ≤ w.heap.size) (hB' : B' ≤ w.heap.size) (hl : a.length ≤ 1048576) :
    Calls Try.prog 24 #[.slice A a.length c, .slice A' a.length c'] w fun e w' => e = .returned (.bool (decide (a = b))) ∧ ∃ m, w' = w.drewN m := by
  go_enter Try.func24, Try.ntmps24
  go_wp2
  go_loopw [5] (fun i w' => ∃ k : Nat, k ≤ a.length ∧ i = .int .i64 k ∧ a.take k = b.take k ∧ ∃ m, w' = w.drewN m) (fun i _ => a.length - (RowKit.intOf i).toNat)
  case atStart => exact ⟨0, by omega, rfl, rfl, 0, rfl⟩
  case round =>
    rename_i wr
    obtain ⟨k, hk, rfl, hs, m, hm⟩ := hrel
    have hbr : Below w.heap.size w wr := by rw [hm]; exact below_dn (Below.refl _ _) m
    have HM := Lib.hid hm
    clear hm
    by_cases hlt : k < a.length
    · obtain ⟨b1, off, rfl, hb, hc⟩ := (hA.below (hbr.mono hB)) (by omega)
      obtain ⟨b2, off', rfl, hb', hc'⟩ := (hA'.below (hbr.mono hB')) (by omega)
      have g := hc k hlt
      have g' := hc' k (by omega)
      have i1 : (k : Int) < (a.length : Int) := by omega
      have hx := a[k].toNat_lt
      have hy := (b[k]'(by omega)).toNat_lt
      unfold by8 at g g'
      clear hc hc' hA hA'
      by_cases he : a[k] = b[k]'(by omega)
      · have H : Hid (a.take (k + 1) = b.take (k + 1)) := by
          show a.take (k + 1) = b.take (k + 1)
          rw [List.take_succ_eq_append_getElem hlt, List.take_succ_eq_append_getElem (show k < b.length by omega), hs, he]
        rw [← he] at g'
        clear hs he
        generalize a[k].toNat = x at g g' hx
        go_wp2_with fail
        go_quiet (fail)
        go_wp2
        go_roundw
        case rel => exact ⟨k + 1, by omega, by go_num, H.out, m + nq, by rw [HM.out, World.drewN_drewN]⟩
        case measure => simp [RowKit.intOf]; omega
      · have hne : a[k].toNat ≠ (b[k]'(by omega)).toNat := fun h => he (UInt8.toNat_inj.1 h)
        have H : Hid (decide (a = b) = false) := by
          show decide (a = b) = false
          exact decide_eq_false fun h => he (by subst h; rfl)
        clear hs he
        generalize a[k].toNat = x at g hx hne
        generalize (b[k]'(by omega)).toNat = y at g' hy hne
        have n1 : ((x : Int) == (y : Int)) = false := beq_eq_false_iff_ne.2 (by omega)
        have n2 : ((x : Int) != (y : Int)) = true := bne_iff_ne.2 (by omega)
        have n3 : (x == y) = false := beq_eq_false_iff_ne.2 hne
        have n4 : (x != y) = true := bne_iff_ne.2 hne
        go_wp2_with fail
        go_quiet (fail)
        go_wp2
        go_ret
        exact ⟨ret_bool H.out.symm, m + nq, by rw [HM.out, World.drewN_drewN]⟩
    · have H : Hid (decide (a = b) = true) := by
        show decide (a = b) = true
        rw [List.take_of_length_le (by omega), List.take_of_length_le (by omega)] at hs
        exact decide_eq_true hs
      go_wp2
      go_ret
      exact ⟨ret_bool H.out.symm, m, HM.out⟩
theorem keep_any_q (A A' : Option Addr) (c c' B B' : Nat) (a b : List UInt8) (w : World) (hA : Sl w B A a) (hA' : Sl w B' A' b) (hB : B ≤ w.heap.size) (hB' : B' ≤ w.heap.size) (hl : a.length ≤ 1048576) :
    Calls Try.prog 24 #[.slice A a.length c, .slice A' b.length c'] w fun e w' => e = .returned (.bool (decide (a = b))) ∧ ∃ m, w' = w.drewN m := by
  by_cases h : a.length = b.length
  · rw [← h]
    exact keep_short_q A A' c c' B B' a b w h hA hA' hB hB' hl
  · have hf : decide (a = b) = false := decide_eq_false fun k => h (by rw [k])
    rw [hf]
    exact keep_long_q A A' c c' _ _ w h
end Go.Proofs.Ythdahdopejapmaa
