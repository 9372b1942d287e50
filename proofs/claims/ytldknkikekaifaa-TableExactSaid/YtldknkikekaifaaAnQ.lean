/-
  casematekeep.Ints once more: it changes nothing in memory (it draws). Conditions: rows shorter than 2^20.
-/
import Derived.Test.YtldknkikekaifaaKeepInts
import Derived.Deep.QuietTactic
import Derived.BigQuiet
namespace Go.Proofs.Ytldknkikekaifaa
open Go.RowKit Go.Lib

set_option maxRecDepth 100000 in
theorem keepI_long_q (A A' : Option Addr) (c c' m n : Nat) (w : World) (h : m ≠ n) :
    Calls Try.prog 21 #[.slice A m c, .slice A' n c'] w fun e w' => e = .returned (.bool false) ∧ ∃ m, w' = w.drewN m := by
  have h1 : ((m : Int) == (n : Int)) = false := beq_eq_false_iff_ne.2 (by omega)
  have h2 : ((m : Int) != (n : Int)) = true := bne_iff_ne.2 (by omega)
  have h3 : (m == n) = false := beq_eq_false_iff_ne.2 h
  have h4 : (m != n) = true := bne_iff_ne.2 h
  go_enter Try.func21, Try.ntmps21
  go_wp2
  go_ret
  exact ⟨rfl, 0, rfl⟩
set_option maxRecDepth 100000 in
set_option maxHeartbeats 1000000 in
theorem keepI_short_q (A A' : Option Addr) (c c' B B' n : Nat) (a b : List Int) (w : World) (hn : a.length = n) (hab : a.length = b.length) (hA : SlV w B A (ints a)) (hA' : SlV w B' A' (ints b)) (hB : B ≤ w.heap.size) (hB' : B' ≤ w.heap.size) (hl : n ≤ 1048576) :
    Calls Try.prog 21 #[.slice A n c, .slice A' n c'] w fun e w' => e = .returned (.bool (decide (a = b))) ∧ ∃ m, w' = w.drewN m := by
  go_enter Try.func21, Try.ntmps21
  go_wp2
  go_loopw [5] (fun i w' => ∃ k : Nat, k ≤ n ∧ i = .int .i64 k ∧ a.take k = b.take k ∧ ∃ m, w' = w.drewN m) (fun i _ => n - (RowKit.intOf i).toNat)
  case atStart => exact ⟨0, by omega, rfl, rfl, 0, rfl⟩
  case round =>
    rename_i wr
    obtain ⟨k, hk, rfl, hs, m, hm⟩ := hrel
    have hbr : Below w.heap.size w wr := by rw [hm]; exact below_dn (Below.refl _ _) m
    have HM := Lib.hid hm
    clear hm
    by_cases hlt : k < n
    · obtain ⟨b1, off, rfl, hb, hc⟩ := (hA.below (hbr.mono hB)) (by rw [ints_length]; omega)
      obtain ⟨b2, off', rfl, hb', hc'⟩ := (hA'.below (hbr.mono hB')) (by rw [ints_length]; omega)
      have g := hc k (by rw [ints_length]; omega)
      have g' := hc' k (by rw [ints_length]; omega)
      rw [ints_get] at g g'
      have i1 : (k : Int) < (n : Int) := by omega
      have hka : k < a.length := by omega
      have hkb : k < b.length := by omega
      clear hc hc' hA hA'
      by_cases he : a[k] = b[k]
      · have H : Hid (a.take (k + 1) = b.take (k + 1)) := by
          show a.take (k + 1) = b.take (k + 1)
          rw [List.take_succ_eq_append_getElem hka, List.take_succ_eq_append_getElem hkb, hs, he]
        rw [← he] at g'
        clear hs he
        generalize a[k] = x at g g'
        have n1 : (x != x) = false := bne_self_eq_false _
        clear hab hn
        go_wp2_with fail
        go_quiet (fail)
        go_wp2
        go_roundw
        case rel => exact ⟨k + 1, by omega, by go_num, H.out, m + nq, by rw [HM.out, World.drewN_drewN]⟩
        case measure => simp [RowKit.intOf]; omega
      · have H : Hid (decide (a = b) = false) := by
          show decide (a = b) = false
          exact decide_eq_false fun h => he (by subst h; rfl)
        clear hs
        generalize a[k] = x at g he
        generalize b[k] = y at g' he
        have n1 : (x == y) = false := beq_eq_false_iff_ne.2 he
        have n2 : (x != y) = true := bne_iff_ne.2 he
        clear hab hn he
        go_wp2_with fail
        go_quiet (fail)
        go_wp2
        go_ret
        exact ⟨ret_bool H.out.symm, m + nq, by rw [HM.out, World.drewN_drewN]⟩
    · have H : Hid (decide (a = b) = true) := by
        show decide (a = b) = true
        rw [List.take_of_length_le (by omega), List.take_of_length_le (by omega)] at hs
        exact decide_eq_true hs
      go_wp2
      go_ret
      exact ⟨ret_bool H.out.symm, m, HM.out⟩
theorem ints_any_q (A A' : Option Addr) (c c' B B' n m : Nat) (a b : List Int) (w : World) (hn : a.length = n) (hm : b.length = m) (hA : SlV w B A (ints a)) (hA' : SlV w B' A' (ints b)) (hB : B ≤ w.heap.size) (hB' : B' ≤ w.heap.size) (hl : n ≤ 1048576) :
    Calls Try.prog 21 #[.slice A n c, .slice A' m c'] w fun e w' => e = .returned (.bool (decide (a = b))) ∧ ∃ m, w' = w.drewN m := by
  by_cases h : n = m
  · subst h
    exact keepI_short_q A A' c c' B B' n a b w hn (by omega) hA hA' hB hB' hl
  · have hf : decide (a = b) = false := decide_eq_false fun k => h (by rw [← hn, ← hm, k])
    rw [hf]
    exact keepI_long_q A A' c c' _ _ w h
end Go.Proofs.Ytldknkikekaifaa
