/-
  Rows of integers: what they are as cells; package casematekeep's comparing and copying of them. Conditions: rows shorter than 2^20.
-/
import Derived.Test.YtpcadoekhoediaaGreatDoorKeep
import Derived.Test.YtpcadoekhoediaaGreatDoorOpen
import Derived.Test.YtpcadoekhoediaaGreatDoorSlices
namespace Go.Proofs.YtpcadoekhoediaaGreatDoor
open Go.RowKit Go.Lib

/-- Integers, as cells. -/
def ints (l : List Int) : List Value := l.map (Value.int .i64)
theorem ints_length (l : List Int) : (ints l).length = l.length := by simp [ints]
theorem ints_get (l : List Int) (j : Nat) (h : j < (ints l).length) : (ints l)[j] = .int .i64 (l[j]'(by rwa [ints_length] at h)) := by simp [ints]
theorem ints_append (a b : List Int) : ints (a ++ b) = ints a ++ ints b := by simp [ints]
theorem ints_drop (l : List Int) (k : Nat) : ints (l.drop k) = (ints l).drop k := by simp [ints, List.map_drop]
theorem ints_take (l : List Int) (k : Nat) : ints (l.take k) = (ints l).take k := by simp [ints, List.map_take]
theorem ints_one (l : List Int) : ∀ u ∈ ints l, u.oneCell' = true := by
  intro u hu
  obtain ⟨_, _, rfl⟩ := List.mem_map.1 hu
  rfl
theorem SlK.slv {w : World} {B : Nat} {A : Option Addr} {l : List Int} (h : SlK .i64 w B A l) : SlV w B A (ints l) := fun hl => by
  rw [ints_length] at hl
  obtain ⟨b, off, hA, hb, hc⟩ := h hl
  refine ⟨b, off, hA, hb, fun j hj => ?_⟩
  rw [ints_length] at hj
  rw [hc j hj, ints_get]
theorem i_info : (Tryz.prog.info? 3).map (fun i => (i.zero, i.size, i.bytes)) = some (some (.int .i64 0), 1, 8) := by kernel_rfl
theorem tvI : TV Tryz.prog 41 3 (.int .i64 0) 8 := by
  refine ⟨Tryz.underlying41, rfl, ?_⟩
  have h := i_info
  cases hi : Tryz.prog.info? 3 with
  | none => rw [hi] at h; cases h
  | some i =>
    rw [hi] at h
    simp only [Option.map_some, Option.some.injEq, Prod.mk.injEq] at h
    exact ⟨i, rfl, h.1, h.2.1, h.2.2⟩

set_option maxRecDepth 100000 in
theorem keepI_long (A A' : Option Addr) (c c' m n : Nat) (w : World) (h : m ≠ n) :
    Calls Tryz.prog 17 #[.slice A m c, .slice A' n c'] w fun e w' => e = .returned (.bool false) ∧ Below w.heap.size w w' := by
  have h1 : ((m : Int) == (n : Int)) = false := beq_eq_false_iff_ne.2 (by omega)
  have h2 : ((m : Int) != (n : Int)) = true := bne_iff_ne.2 (by omega)
  have h3 : (m == n) = false := beq_eq_false_iff_ne.2 h
  have h4 : (m != n) = true := bne_iff_ne.2 h
  go_enter Tryz.func17, Tryz.ntmps17
  go_wp2
  go_ret
  exact ⟨rfl, Below.refl _ _⟩
set_option maxRecDepth 100000 in
set_option maxHeartbeats 1000000 in
theorem keepI_short (A A' : Option Addr) (c c' B B' n : Nat) (a b : List Int) (w : World) (hn : a.length = n) (hab : a.length = b.length) (hA : SlV w B A (ints a)) (hA' : SlV w B' A' (ints b)) (hB : B ≤ w.heap.size) (hB' : B' ≤ w.heap.size) (hl : n ≤ 1048576) :
    Calls Tryz.prog 17 #[.slice A n c, .slice A' n c'] w fun e w' => e = .returned (.bool (decide (a = b))) ∧ Below w.heap.size w w' := by
  go_enter Tryz.func17, Tryz.ntmps17
  go_wp2
  go_loopw [5] (fun i w' => ∃ k : Nat, k ≤ n ∧ i = .int .i64 k ∧ a.take k = b.take k ∧ Below w.heap.size w w') (fun i _ => n - (RowKit.intOf i).toNat)
  case atStart => exact ⟨0, by omega, rfl, rfl, Below.refl _ _⟩
  case round =>
    rename_i wr
    obtain ⟨k, hk, rfl, hs, hbr⟩ := hrel
    by_cases hlt : k < n
    · obtain ⟨b1, off, rfl, hb, hc⟩ := (hA.below (hbr.mono hB)) (by rw [ints_length]; omega)
      obtain ⟨b2, off', rfl, hb', hc'⟩ := (hA'.below (hbr.mono hB')) (by rw [ints_length]; omega)
      have g := hc k (by rw [ints_length]; omega)
      have g' := hc' k (by rw [ints_length]; omega)
      rw [ints_get] at g g'
      have i1 : (k : Int) < (n : Int) := by omega
      have hka : k < a.length := by omega
      have hkb : k < b.length := by omega
      clear hc hc' hA hA'
      by_cases he : a[k] = b[k]
      · have H : Hid (a.take (k + 1) = b.take (k + 1)) := by
          show a.take (k + 1) = b.take (k + 1)
          rw [List.take_succ_eq_append_getElem hka, List.take_succ_eq_append_getElem hkb, hs, he]
        rw [← he] at g'
        clear hs he
        generalize a[k] = x at g g'
        have n1 : (x != x) = false := bne_self_eq_false _
        clear hab hn
        go_wp2_with fail
        go_quiet (fail)
        go_wp2
        go_roundw
        case rel => exact ⟨k + 1, by omega, by go_num, H.out, below_dn hbr _⟩
        case measure => simp [RowKit.intOf]; omega
      · have H : Hid (decide (a = b) = false) := by
          show decide (a = b) = false
          exact decide_eq_false fun h => he (by subst h; rfl)
        clear hs
        generalize a[k] = x at g he
        generalize b[k] = y at g' he
        have n1 : (x == y) = false := beq_eq_false_iff_ne.2 he
        have n2 : (x != y) = true := bne_iff_ne.2 he
        clear hab hn he
        go_wp2_with fail
        go_quiet (fail)
        go_wp2
        go_ret
        exact ⟨ret_bool H.out.symm, below_dn hbr _⟩
    · have H : Hid (decide (a = b) = true) := by
        show decide (a = b) = true
        rw [List.take_of_length_le (by omega), List.take_of_length_le (by omega)] at hs
        exact decide_eq_true hs
      go_wp2
      go_ret
      exact ⟨ret_bool H.out.symm, hbr⟩
theorem ints_any (A A' : Option Addr) (c c' B B' n m : Nat) (a b : List Int) (w : World) (hn : a.length = n) (hm : b.length = m) (hA : SlV w B A (ints a)) (hA' : SlV w B' A' (ints b)) (hB : B ≤ w.heap.size) (hB' : B' ≤ w.heap.size) (hl : n ≤ 1048576) :
    Calls Tryz.prog 17 #[.slice A n c, .slice A' m c'] w fun e w' => e = .returned (.bool (decide (a = b))) ∧ Below w.heap.size w w' := by
  by_cases h : n = m
  · subst h
    exact keepI_short A A' c c' B B' n a b w hn (by omega) hA hA' hB hB' hl
  · have hf : decide (a = b) = false := decide_eq_false fun k => h (by rw [← hn, ← hm, k])
    rw [hf]
    exact keepI_long A A' c c' _ _ w h
end Go.Proofs.YtpcadoekhoediaaGreatDoor
