/-
  Package casematekeep, as far as it is about bytes: Twin copies, Bytes tells whether they are the same; and small words for slices and worlds. Conditions: slices shorter than 2^20 bytes.
-/
import Derived.Test.YtbfdpibjicjagaaGreatDoorProg
import Derived.Test.YtbfdpibjicjagaaGreatDoorBytes
import Derived.WalkKit
import Derived.WalkLawsBesides
import Derived.WalkSpells
import Derived.Calls
import Derived.Lib.Walk
import Derived.Lib.Hide
import Derived.LoopTactic
import Derived.Outline
import Derived.Deep.QuietTactic
import Derived.BigQuiet
set_option maxHeartbeats 1000000
set_option maxRecDepth 100000
namespace Go.Proofs.YtbfdpibjicjagaaGreatDoor
open Go.RowKit Go.Lib
theorem bt {a b c : World} (h : Below a.heap.size a b) (k : Below b.heap.size b c) : Below a.heap.size a c := h.trans (k.mono h.size)
theorem below_dn {B : Nat} {a w : World} (h : Below B a w) (n : Nat) : Below B a (w.drewN n) := ⟨h.os, h.tape, h.output, h.size, h.block⟩
theorem below_dr {B : Nat} {a w : World} (h : Below B a w) : Below B a w.drew := ⟨h.os, h.tape, h.output, h.size, h.block⟩
theorem ret_int {k : IntKind} {a b : Int} (h : a = b) : Ending.returned (.int k a) = .returned (.int k b) := by rw [h]
theorem ret_bool {a b : Bool} (h : a = b) : Ending.returned (.bool a) = .returned (.bool b) := by rw [h]
theorem wrap_nonneg (x : Int) : 0 ≤ IntKind.u64.wrap x := by
  rw [show IntKind.u64.wrap x = x % 18446744073709551616 by simp [IntKind.wrap, IntKind.bits, IntKind.signed]]
  exact Int.emod_nonneg _ (by omega)
theorem u8_info : (Tryz.prog.info? 5).map (fun i => (i.zero, i.size, i.bytes)) = some (some (.int .u8 0), 1, 1) := by kernel_rfl
theorem t8 : T8 Tryz.prog 49 5 := by
  refine ⟨Tryz.underlying49, Tryz.underlying5, ?_⟩
  have h := u8_info
  cases hi : Tryz.prog.info? 5 with
  | none => rw [hi] at h; cases h
  | some i =>
    rw [hi] at h
    simp only [Option.map_some, Option.some.injEq, Prod.mk.injEq] at h
    exact ⟨i, rfl, h.1, h.2.1, h.2.2⟩
theorem Sl.take {w : World} {B : Nat} {A : Option Addr} {l : List UInt8} (h : Sl w B A l) (k : Nat) : Sl w B A (l.take k) := fun hl => by
  rw [List.length_take] at hl
  obtain ⟨b, off, he, hb, hc⟩ := h (by omega)
  refine ⟨b, off, he, hb, fun j hj => ?_⟩
  rw [List.length_take] at hj
  rw [hc j (by omega)]
  simp
theorem Sl.drop {w : World} {B b off : Nat} {l : List UInt8} (h : Sl w B (some ⟨b, off, none⟩) l) (k : Nat) : Sl w B (some ⟨b, off + k, none⟩) (l.drop k) := fun hl => by
  rw [List.length_drop] at hl
  obtain ⟨b', off', he, hb, hc⟩ := h (by omega)
  simp only [Option.some.injEq, Addr.mk.injEq, and_true] at he
  obtain ⟨rfl, rfl⟩ := he
  refine ⟨b, off + k, rfl, hb, fun j hj => ?_⟩
  rw [List.length_drop] at hj
  have := hc (k + j) (by omega)
  rw [show off + k + j = off + (k + j) by omega, this]
  simp
def One (base : Nat) (l : List UInt8) (e : Ending) (w' : World) : Prop := ∃ v, e = .returned v ∧ Own w' base 5 v l
theorem twin_any (A : Option Addr) (c B : Nat) (l : List UInt8) (w : World) (hA : Sl w B A l) (hl : l.length ≤ 1048576) :
    Calls Tryz.prog 23 #[.slice A l.length c] w fun e w' => One w.heap.size l e w' ∧ Below w.heap.size w w' := by
  go_enter Tryz.func23, Tryz.ntmps23
  go_wp2_with (first
    | (at_builtin
       refine wpList_app8 _ rfl (.tmp 4) (.tmp 5) _ _ rfl w.heap.size 5 t8 (.slice none 0 0) [] rfl (own_nil _ _ _) _ _ rfl (Sl.src hA Tryz.underlying49 c) ?_ ?_ ?_
       · simp; omega
       · exact Nat.le_refl _
       intro v2 w2 hown2 hg2 hat2))
  go_ret
  exact ⟨⟨v2, rfl, hown2⟩, (Below.refl _ _).grown hg2 (Nat.le_refl _) (fun k hk => by simp [Value.ownBlock] at hk)⟩
theorem keep_long (A A' : Option Addr) (c c' m n : Nat) (w : World) (h : m ≠ n) :
    Calls Tryz.prog 27 #[.slice A m c, .slice A' n c'] w fun e w' => e = .returned (.bool false) ∧ Below w.heap.size w w' := by
  have h1 : ((m : Int) == (n : Int)) = false := beq_eq_false_iff_ne.2 (by omega)
  have h2 : ((m : Int) != (n : Int)) = true := bne_iff_ne.2 (by omega)
  have h3 : (m == n) = false := beq_eq_false_iff_ne.2 h
  have h4 : (m != n) = true := bne_iff_ne.2 h
  go_enter Tryz.func27, Tryz.ntmps27
  go_wp2
  go_ret
  exact ⟨rfl, Below.refl _ _⟩
theorem keep_short (A A' : Option Addr) (c c' B B' : Nat) (a b : List UInt8) (w : World) (hab : a.length = b.length) (hA : Sl w B A a) (hA' : Sl w B' A' b) (hB : B ≤ w.heap.size) (hB' : B' ≤ w.heap.size) (hl : a.length ≤ 1048576) :
    Calls Tryz.prog 27 #[.slice A a.length c, .slice A' a.length c'] w fun e w' => e = .returned (.bool (decide (a = b))) ∧ Below w.heap.size w w' := by
  go_enter Tryz.func27, Tryz.ntmps27
  go_wp2
  go_loopw [5] (fun i w' => ∃ k : Nat, k ≤ a.length ∧ i = .int .i64 k ∧ a.take k = b.take k ∧ Below w.heap.size w w') (fun i _ => a.length - (RowKit.intOf i).toNat)
  case atStart => exact ⟨0, by omega, rfl, rfl, Below.refl _ _⟩
  case round =>
    rename_i wr
    obtain ⟨k, hk, rfl, hs, hbr⟩ := hrel
    by_cases hlt : k < a.length
    · obtain ⟨b1, off, rfl, hb, hc⟩ := (hA.below (hbr.mono hB)) (by omega)
      obtain ⟨b2, off', rfl, hb', hc'⟩ := (hA'.below (hbr.mono hB')) (by omega)
      have g := hc k hlt
      have g' := hc' k (by omega)
      have i1 : (k : Int) < (a.length : Int) := by omega
      have hx := a[k].toNat_lt
      have hy := (b[k]'(by omega)).toNat_lt
      unfold by8 at g g'
      clear hc hc' hA hA'
      by_cases he : a[k] = b[k]'(by omega)
      · have H : Hid (a.take (k + 1) = b.take (k + 1)) := by
          show a.take (k + 1) = b.take (k + 1)
          rw [List.take_succ_eq_append_getElem hlt, List.take_succ_eq_append_getElem (show k < b.length by omega), hs, he]
        rw [← he] at g'
        clear hs he
        generalize a[k].toNat = x at g g' hx
        go_wp2_with fail
        go_quiet (fail)
        go_wp2
        go_roundw
        case rel => exact ⟨k + 1, by omega, by go_num, H.out, below_dn hbr _⟩
        case measure => simp [RowKit.intOf]; omega
      · have hne : a[k].toNat ≠ (b[k]'(by omega)).toNat := fun h => he (UInt8.toNat_inj.1 h)
        have H : Hid (decide (a = b) = false) := by
          show decide (a = b) = false
          exact decide_eq_false fun h => he (by subst h; rfl)
        clear hs he
        generalize a[k].toNat = x at g hx hne
        generalize (b[k]'(by omega)).toNat = y at g' hy hne
        have n1 : ((x : Int) == (y : Int)) = false := beq_eq_false_iff_ne.2 (by omega)
        have n2 : ((x : Int) != (y : Int)) = true := bne_iff_ne.2 (by omega)
        have n3 : (x == y) = false := beq_eq_false_iff_ne.2 hne
        have n4 : (x != y) = true := bne_iff_ne.2 hne
        go_wp2_with fail
        go_quiet (fail)
        go_wp2
        go_ret
        exact ⟨ret_bool H.out.symm, below_dn hbr _⟩
    · have H : Hid (decide (a = b) = true) := by
        show decide (a = b) = true
        rw [List.take_of_length_le (by omega), List.take_of_length_le (by omega)] at hs
        exact decide_eq_true hs
      go_wp2
      go_ret
      exact ⟨ret_bool H.out.symm, hbr⟩
theorem keep_any (A A' : Option Addr) (c c' B B' : Nat) (a b : List UInt8) (w : World) (hA : Sl w B A a) (hA' : Sl w B' A' b) (hB : B ≤ w.heap.size) (hB' : B' ≤ w.heap.size) (hl : a.length ≤ 1048576) :
    Calls Tryz.prog 27 #[.slice A a.length c, .slice A' b.length c'] w fun e w' => e = .returned (.bool (decide (a = b))) ∧ Below w.heap.size w w' := by
  by_cases h : a.length = b.length
  · rw [← h]
    exact keep_short A A' c c' B B' a b w h hA hA' hB hB' hl
  · have hf : decide (a = b) = false := decide_eq_false fun k => h (by rw [k])
    rw [hf]
    exact keep_long A A' c c' _ _ w h
end Go.Proofs.YtbfdpibjicjagaaGreatDoor
