/-
  The small functions of labels, each by its contract: what a call answers, and that it changes nothing that was there. Conditions: a text is shorter than 2^48 bytes.
-/
import Derived.Test.YtmdimngihpbcnaaDoorProg
import Derived.Test.YtmdimngihpbcnaaDoorLblMath
import Derived.WalkKit
import Derived.Below
import Derived.Lib.Walk
import Derived.Lib.Hide
import Derived.Laws.RangeString
import Derived.Laws.RangeAny
import Derived.LoopTactic
import Derived.Outline
namespace Go.Proofs.YtmdimngihpbcnaaDoor.lbl
open Go.RowKit Go.Lib

theorem drop_step (s : ByteArray) (pos : Nat) (hp : pos < s.size) : toks (s.data.toList.drop pos) = Utf8.decode s pos :: toks (s.data.toList.drop (pos + (Utf8.decode s pos).2)) := by
  have hs : s.data.toList.length = s.size := by rw [Array.length_toList]; rfl
  have hne : s.data.toList.drop pos ≠ [] := by
    intro h
    have := congrArg List.length h
    rw [List.length_drop] at this
    simp at this
    omega
  rw [toks_step _ hne, decodeL_drop, List.drop_drop]
theorem drop_end (s : ByteArray) (pos : Nat) (hp : ¬ pos < s.size) : toks (s.data.toList.drop pos) = [] := by
  have hs : s.data.toList.length = s.size := by rw [Array.length_toList]; rfl
  rw [List.drop_eq_nil_of_le (by omega)]
  rfl
theorem width_pos (s : ByteArray) (pos : Nat) : 1 ≤ (Utf8.decode s pos).2 := by
  rw [← decodeL_drop]; exact dec_width _
theorem ret_int {k : IntKind} {a b : Int} (h : a = b) : Ending.returned (.int k a) = .returned (.int k b) := by rw [h]
theorem below_iter (w : World) (s : ByteArray) (p : Nat) : Below w.heap.size w (w.iter s p) := (Below.refl _ _).alloc (Nat.le_refl _) _

theorem permitted_any (r : Int) (w : World) : Calls Tryd.prog 26 #[.int .i32 r] w fun e w' => e = .returned (.bool (decide (32 ≤ r) && r != 127)) ∧ w = w' := by
  by_cases h : 32 ≤ r
  · by_cases h2 : r = 127
    · subst h2
      go_enter Tryd.func26, Tryd.ntmps26
      go_wp2
      go_ret
      exact ⟨rfl, rfl⟩
    · have hd : decide (32 ≤ r) = true := decide_eq_true h
      have hn : (r != 127) = true := by simpa using h2
      rw [hd, hn]
      go_enter Tryd.func26, Tryd.ntmps26
      go_wp2
      go_ret
      exact ⟨rfl, rfl⟩
  · have hd : decide (32 ≤ r) = false := decide_eq_false h
    rw [hd]
    go_enter Tryd.func26, Tryd.ntmps26
    go_wp2
    go_ret
    exact ⟨rfl, rfl⟩

set_option maxHeartbeats 1000000 in
set_option maxRecDepth 100000 in
theorem runes_any (s : ByteArray) (w : World) (hs : s.size < 9223372036854775807) :
    Calls Tryd.prog 17 #[.string s] w fun e w' => e = .returned (.int .i64 (toks s.data.toList).length) ∧ Below w.heap.size w w' := by
  have hT : (toks s.data.toList).length ≤ s.size := by
    have := toks_len_le s.data.toList
    rwa [Array.length_toList] at this
  go_enter Tryd.func17, Tryd.ntmps17
  go_wp2
  go_loopw [3] (fun n w' => ∃ (pos acc : Nat), w' = w.iter s pos ∧ n = .int .i64 acc ∧ acc + (toks (s.data.toList.drop pos)).length = (toks s.data.toList).length ∧ acc ≤ pos) (fun _ w' => s.size - w'.iterPos w.heap.size)
  case atStart => exact ⟨0, 0, rfl, rfl, by simp, Nat.le_refl _⟩
  case round =>
    obtain ⟨pos, acc, rfl, rfl, hc, ha⟩ := hrel
    by_cases hp : pos < s.size
    · have hnx : ∀ ty, (Instr.next (.pointer (some ⟨w.heap.size, 0, none⟩)) true ty).run Tryd.prog (w.iter s pos) = _ := fun ty => run_next_any w s pos ty hp
      have hwd := width_pos s pos
      have hst := drop_step s pos hp
      rw [hst, List.length_cons] at hc
      clear hst
      have H := Lib.hid hc
      have hb : acc + 1 ≤ s.size := by omega
      clear hc
      go_wp2
      go_roundw
      case rel => exact ⟨pos + (Utf8.decode s pos).2, acc + 1, rfl, by go_num, by have := H.out; omega, by omega⟩
      case measure =>
        simp
        omega
    · have hnx : ∀ ty, (Instr.next (.pointer (some ⟨w.heap.size, 0, none⟩)) true ty).run Tryd.prog (w.iter s pos) = _ := fun ty => run_next_end w s pos ty hp
      rw [drop_end s pos hp, List.length_nil, Nat.add_zero] at hc
      go_wp2
      go_ret
      exact ⟨ret_int (by rw [hc]), below_iter _ _ _⟩

/-- What the reader of one rune answers, by hand: how many bytes, and which; nought of nothing. -/
def one (l : List UInt8) : Int × Int := if bad (decodeL l) then (0, 0) else ((decodeL l).2, (decodeL l).1)
end Go.Proofs.YtmdimngihpbcnaaDoor.lbl
