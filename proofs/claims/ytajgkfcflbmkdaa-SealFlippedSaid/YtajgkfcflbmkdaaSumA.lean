/-
  Package sum, function by function: eight steps, the bytes taken in, Of, More, Table, each by its contract. Conditions: a slice's length is an int's.
-/
import Derived.Test.YtajgkfcflbmkdaaProg
import Derived.Test.YtajgkfcflbmkdaaSumFlip
import Derived.Test.YtajgkfcflbmkdaaKeep
import Derived.ProofKit
import Derived.WalkKit
import Derived.Calls
import Derived.WalkLawsBesides
import Derived.WalkSpells
import Derived.Lib.Walk
import Derived.Lib.Hide
import Derived.LoopTactic
import Derived.Outline
import Derived.Laws.BitsAllLaws
import Derived.Laws.Bits64
namespace Go.Proofs.Ytajgkfcflbmkdaa.crc
open Go.RowKit Go.Lib

theorem bits_xor_i64 (a b : Nat) (ha : a < 9223372036854775808) (hb : b < 9223372036854775808) : bits .xor .i64 (a : Int) (b : Int) = ((a ^^^ b : Nat) : Int) := by
  have hx : a ^^^ b < 9223372036854775808 := Nat.xor_lt_two_pow (n := 63) ha hb
  show IntKind.i64.wrap ((BitVec.ofInt 64 (a : Int) ^^^ BitVec.ofInt 64 (b : Int)).toNat : Int) = _
  rw [BitVec.toNat_xor, ofInt_u64 a (by omega), ofInt_u64 b (by omega)]
  generalize a ^^^ b = c at *
  simp [IntKind.wrap, IntKind.bits, IntKind.signed]
  omega

theorem and_one (a : Nat) (h : a < 4294967296) : bits .and .u32 (a : Int) 1 = ((a % 2 : Nat) : Int) := by
  have := u32_and_nat a 1 h (by omega)
  rw [nat_mask1] at this
  exact this
theorem xor_poly (a : Nat) (h : a < 4294967296) : bits .xor .u32 (a : Int) 2197175160 = ((a ^^^ poly : Nat) : Int) := u32_xor_nat a poly h (by decide)
theorem not_u32 (a : Nat) (h : a < 4294967296) : bits .xor .u32 4294967295 (a : Int) = ((ones - a : Nat) : Int) := by
  have := u32_xor_nat ones a (by decide) h
  rw [Nat.xor_comm, ← flip_ones h] at this
  exact this

set_option maxHeartbeats 1000000 in
theorem eight_any (r : Nat) (w : World) (hr : r < 4294967296) :
    Calls Try.prog 47 #[.int .u32 r] w fun e w' => e = .returned (.int .u32 (downs 8 r)) ∧ w = w' := by
  go_enter Try.func47, Try.ntmps47
  go_wp2
  go_loop [0, 3, 4] (fun x _ k => ∃ a n : Nat, x = .int .u32 a ∧ k = .int .i64 n ∧ n ≤ 8 ∧ a < 4294967296 ∧ downs (8 - n) a = downs 8 r) (fun _ _ k => 8 - (RowKit.intOf k).toNat)
  case atStart => exact ⟨r, 0, rfl, rfl, by omega, hr, rfl⟩
  case round =>
    obtain ⟨a, n, rfl, rfl, hn, ha, hd⟩ := hrel
    by_cases hk : n < 8
    · have hki : (n : Int) < 8 := by omega
      have e1 := and_one a ha
      have e2 : bits .xor .u32 ((a : Int) / 2) 2197175160 = ((a / 2 ^^^ poly : Nat) : Int) := xor_poly (a / 2) (by omega)
      rw [show 8 - n = (8 - (n + 1)) + 1 by omega, downs] at hd
      by_cases ho : a % 2 = 1
      · have ho' : ((a : Int) % 2 == 1) = true := by simp; omega
        rw [show down a = a / 2 ^^^ poly by unfold down; rw [if_pos ho]] at hd
        have H := Lib.hid hd
        clear hd
        go_wp2
        go_round
        case rel => exact ⟨a / 2 ^^^ poly, n + 1, rfl, by go_num, by omega, xor_lt (by omega) (by decide), H.out⟩
        case measure => simp [RowKit.intOf]; omega
      · have ho' : ((a : Int) % 2 == 1) = false := by simp; omega
        rw [show down a = a / 2 by unfold down; rw [if_neg ho]] at hd
        have H := Lib.hid hd
        clear hd
        go_wp2
        go_round
        case rel => exact ⟨a / 2, n + 1, rfl, by go_num, by omega, by omega, H.out⟩
        case measure => simp [RowKit.intOf]; omega
    · have hki : ¬ (n : Int) < 8 := by omega
      have h8 : 8 - n = 0 := by omega
      rw [h8] at hd
      have H := Lib.hid hd
      clear hd
      go_wp2
      go_ret
      exact ⟨ret_int (by rw [← H.out]; rfl), rfl⟩

set_option maxHeartbeats 1000000 in
theorem take_any (r : Nat) (A : Option Addr) (c B : Nat) (l : List UInt8) (w : World) (hr : r < 4294967296) (hA : Sl w B A l) (hl : l.length ≤ maxLen) :
    Calls Try.prog 41 #[.int .u32 r, .slice A l.length c] w fun e w' => e = .returned (.int .u32 (reg r l)) ∧ w = w' := by
  unfold maxLen at hl
  go_enter Try.func41, Try.ntmps41
  go_wp2
  go_loop [0, 6, 9] (fun x _ k => ∃ a n : Nat, x = .int .u32 a ∧ k = .int .i64 n ∧ n ≤ l.length ∧ a < 4294967296 ∧ reg a (l.drop n) = reg r l) (fun _ _ k => l.length - (RowKit.intOf k).toNat)
  case atStart => exact ⟨r, 0, rfl, rfl, by omega, hr, rfl⟩
  case round =>
    obtain ⟨a, n, rfl, rfl, hn, ha, hd⟩ := hrel
    by_cases hk : n < l.length
    · have hki : (n : Int) < (l.length : Int) := by omega
      obtain ⟨b, off, rfl, hb, hc⟩ := hA (by omega)
      have h0 := hc n hk
      have hd : reg (downs 8 (a ^^^ l[n].toNat)) (l.drop (n + 1)) = reg r l := by
        rw [List.drop_eq_getElem_cons hk] at hd
        exact hd
      have hy := l[n].toNat_lt
      unfold by8 at h0
      generalize l[n].toNat = y at h0 hd hy
      have e1 : bits .xor .u32 (a : Int) (y : Int) = ((a ^^^ y : Nat) : Int) := u32_xor_nat a y ha (by omega)
      have hlt : a ^^^ y < 4294967296 := xor_lt ha (by omega)
      have H := Lib.hid hd
      clear hd hc
      go_wp2_with (go_at_call 47; (with_reducible refine (eight_any _ _ hlt).mono ?_); rintro e w' ⟨rfl, rfl⟩)
      go_round
      case rel => exact ⟨downs 8 (a ^^^ y), n + 1, rfl, by go_num, by omega, downs_lt 8 hlt, H.out⟩
      case measure => simp [RowKit.intOf]; omega
    · have hki : ¬ (n : Int) < (l.length : Int) := by omega
      rw [List.drop_eq_nil_of_le (by omega)] at hd
      have H := Lib.hid hd
      clear hd
      go_wp2
      go_ret
      exact ⟨ret_int (by rw [← H.out]; rfl), rfl⟩

theorem finish_any (r : Nat) (w : World) (hr : r < 4294967296) :
    Calls Try.prog 40 #[.int .u32 r] w fun e w' => e = .returned (.int .i64 ((ones - r : Nat) : Int)) ∧ w = w' := by
  have e1 : bits .xor .u32 IntKind.u32.max (r : Int) = ((ones - r : Nat) : Int) := not_u32 r hr
  have hlt : ((ones - r : Nat) : Int) ≤ 4294967295 := by unfold ones; omega
  generalize ones - r = y at e1 hlt
  have hw : wrap64 (y : Int) = (y : Int) := by unfold wrap64; omega
  go_enter Try.func40, Try.ntmps40
  go_wp2
  go_ret
  exact ⟨rfl, rfl⟩

theorem of_any (A : Option Addr) (c B : Nat) (l : List UInt8) (w : World) (hA : Sl w B A l) (hl : l.length ≤ maxLen) :
    Calls Try.prog 28 #[.slice A l.length c] w fun e w' => e = .returned (.int .i64 (sum l)) ∧ w = w' := by
  have cT : Calls Try.prog 41 #[.int .u32 4294967295, .slice A l.length c] w fun e w' => e = .returned (.int .u32 (reg ones l)) ∧ w = w' := take_any ones A c B l w (by decide) hA hl
  have cF : Calls Try.prog 40 #[.int .u32 (reg ones l)] w fun e w' => e = .returned (.int .i64 (sum l)) ∧ w = w' := finish_any (reg ones l) w (reg_lt l (by decide))
  go_enter Try.func28, Try.ntmps28
  go_wp2_with (first
    | (go_at_call 41; (with_reducible refine cT.mono ?_); rintro e w' ⟨rfl, rfl⟩)
    | (go_at_call 40; (with_reducible refine cF.mono ?_); rintro e w' ⟨rfl, rfl⟩))
  go_ret
  exact ⟨rfl, rfl⟩

theorem ref_down (r : Nat) (w : World) (hr : r < 4294967296) :
    Calls Try.prog 49 #[.int .i64 r] w fun e w' => e = .returned (.int .i64 (down r)) ∧ w = w' := by
  have e2 : bits .xor .i64 ((r : Int) / 2) 2197175160 = ((r / 2 ^^^ poly : Nat) : Int) := bits_xor_i64 (r / 2) poly (by omega) (by decide)
  by_cases ho : r % 2 = 1
  · have ho' : ((r : Int) % 2 == 1) = true := by simp; omega
    have hd : down r = r / 2 ^^^ poly := by unfold down; rw [if_pos ho]
    rw [hd]
    clear hd
    go_enter Try.func49, Try.ntmps49
    go_wp2
    go_ret
    exact ⟨rfl, rfl⟩
  · have ho' : ((r : Int) % 2 == 1) = false := by simp; omega
    have hd : down r = r / 2 := by unfold down; rw [if_neg ho]
    rw [hd]
    clear hd
    go_enter Try.func49, Try.ntmps49
    go_wp2
    go_ret
    exact ⟨rfl, rfl⟩
theorem ref_eight (r : Nat) (w : World) (hr : r < 4294967296) :
    Calls Try.prog 45 #[.int .i64 r] w fun e w' => e = .returned (.int .i64 (downs 8 r)) ∧ w = w' := by
  go_enter Try.func45, Try.ntmps45
  go_wp2
  go_loop [0, 3] (fun x k => ∃ a n : Nat, x = .int .i64 a ∧ k = .int .i64 n ∧ n ≤ 8 ∧ a < 4294967296 ∧ downs (8 - n) a = downs 8 r) (fun _ k => 8 - (RowKit.intOf k).toNat)
  case atStart => exact ⟨r, 0, rfl, rfl, by omega, hr, rfl⟩
  case round =>
    obtain ⟨a, n, rfl, rfl, hn, ha, hd⟩ := hrel
    by_cases hk : n < 8
    · have hki : (n : Int) < 8 := by omega
      rw [show 8 - n = (8 - (n + 1)) + 1 by omega, downs] at hd
      have H := Lib.hid hd
      clear hd
      go_wp2_with (go_at_call 49; (with_reducible refine (ref_down _ _ ha).mono ?_); rintro e w' ⟨rfl, rfl⟩)
      go_round
      case rel => exact ⟨down a, n + 1, rfl, by go_num, by omega, down_lt ha, H.out⟩
      case measure => simp [RowKit.intOf]; omega
    · have hki : ¬ (n : Int) < 8 := by omega
      have h8 : 8 - n = 0 := by omega
      rw [h8] at hd
      have H := Lib.hid hd
      clear hd
      go_wp2
      go_ret
      exact ⟨ret_int (by rw [← H.out]; rfl), rfl⟩
end Go.Proofs.Ytajgkfcflbmkdaa.crc
