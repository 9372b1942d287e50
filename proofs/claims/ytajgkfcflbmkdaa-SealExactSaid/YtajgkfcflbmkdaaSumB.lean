/-
  The document's own answers for checksums (as the statements' package gives them), each by its contract; two byte strings held against one another; 'wakes'. Conditions: slices shorter than 2^20 bytes.
-/
import Derived.Test.YtajgkfcflbmkdaaSumA
import Derived.Deep.RegionHeld3
namespace Go.Proofs.Ytajgkfcflbmkdaa.crc
open Go.RowKit Go.Lib

set_option maxHeartbeats 1000000 in
theorem ref_more (s : Nat) (A : Option Addr) (c B : Nat) (l : List UInt8) (w : World) (hs : s < 4294967296) (hA : Sl w B A l) (hl : l.length ≤ maxLen) :
    Calls Try.prog 36 #[.int .i64 s, .slice A l.length c] w fun e w' => e = .returned (.int .i64 (more s l)) ∧ w = w' := by
  unfold maxLen at hl
  have e0 : (4294967295 : Int) - (s : Int) = ((ones - s : Nat) : Int) := by unfold ones; omega
  have hlt : ones - s < 4294967296 := by unfold ones; omega
  have HM : Hid (more s l = ones - reg (ones - s) l) := by show _ = _; rfl
  generalize ones - s = r at *
  go_enter Try.func36, Try.ntmps36
  go_wp2
  go_loop [5, 6] (fun x k => ∃ a n : Nat, x = .int .i64 a ∧ k = .int .i64 n ∧ n ≤ l.length ∧ a < 4294967296 ∧ reg a (l.drop n) = reg r l) (fun _ k => l.length - (RowKit.intOf k).toNat)
  case atStart => exact ⟨r, 0, by rw [← e0], rfl, by omega, hlt, rfl⟩
  case round =>
    obtain ⟨a, n, rfl, rfl, hn, ha, hd⟩ := hrel
    by_cases hk : n < l.length
    · have hki : (n : Int) < (l.length : Int) := by omega
      obtain ⟨b, off, rfl, hb, hc⟩ := hA (by omega)
      have h0 := hc n hk
      have hd : reg (downs 8 (a ^^^ l[n].toNat)) (l.drop (n + 1)) = reg r l := by
        rw [List.drop_eq_getElem_cons hk] at hd
        exact hd
      have hy := l[n].toNat_lt
      unfold by8 at h0
      generalize l[n].toNat = y at h0 hd hy
      have e1 : bits .xor .i64 (a : Int) (y : Int) = ((a ^^^ y : Nat) : Int) := bits_xor_i64 a y (by omega) (by omega)
      have hlt' : a ^^^ y < 4294967296 := xor_lt ha (by omega)
      have H := Lib.hid hd
      clear hd hc
      go_wp2_with (go_at_call 45; (with_reducible refine (ref_eight _ _ hlt').mono ?_); rintro e w' ⟨rfl, rfl⟩)
      go_round
      case rel => exact ⟨downs 8 (a ^^^ y), n + 1, rfl, by go_num, by omega, downs_lt 8 hlt', H.out⟩
      case measure => simp [RowKit.intOf]; omega
    · have hki : ¬ (n : Int) < (l.length : Int) := by omega
      rw [List.drop_eq_nil_of_le (by omega)] at hd
      have H : Hid (a = reg r l) := hd
      clear hd
      go_wp2
      go_ret
      exact ⟨ret_int (by rw [HM.out, ← H.out]; unfold ones; omega), rfl⟩
theorem ref_sum (A : Option Addr) (c B : Nat) (l : List UInt8) (w : World) (hA : Sl w B A l) (hl : l.length ≤ maxLen) :
    Calls Try.prog 22 #[.slice A l.length c] w fun e w' => e = .returned (.int .i64 (sum l)) ∧ w = w' := by
  have cM : Calls Try.prog 36 #[.int .i64 0, .slice A l.length c] w fun e w' => e = .returned (.int .i64 (sum l)) ∧ w = w' := ref_more 0 A c B l w (by omega) hA hl
  go_enter Try.func22, Try.ntmps22
  go_wp2_with (go_at_call 36; (with_reducible refine cM.mono ?_); rintro e w' ⟨rfl, rfl⟩)
  go_ret
  exact ⟨rfl, rfl⟩

theorem xor_u8 (x y : UInt8) : bits .xor .u8 (x.toNat : Int) (y.toNat : Int) = ((x ^^^ y).toNat : Int) := by
  have := u8_xor_nat x.toNat y.toNat x.toNat_lt y.toNat_lt
  rw [← xor_toNat] at this
  exact this

theorem mod_any (a n : Nat) (w : World) (hn : n ≠ 0) (ha : a < n) :
    Calls Try.prog 32 #[.int .i64 a, .int .i64 n] w fun e w' => e = .returned (.int .i64 a) ∧ w = w' := by
  have hn0 : ((n : Int) == 0) = false := beq_eq_false_iff_ne.2 (by omega)
  have hr : (a : Int).tmod (n : Int) = (a : Int) := by
    rw [Int.tmod_eq_emod_of_nonneg (by omega)]
    exact Int.emod_eq_of_lt (by omega) (by omega)
  have hr2 : (a : Int) % (n : Int) = (a : Int) := Int.emod_eq_of_lt (by omega) (by omega)
  go_enter Try.func32, Try.ntmps32
  go_wp2
  go_ret
  exact ⟨rfl, rfl⟩

end Go.Proofs.Ytajgkfcflbmkdaa.crc
