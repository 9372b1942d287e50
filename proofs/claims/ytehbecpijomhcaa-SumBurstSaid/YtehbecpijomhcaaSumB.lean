/-
  The document's own answers for checksums (as the statements' package gives them), each by its contract; two byte strings held against one another; 'wakes'. Conditions: slices shorter than 2^20 bytes.
-/
import Derived.Test.YtehbecpijomhcaaSumA
import Derived.Deep.RegionHeld3
namespace Go.Proofs.Ytehbecpijomhcaa.crc
open Go.RowKit Go.Lib

set_option maxHeartbeats 1000000 in
theorem ref_more (s : Nat) (A : Option Addr) (c B : Nat) (l : List UInt8) (w : World) (hs : s < 4294967296) (hA : Sl w B A l) (hl : l.length ≤ maxLen) :
    Calls Try.prog 13 #[.int .i64 s, .slice A l.length c] w fun e w' => e = .returned (.int .i64 (more s l)) ∧ w = w' := by
  unfold maxLen at hl
  have e0 : (4294967295 : Int) - (s : Int) = ((ones - s : Nat) : Int) := by unfold ones; omega
  have hlt : ones - s < 4294967296 := by unfold ones; omega
  have HM : Hid (more s l = ones - reg (ones - s) l) := by show _ = _; rfl
  generalize ones - s = r at *
  go_enter Try.func13, Try.ntmps13
  go_wp2
  go_loop [5, 6] (fun x k => ∃ a n : Nat, x = .int .i64 a ∧ k = .int .i64 n ∧ n ≤ l.length ∧ a < 4294967296 ∧ reg a (l.drop n) = reg r l) (fun _ k => l.length - (RowKit.intOf k).toNat)
  case atStart => exact ⟨r, 0, by rw [← e0], rfl, by omega, hlt, rfl⟩
  case round =>
    obtain ⟨a, n, rfl, rfl, hn, ha, hd⟩ := hrel
    by_cases hk : n < l.length
    · have hki : (n : Int) < (l.length : Int) := by omega
      obtain ⟨b, off, rfl, hb, hc⟩ := hA (by omega)
      have h0 := hc n hk
      have hd : reg (downs 8 (a ^^^ l[n].toNat)) (l.drop (n + 1)) = reg r l := by
        rw [List.drop_eq_getElem_cons hk] at hd
        exact hd
      have hy := l[n].toNat_lt
      unfold by8 at h0
      generalize l[n].toNat = y at h0 hd hy
      have e1 : bits .xor .i64 (a : Int) (y : Int) = ((a ^^^ y : Nat) : Int) := bits_xor_i64 a y (by omega) (by omega)
      have hlt' : a ^^^ y < 4294967296 := xor_lt ha (by omega)
      have H := Lib.hid hd
      clear hd hc
      go_wp2_with (go_at_call 14; (with_reducible refine (ref_eight _ _ hlt').mono ?_); rintro e w' ⟨rfl, rfl⟩)
      go_round
      case rel => exact ⟨downs 8 (a ^^^ y), n + 1, rfl, by go_num, by omega, downs_lt 8 hlt', H.out⟩
      case measure => simp [RowKit.intOf]; omega
    · have hki : ¬ (n : Int) < (l.length : Int) := by omega
      rw [List.drop_eq_nil_of_le (by omega)] at hd
      have H : Hid (a = reg r l) := hd
      clear hd
      go_wp2
      go_ret
      exact ⟨ret_int (by rw [HM.out, ← H.out]; unfold ones; omega), rfl⟩
theorem ref_sum (A : Option Addr) (c B : Nat) (l : List UInt8) (w : World) (hA : Sl w B A l) (hl : l.length ≤ maxLen) :
    Calls Try.prog 16 #[.slice A l.length c] w fun e w' => e = .returned (.int .i64 (sum l)) ∧ w = w' := by
  have cM : Calls Try.prog 13 #[.int .i64 0, .slice A l.length c] w fun e w' => e = .returned (.int .i64 (sum l)) ∧ w = w' := ref_more 0 A c B l w (by omega) hA hl
  go_enter Try.func16, Try.ntmps16
  go_wp2_with (go_at_call 13; (with_reducible refine cM.mono ?_); rintro e w' ⟨rfl, rfl⟩)
  go_ret
  exact ⟨rfl, rfl⟩

theorem xor_u8 (x y : UInt8) : bits .xor .u8 (x.toNat : Int) (y.toNat : Int) = ((x ^^^ y).toNat : Int) := by
  have := u8_xor_nat x.toNat y.toNat x.toNat_lt y.toNat_lt
  rw [← xor_toNat] at this
  exact this

set_option maxHeartbeats 1000000 in
theorem ref_two (A A' : Option Addr) (c c' B B' : Nat) (a b : List UInt8) (w : World) (hab : a.length = b.length) (hA : Sl w B A a) (hA' : Sl w B' A' b) (hB : B ≤ w.heap.size) (hB' : B' ≤ w.heap.size) (hl : a.length ≤ 1048576) :
    Calls Try.prog 20 #[.slice A a.length c, .slice A' a.length c'] w fun e w' => One w.heap.size (List.zipWith (· ^^^ ·) a b) e w' ∧ Below w.heap.size w w' := by
  go_enter Try.func20, Try.ntmps20
  go_wp2
  go_loopw [5, 6] (fun v i w' => ∃ k : Nat, k ≤ a.length ∧ i = .int .i64 k ∧ Own w' w.heap.size 5 v (List.zipWith (· ^^^ ·) (a.take k) (b.take k)) ∧ Below w.heap.size w w') (fun _ i _ => a.length - (RowKit.intOf i).toNat)
  case atStart => exact ⟨0, by omega, rfl, own_nil _ _ _, Below.refl _ _⟩
  case round =>
    rename_i wr
    obtain ⟨k, hk, rfl, hown, hbr⟩ := hrel
    by_cases hlt : k < a.length
    · obtain ⟨b1, off, rfl, hb, hc⟩ := (hA.below (hbr.mono hB)) (by omega)
      obtain ⟨b2, off', rfl, hb', hc'⟩ := (hA'.below (hbr.mono hB')) (by omega)
      have g := hc k hlt
      have g' := hc' k (by omega)
      have i1 : (k : Int) < (a.length : Int) := by omega
      have hz : List.zipWith (· ^^^ ·) (a.take (k + 1)) (b.take (k + 1)) = List.zipWith (· ^^^ ·) (a.take k) (b.take k) ++ [a[k] ^^^ b[k]'(by omega)] := by
        rw [List.take_succ_eq_append_getElem hlt, List.take_succ_eq_append_getElem (show k < b.length by omega), List.zipWith_append (by rw [List.length_take, List.length_take]; omega)]
        rfl
      have hxy := xor_u8 a[k] (b[k]'(by omega))
      unfold by8 at g g'
      clear hc hc' hA hA'
      have HZ := Lib.hid hz
      have hzl : (List.zipWith (· ^^^ ·) (a.take k) (b.take k)).length = k := by rw [List.length_zipWith, List.length_take, List.length_take]; omega
      have HL := Lib.hid hzl
      clear hz hzl
      generalize List.zipWith (· ^^^ ·) (a.take k) (b.take k) = z at hown HZ HL
      generalize a[k] = x at g hxy HZ
      generalize (b[k]'(by omega)) = y at g' hxy HZ
      have hx := x.toNat_lt
      have hy := y.toNat_lt
      clear hab
      go_wp2_with fail
      have hfar : ∀ q, u5.ownBlock = some q → w.heap.size ≤ q := fun q hq => (World.ownsRow.lt hown q hq).1
      have hlw := hbr.size
      have n1 : some b1 ≠ u5.ownBlock := fun h => by have := hfar b1 h.symm; omega
      have n2 : some b2 ≠ u5.ownBlock := fun h => by have := hfar b2 h.symm; omega
      go_region_held3 (fun W => W.cell? ⟨b1, off + k, none⟩ = some (.int .u8 (x.toNat : Int)) ∧ W.cell? ⟨b2, off' + k, none⟩ = some (.int .u8 (y.toNat : Int)))
        (first
          | go_keep
          | (go_split_ands
             refine ⟨?_, ?_⟩
             · (rw [hg3.cell_far _ (by simp; omega) n1]; assumption)
             · (rw [hg3.cell_far _ (by simp; omega) n2]; assumption)))
        ((refine step_app8 _ (by rfl) _ _ _ _ (by rfl) w.heap.size 5 t8 u5 z (by rfl) (hown.alloc _).drew _ [x ^^^ y] (by rfl) (src_at Try.underlying22 (x ^^^ y) _ (by rw [xor_toNat]) _ _ (0, 0) (heap_alloc_new wr _)) (by rw [HL.out, List.length_singleton]; omega) (by simp; omega) ?_; intro v3 w3 hown3 hg3 hat3))
      go_wp2
      have hb4 : Below w.heap.size w w3 := (below_dr (hbr.alloc hbr.size _)).grown hg3 (by simp; omega) hfar
      go_roundw
      case rel => exact ⟨k + 1, by omega, by go_num, by rw [HZ.out]; exact hown3, hb4⟩
      case measure => simp [RowKit.intOf]; omega
    · have hz : List.zipWith (· ^^^ ·) (a.take k) (b.take k) = List.zipWith (· ^^^ ·) a b := by rw [List.take_of_length_le (by omega), List.take_of_length_le (by omega)]
      rw [hz] at hown
      clear hz hab
      go_wp2
      go_ret
      exact ⟨⟨_, rfl, hown⟩, hbr⟩

theorem mod_any (a n : Nat) (w : World) (hn : n ≠ 0) (ha : a < n) :
    Calls Try.prog 25 #[.int .i64 a, .int .i64 n] w fun e w' => e = .returned (.int .i64 a) ∧ w = w' := by
  have hn0 : ((n : Int) == 0) = false := beq_eq_false_iff_ne.2 (by omega)
  have hr : (a : Int).tmod (n : Int) = (a : Int) := by
    rw [Int.tmod_eq_emod_of_nonneg (by omega)]
    exact Int.emod_eq_of_lt (by omega) (by omega)
  have hr2 : (a : Int) % (n : Int) = (a : Int) := Int.emod_eq_of_lt (by omega) (by omega)
  go_enter Try.func25, Try.ntmps25
  go_wp2
  go_ret
  exact ⟨rfl, rfl⟩

end Go.Proofs.Ytehbecpijomhcaa.crc
