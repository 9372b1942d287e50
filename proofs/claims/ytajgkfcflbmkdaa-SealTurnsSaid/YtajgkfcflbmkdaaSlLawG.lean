/-
  The law SealTurns, walked: it returns true for all bytes and bits. No condition.
-/
import Derived.Test.YtajgkfcflbmkdaaSlLawA
namespace Go.Proofs.Ytajgkfcflbmkdaa.sel
open Go.RowKit Go.Lib
open Go.Proofs.Ytajgkfcflbmkdaa.crc (TurnedAll bit)

theorem and_one_i64 (a : Nat) (ha : a < 9223372036854775808) : bits .and .i64 (a : Int) 1 = ((a % 2 : Nat) : Int) := by
  show IntKind.i64.wrap ((BitVec.ofInt 64 (a : Int) &&& BitVec.ofInt 64 ((1 : Nat) : Int)).toNat : Int) = _
  rw [BitVec.toNat_and, ofInt_u64 a (by omega), ofInt_u64 1 (by omega), Nat.and_one_is_mod]
  have : a % 2 < 2 := Nat.mod_lt _ (by omega)
  generalize a % 2 = c at *
  simp [IntKind.wrap, IntKind.bits, IntKind.signed]
  omega
theorem and_one_u8 (a : Nat) (ha : a < 256) : bits .and .u8 (a : Int) 1 = ((a % 2 : Nat) : Int) := by
  have := u8_and_nat a 1 ha (by omega)
  rw [Nat.and_one_is_mod] at this
  exact this
/-- What the law holds against: the bit that is to be turned. -/
def Want (Y p i : Nat) : Bool := decide (p ≤ i) && Y.testBit (i - p)
theorem bit_mod (l : List UInt8) (i : Nat) (h : i / 8 < l.length) : bit l i = decide (l[i / 8].toNat / 2 ^ (i % 8) % 2 = 1) := by
  unfold bit
  rw [List.getD_eq_getElem?_getD, List.getElem?_eq_getElem h, Option.getD_some, Nat.testBit_eq_decide_div_mod_eq]

theorem turns_out (x y : Int) (A : Option Addr) (n c : Nat) (w : World) (h : n = 0 ∨ 300 < n ∨ x < 0 ∨ y < 0) :
    Calls Try.prog 9 #[.slice A n c, .int .i64 x, .int .i64 y] w fun e w' => e = .returned (.bool true) ∧ Below w.heap.size w w' := by
  by_cases h0 : n = 0
  · subst h0
    clear h
    go_enter Try.func9, Try.ntmps9
    go_wp2
    go_ret
    exact ⟨rfl, Below.refl _ _⟩
  · have z1 : ((n : Int) == 0) = false := beq_eq_false_iff_ne.2 (by omega)
    have z2 : (n == 0) = false := beq_eq_false_iff_ne.2 h0
    by_cases h1 : 300 < n
    · have i1 : (300 : Int) < (n : Int) := by omega
      clear h h0 h1
      go_enter Try.func9, Try.ntmps9
      go_wp2
      go_ret
      exact ⟨rfl, Below.refl _ _⟩
    · have i1 : ¬ (300 : Int) < (n : Int) := by omega
      by_cases h2 : x < 0
      · clear h h0 h1
        go_enter Try.func9, Try.ntmps9
        go_wp2
        go_ret
        exact ⟨rfl, Below.refl _ _⟩
      · have h3 : y < 0 := by omega
        clear h h0 h1
        go_enter Try.func9, Try.ntmps9
        go_wp2
        go_ret
        exact ⟨rfl, Below.refl _ _⟩
set_option maxHeartbeats 4000000 in
set_option maxRecDepth 100000 in
theorem turns_go (x y : Int) (b off n c m p Y : Nat) (l : List UInt8) (w : World) (hln : l.length = n) (h0 : 0 < n) (h : n ≤ 300) (hA : Sl w w.heap.size (some ⟨b, off, none⟩) l) (hx : 0 ≤ x) (hy : 0 ≤ y) (hp : place x n = p) (hpx : x % (8 * (n : Int)) = (p : Int)) (hm : y % 4294967296 = (m : Int)) (hY : maskOf y = Y) (hmY : oddOf m = Y) (hpl : p < 8 * n) (hYl : Y < 4294967296) :
    Calls Try.prog 9 #[.slice (some ⟨b, off, none⟩) n c, .int .i64 x, .int .i64 y] w fun e w' => e = .returned (.bool true) ∧ Below w.heap.size w w' := by
  have z1 : ((n : Int) == 0) = false := beq_eq_false_iff_ne.2 (by omega)
  have z2 : (n == 0) = false := beq_eq_false_iff_ne.2 (by omega)
  have z3 : ((n : Int) != (n : Int)) = false := bne_self_eq_false _
  have i1 : ¬ (300 : Int) < (n : Int) := by omega
  have j1 : ¬ x < 0 := by omega
  have j2 : ¬ y < 0 := by omega
  have n8 : ((8 * (n : Int)) == 0) = false := beq_eq_false_iff_ne.2 (by omega)
  have cF : Calls Try.prog 15 #[.slice (some ⟨b, off, none⟩) n c, .int .i64 x, .int .i64 y] w fun e w' => Flp l n p Y e w' ∧ Below w.heap.size w w' := by
    refine (flip_all (some ⟨b, off, none⟩) c _ n l x y w hln hA (by omega)).mono ?_
    rw [hp, hY]
    rintro e w' ⟨⟨out, ht, v, rfl, ho⟩, hb⟩
    obtain ⟨X, q, rfl, -, -, -, -⟩ := ho.form
    have hl := ht.1
    rw [hln] at hl
    rw [hl] at ho ⊢
    exact ⟨⟨X, q, out, rfl, hl, (own_lies ho).2, ht⟩, hb⟩
  have HF := Lib.hid cF
  clear hp hY cF
  have hs : ∃ z : Bool, ((m : Int) % 2 == 0) = z ∧ (if z then (m : Int) + 1 else (m : Int)) = (Y : Int) := by
    refine ⟨_, rfl, ?_⟩
    rw [← hmY]
    unfold oddOf
    by_cases he : m % 2 = 0
    · rw [if_pos he, if_pos (by simp; omega)]; omega
    · rw [if_neg he, if_neg (by simp; omega)]
  obtain ⟨z, e1, e2⟩ := hs
  clear hmY
  cases z
  all_goals
    simp only [if_true, if_false, Bool.false_eq_true] at e2
    go_enter Try.func9, Try.ntmps9
    go_wp2_with (first
      | (go_at_call 15; (with_reducible refine HF.out.mono ?_); rintro e w1 ⟨⟨X, q, out, rfl, hol, hX, ht⟩, hb1⟩))
    simp only [hpx, hm, e2]
    obtain ⟨g, o, rfl, hg, hXc⟩ := hX.2.2 (by omega)
    obtain ⟨b', off', he, hb, hAc⟩ := (hA.below hb1) (by omega)
    simp only [Option.some.injEq, Addr.mk.injEq, and_true] at he
    obtain ⟨rfl, rfl⟩ := he
    have hbw := Nat.lt_of_lt_of_le hb hb1.size
    clear hX hA HF hpx hm e1 e2
    go_loopw [10, 11, 12, 13] (fun i _ _ _ W => ∃ k : Nat, i = .int .i64 k ∧ k ≤ 8 * n ∧ Below w1.heap.size w1 W) (fun i _ _ _ _ => 8 * n - (RowKit.intOf i).toNat)
    case atStart => exact ⟨0, rfl, by omega, Below.refl _ _⟩
    case round =>
      rename_i wr
      obtain ⟨k, rfl, hk, hbr⟩ := hrel
      by_cases hlt : k < 8 * n
      · have i2 : (k : Int) < 8 * (n : Int) := by omega
        have c1 := (hbr.cell (p := ⟨b, off + k / 8, none⟩) hbw).trans (hAc (k / 8) (by omega))
        have c2 := (hbr.cell (p := ⟨g, o + k / 8, none⟩) hg).trans (hXc (k / 8) (by omega))
        have hbit := ht.2 k (by omega)
        rw [bit_mod out k (by omega), bit_mod l k (by omega)] at hbit
        unfold by8 at c1 c2
        have u1 := (l[k / 8]'(by omega)).toNat_lt
        have u2 := (out[k / 8]'(by omega)).toNat_lt
        generalize (l[k / 8]'(by omega)).toNat = u at *
        generalize (out[k / 8]'(by omega)).toNat = v at *
        have i4 : (k : Int) / 8 < (n : Int) := by omega
        have f1 : bits .and .u8 ((u : Int) / 2 ^ (k % 8)) 1 = ((u / 2 ^ (k % 8) % 2 : Nat) : Int) := and_one_u8 (u / 2 ^ (k % 8)) (Nat.lt_of_le_of_lt (Nat.div_le_self _ _) u1)
        have f2 : bits .and .u8 ((v : Int) / 2 ^ (k % 8)) 1 = ((v / 2 ^ (k % 8) % 2 : Nat) : Int) := and_one_u8 (v / 2 ^ (k % 8)) (Nat.lt_of_le_of_lt (Nat.div_le_self _ _) u2)
        have ha2 : u / 2 ^ (k % 8) % 2 < 2 := Nat.mod_lt _ (by omega)
        have hb2 : v / 2 ^ (k % 8) % 2 < 2 := Nat.mod_lt _ (by omega)
        generalize u / 2 ^ (k % 8) % 2 = wa at *
        generalize v / 2 ^ (k % 8) % 2 = wb at *
        have d2 : ((k : Int) / 8).toNat = k / 8 := by omega
        have d3 : (0 : Int) ≤ (k : Int) / 8 := by omega
        have d4 : (0 : Int) ≤ (k : Int) % 8 := by omega
        have d5 : ((k : Int) % 8).toNat = k % 8 := by omega
        have d6 : (k : Int) % 8 < 8 := by omega
        have d8 : k % 8 < 8 := by omega
        have d1 : IntKind.i64.wrap ((k : Int) / 8) = (k : Int) / 8 := wrap_small _ (by omega) (by omega)
        have d7 : (k : Int).tmod 8 = (k : Int) % 8 := Int.tmod_eq_emod_of_nonneg (by omega)
        have d9 : IntKind.u64.wrap ((k : Int) % 8) = (k : Int) % 8 := by rw [IntKind.wrap_u64]; omega
        go_wp2_with fail
        go_quiet (fail)
        clear d1 d7 d9 f1 f2 c1 c2
        have hcase : (wa = wb ∧ Want Y p k = false) ∨ (wa ≠ wb ∧ Want Y p k = true) := by
          unfold Want
          generalize (decide (p ≤ k) && Y.testBit (k - p)) = t at *
          cases t
          · refine .inl ⟨?_, rfl⟩
            rw [Bool.xor_false] at hbit
            have := decide_eq_decide.1 hbit
            omega
          · refine .inr ⟨fun e => ?_, rfl⟩
            rw [Bool.xor_true, e] at hbit
            exact absurd hbit (by cases decide (wb = 1) <;> decide)
        clear hbit
        by_cases hc1 : k < p
        · have i5 : ¬ (p : Int) ≤ (k : Int) := by omega
          have hw : wa = wb := by
            rcases hcase with h | h
            · exact h.1
            · have := h.2
              unfold Want at this
              rw [decide_eq_false (by omega), Bool.false_and] at this
              cases this
          subst hw
          have r1 : ((wa : Int) != (wa : Int)) = false := bne_self_eq_false _
          clear hcase
          go_wp2
          go_roundw
          case rel => exact ⟨k + 1, by go_num, by omega, below_dn hbr _⟩
          case measure => simp [RowKit.intOf]; omega
        · have i5 : (p : Int) ≤ (k : Int) := by omega
          by_cases hc2 : k < p + 32
          · have i6 : (k : Int) < (p : Int) + 32 := by omega
            have g1 : ((k : Int) - (p : Int)).toNat = k - p := by omega
            have g2 : (0 : Int) ≤ (k : Int) - (p : Int) := by omega
            have f3 : bits .and .i64 ((Y : Int) / 2 ^ (k - p)) 1 = ((Y / 2 ^ (k - p) % 2 : Nat) : Int) := and_one_i64 (Y / 2 ^ (k - p)) (Nat.lt_of_le_of_lt (Nat.div_le_self _ _) (by omega))
            have hwt : Want Y p k = decide (Y / 2 ^ (k - p) % 2 = 1) := by
              unfold Want
              rw [decide_eq_true (by omega), Bool.true_and, Nat.testBit_eq_decide_div_mod_eq]
            have ht2 : Y / 2 ^ (k - p) % 2 < 2 := Nat.mod_lt _ (by omega)
            generalize Y / 2 ^ (k - p) % 2 = t at *
            rcases hcase with h | h
            · have hz : t = 0 := by
                have := h.2
                rw [hwt] at this
                have := of_decide_eq_false this
                omega
              have hw := h.1
              subst hz hw
              have r1 : ((wa : Int) != (wa : Int)) = false := bne_self_eq_false _
              have f4 : bits .and .i64 ((Y : Int) / 2 ^ (k - p)) 1 = 0 := f3
              clear hwt h f3 ht2
              go_wp2
              go_roundw
              case rel => exact ⟨k + 1, by go_num, by omega, below_dn hbr _⟩
              case measure => simp [RowKit.intOf]; omega
            · have hz : t = 1 := by
                have := h.2
                rw [hwt] at this
                exact of_decide_eq_true this
              have hw := h.1
              subst hz
              have r1 : ((wa : Int) != (wb : Int)) = true := bne_iff_ne.2 (by omega)
              have r2 : (wa != wb) = true := bne_iff_ne.2 hw
              have r3 : ((wa : Int) == (wb : Int)) = false := beq_eq_false_iff_ne.2 (by omega)
              have r4 : (wa == wb) = false := beq_eq_false_iff_ne.2 hw
              have f4 : bits .and .i64 ((Y : Int) / 2 ^ (k - p)) 1 = 1 := f3
              clear hwt h f3 ht2 hw
              go_wp2
              go_roundw
              case rel => exact ⟨k + 1, by go_num, by omega, below_dn hbr _⟩
              case measure => simp [RowKit.intOf]; omega
          · have i6 : ¬ (k : Int) < (p : Int) + 32 := by omega
            have hw : wa = wb := by
              rcases hcase with h | h
              · exact h.1
              · have := h.2
                unfold Want at this
                have hlt : Y < 2 ^ (k - p) := Nat.lt_of_lt_of_le (show Y < 2 ^ 32 by simpa using hYl) (Nat.pow_le_pow_right (by omega) (by omega))
                rw [Nat.testBit_lt_two_pow hlt, Bool.and_false] at this
                cases this
            subst hw
            have r1 : ((wa : Int) != (wa : Int)) = false := bne_self_eq_false _
            clear hcase
            go_wp2
            go_roundw
            case rel => exact ⟨k + 1, by go_num, by omega, below_dn hbr _⟩
            case measure => simp [RowKit.intOf]; omega
      · have i2 : ¬ (k : Int) < 8 * (n : Int) := by omega
        go_wp2_with (first
          | (go_at_call 19; (with_reducible refine (wk_any _).mono ?_); rintro e w9 ⟨rfl, hb9⟩))
        go_ret
        exact ⟨rfl, bt hb1 (bt hbr hb9)⟩
theorem turns_law (A : Option Addr) (c : Nat) (l : List UInt8) (x y : Int) (w : World) (hA : Sl w w.heap.size A l) :
    Calls Try.prog 9 #[.slice A l.length c, .int .i64 x, .int .i64 y] w fun e w' => e = .returned (.bool true) ∧ Below w.heap.size w w' := by
  by_cases h : l.length = 0 ∨ 300 < l.length ∨ x < 0 ∨ y < 0
  · exact turns_out x y A _ c w h
  · have h0 : 0 < l.length := by omega
    obtain ⟨b, off, rfl, -, -⟩ := hA h0
    exact turns_go x y b off _ c (y % 4294967296).toNat (place x l.length) (maskOf y) l w rfl h0 (by omega) hA (by omega) (by omega) rfl (place_eq x h0).symm (by omega) rfl rfl (place_lt x h0) (mask_lt y)
end Go.Proofs.Ytajgkfcflbmkdaa.sel
