/-
  Package seal's Flip, by its contract: what comes back is the bytes with just those bits turned. Conditions: byte strings shorter than 2^20.
-/
import Derived.Test.YtegcbmimndmfkaaSlC
import Derived.Test.YtegcbmimndmfkaaSumB
namespace Go.Proofs.Ytegcbmimndmfkaa.sel
open Go.RowKit Go.Lib
open Go.Proofs.Ytegcbmimndmfkaa.crc (Turned TurnedAll turn xor_u8)
open Go.Proofs.Ytegcbmimndmfkaa.pck (clone_any or_bytes)

/-- The bits that are turned: the lowest one always is. -/
def oddOf (X : Nat) : Nat := if X % 2 = 0 then X + 1 else X
theorem oddOf_odd (X : Nat) : oddOf X % 2 = 1 := by unfold oddOf; split <;> omega
theorem oddOf_lt {X : Nat} (h : X < 4294967296) : oddOf X < 4294967296 := by unfold oddOf; split <;> omega
theorem half_step (X k : Nat) : X / 2 ^ k / 2 = X / 2 ^ (k + 1) := by rw [Nat.div_div_eq_div_mul, Nat.pow_succ]
theorem or_one (X : Nat) : X ||| 1 = oddOf X := by
  have h := or_bytes 1 (X / 2) 1 (by omega)
  rw [Nat.pow_one] at h
  unfold oddOf
  by_cases he : X % 2 = 0
  · rw [if_pos he, Nat.or_comm]
    rw [show X / 2 * 2 = X by omega] at h
    rw [h]; omega
  · rw [if_neg he]
    have e : X = 1 ||| X / 2 * 2 := by rw [h]; omega
    conv => lhs; rw [e, Nat.or_comm, ← Nat.or_assoc, Nat.or_self]
    rw [← e]
/-- Where the turning begins. -/
def place (bit : Int) (n : Nat) : Nat := (bit % (8 * (n : Int))).toNat
/-- Which bits are turned. -/
def maskOf (bits : Int) : Nat := oddOf (bits % 4294967296).toNat
theorem mask_odd (x : Int) : maskOf x % 2 = 1 := oddOf_odd _
theorem mask_lt (x : Int) : maskOf x < 4294967296 := oddOf_lt (by omega)
theorem place_lt (x : Int) {n : Nat} (h : 0 < n) : place x n < 8 * n := by
  unfold place
  have h1 := Int.emod_lt_of_pos x (show (0 : Int) < 8 * (n : Int) by omega)
  have h2 := Int.emod_nonneg x (show (8 * (n : Int)) ≠ 0 by omega)
  omega
theorem place_eq (x : Int) {n : Nat} (h : 0 < n) : (place x n : Int) = x % (8 * (n : Int)) := by
  unfold place
  have h2 := Int.emod_nonneg x (show (8 * (n : Int)) ≠ 0 by omega)
  omega
theorem twice_mod (x : Int) {N : Int} (h : 0 < N) : (x.tmod N + N) % N = x % N ∧ 0 ≤ x.tmod N + N ∧ x.tmod N < N := by
  refine ⟨?_, ?_, Int.tmod_lt_of_pos x h⟩
  · rw [Int.add_emod_right]
    have := Int.mul_tdiv_add_tmod x N
    conv => rhs; rw [← this, Int.add_comm, Int.add_mul_emod_self_left]
  · have h1 := Int.tmod_lt_of_pos (-x) h
    rw [Int.neg_tmod] at h1
    omega
def FlipAns (base : Nat) (l : List UInt8) (p X : Nat) (e : Ending) (w' : World) : Prop := ∃ out, TurnedAll l out p X ∧ One base out e w'

theorem low_bit (Y k : Nat) (hY : Y < 4294967296) : bits .and .u32 ((Y : Int) / 2 ^ k) 1 = ((Y / 2 ^ k % 2 : Nat) : Int) := by
  have hq : Y / 2 ^ k < 4294967296 := Nat.lt_of_le_of_lt (Nat.div_le_self _ _) hY
  have h := u32_and_nat (Y / 2 ^ k) 1 hq (by omega)
  rw [Nat.and_one_is_mod] at h
  rw [← h]
  congr 1
theorem mask_eq (x : Int) : bits .or .u32 (x % 4294967296) 1 = (maskOf x : Int) := by
  have h := u32_or_nat (x % 4294967296).toNat 1 (by omega) (by omega)
  rw [or_one] at h
  rw [show x % 4294967296 = ((x % 4294967296).toNat : Int) by omega]
  exact h

set_option maxHeartbeats 2000000 in
theorem flip_any (A : Option Addr) (c B n : Nat) (l : List UInt8) (bit msk : Int) (w : World) (hln : l.length = n) (hA : Sl w B A l) (h0 : 0 < n) (hl : n ≤ 1048576) :
    Calls Try.prog 38 #[.slice A n c, .int .i64 bit, .int .i64 msk] w fun e w' => FlipAns w.heap.size l (place bit n) (maskOf msk) e w' ∧ Below w.heap.size w w' := by
  have cC := clone_any A c B n l w hln hA (by omega)
  obtain ⟨t1, t2, t3⟩ := twice_mod bit (show (0 : Int) < 8 * (n : Int) by omega)
  rw [← place_eq bit h0] at t1
  have hn1 : ((8 * (n : Int)) == 0) = false := beq_eq_false_iff_ne.2 (by omega)
  have hp := place_lt bit h0
  have hm := mask_eq msk
  have hY := mask_lt msk
  generalize place bit n = p at *
  generalize maskOf msk = Y at *
  have T1 := Lib.hid t1
  have HM := Lib.hid hm
  obtain ⟨K, hK⟩ : ∃ K : Nat, min 32 (8 * (n : Int) - (p : Int)) = (K : Int) := ⟨(min 32 (8 * (n : Int) - (p : Int))).toNat, by omega⟩
  have k32 : K ≤ 32 := by omega
  have k8 : p + K ≤ 8 * n := by omega
  have HE : Hid (K = 32 ∨ 8 * n ≤ p + K) := by show _ ∨ _; omega
  have HK := Lib.hid hK
  clear hm hA hK
  go_enter Try.func38, Try.ntmps38
  go_wp2_with (first
    | (go_at_call 35; (with_reducible refine cC.mono ?_); rintro e w1 ⟨⟨v, rfl, hown⟩, hb1⟩; obtain ⟨g, c1, hv, hc1, hm1, hg, hgs⟩ := hown.at (by rw [hln]; exact h0); rw [hln] at hv; subst hv))
  simp only [T1.out, HM.out, HK.out]
  clear cC t1 t2 t3 hn1
  go_loopw [11, 12, 35] (fun _ _ i w' => ∃ (k : Nat) (out : List UInt8), i = .int .i64 k ∧ k ≤ K ∧ Own w' w.heap.size 5 (.slice (some ⟨g, 0, none⟩) n c1) out ∧ Turned l out p Y (p + k) ∧ Below w.heap.size w w') (fun _ _ i _ => K - (RowKit.intOf i).toNat)
  case atStart => exact ⟨0, l, rfl, by omega, hown, Turned.start l p Y, hb1⟩
  case round =>
    clear hown hb1
    rename_i wr
    obtain ⟨k, out, rfl, hk, hown, hT, hbr⟩ := hrel
    by_cases hlt : k < K
    · have i1 : (k : Int) < (K : Int) := by omega
      have hb := low_bit Y k hY
      have hj : (p : Int) + (k : Int) = ((p + k : Nat) : Int) := by omega
      have hjn : p + k < 8 * n := by omega
      have hlen := hT.1
      by_cases ho : Y / 2 ^ k % 2 = 1
      · have hB : (bits .and .u32 ((Y : Int) / 2 ^ k) 1 == 1) = true := by rw [hb, ho]; rfl
        have HT : Hid (Turned l (turn out (p + k)) p Y (p + k + 1)) := hT.odd (by omega) (by omega) (by rw [Nat.add_sub_cancel_left]; exact ho)
        generalize hjj : p + k = j at *
        have i4 : (j : Int) / 8 < (n : Int) := by omega
        have hcell := hown.cell (j / 8) (by omega)
        have hfz := hown.frozen (by rw [hlen, hln]) (j / 8)
        unfold by8 at hcell
        have hv : bits .xor .u8 ((out[j / 8]'(by omega)).toNat : Int) (IntKind.u8.wrap (2 ^ (j % 8))) = (((out[j / 8]'(by omega)) ^^^ UInt8.ofNat (2 ^ (j % 8))).toNat : Int) := by
          have e := xor_u8 (out[j / 8]'(by omega)) (UInt8.ofNat (2 ^ (j % 8)))
          rw [← e, UInt8.toNat_ofNat']
          congr 1
        have hst := Own.store (by rw [hlen, hln]) hown.drew (j / 8) ((out[j / 8]'(by omega)) ^^^ UInt8.ofNat (2 ^ (j % 8)))
        have ht : out.set (j / 8) ((out[j / 8]'(by omega)) ^^^ UInt8.ofNat (2 ^ (j % 8))) = turn out j := by
          unfold turn
          congr 2
          rw [List.getD_eq_getElem?_getD, List.getElem?_eq_getElem (show j / 8 < out.length by omega)]
          rfl
        rw [ht] at hst
        have hbs := (below_dr hbr).grown hst.2 hbr.size (fun q hq => by
          simp only [Option.some.injEq] at hq
          omega)
        unfold by8 at hst hbs
        rw [← hv] at hst hbs
        have HV := Lib.hid hst.1
        have HB := Lib.hid hbs
        have hcell' : wr.drew.cell? ⟨g, j / 8, none⟩ = some (.int .u8 ((out[j / 8]'(by omega)).toNat : Int)) := hcell
        have hfz' : wr.drew.frozen? ⟨g, j / 8, none⟩ = false := hfz
        have HJ : Hid (j + 1 = p + (k + 1)) := by show j + 1 = p + (k + 1); omega
        clear hv hst ht hbs
        clear hb ho hT
        have d1 : IntKind.i64.wrap ((j : Int) / 8) = (j : Int) / 8 := wrap_small _ (by omega) (by omega)
        have d2 : ((j : Int) / 8).toNat = j / 8 := by omega
        have d3 : (0 : Int) ≤ (j : Int) / 8 := by omega
        have d4 : (0 : Int) ≤ (j : Int) % 8 := by omega
        have d5 : ((j : Int) % 8).toNat = j % 8 := by omega
        have d6 : (j : Int) % 8 < 8 := by omega
        have d7 : (j : Int).tmod 8 = (j : Int) % 8 := Int.tmod_eq_emod_of_nonneg (by omega)
        go_wp2
        go_still_tail 10, (by kernel_rfl)
        change wpList _ _ _ _ _ wr.drew
        generalize wr.drew = w4 at *
        go_wp2
        clear d1 d7 hj
        go_roundw
        case rel => exact ⟨k + 1, turn out j, by go_num, by omega, HV.out, by rw [← HJ.out]; exact HT.out, HB.out⟩
        case measure => simp [RowKit.intOf]; omega
      · have hB : (bits .and .u32 ((Y : Int) / 2 ^ k) 1 == 1) = false := by
          rw [hb]
          exact beq_eq_false_iff_ne.2 (by omega)
        have HT : Hid (Turned l out p Y (p + k + 1)) := hT.even (by rw [Nat.add_sub_cancel_left]; exact ho)
        clear hb ho hT hj
        go_wp2
        go_roundw
        case rel => exact ⟨k + 1, out, by go_num, by omega, hown, HT.out, hbr⟩
        case measure => simp [RowKit.intOf]; omega
    · obtain rfl : k = K := by omega
      have HT : Hid (TurnedAll l out p Y) := by
        refine Turned.all hT (by omega) ?_
        rcases HE.out with h | h
        · refine .inl ?_
          rw [Nat.add_sub_cancel_left, h]
          exact Nat.div_eq_of_lt hY
        · exact .inr (by omega)
      clear hT
      go_wp2
      go_ret
      exact ⟨⟨out, HT.out, _, rfl, hown⟩, hbr⟩
theorem flip_none (A : Option Addr) (c B : Nat) (bit msk : Int) (w : World) :
    Calls Try.prog 38 #[.slice A (0 : Nat) c, .int .i64 bit, .int .i64 msk] w fun e w' => One w.heap.size [] e w' ∧ Below w.heap.size w w' := by
  have cC := clone_any A c B 0 [] w rfl (Sl.nil _ _ _) (by omega)
  go_enter Try.func38, Try.ntmps38
  go_wp2_with (first
    | (go_at_call 35; (with_reducible refine cC.mono ?_); rintro e w1 ⟨⟨v, rfl, hown⟩, hb1⟩; obtain ⟨X, x, hv, -, -, -, -⟩ := hown.form; rw [List.length_nil] at hv; subst hv))
  go_ret
  exact ⟨⟨_, rfl, hown⟩, hb1⟩
/-- Flip, whatever the bytes and bits. -/
theorem flip_all (A : Option Addr) (c B n : Nat) (l : List UInt8) (bit msk : Int) (w : World) (hln : l.length = n) (hA : Sl w B A l) (hl : n ≤ 1048576) :
    Calls Try.prog 38 #[.slice A n c, .int .i64 bit, .int .i64 msk] w fun e w' => FlipAns w.heap.size l (place bit n) (maskOf msk) e w' ∧ Below w.heap.size w w' := by
  by_cases h0 : 0 < n
  · exact flip_any A c B n l bit msk w hln hA h0 hl
  · obtain rfl : n = 0 := by omega
    obtain rfl : l = [] := List.eq_nil_of_length_eq_zero hln
    refine (flip_none A c B bit msk w).mono ?_
    rintro e w' ⟨ho, hb⟩
    exact ⟨⟨[], turned_nil _ _, ho⟩, hb⟩
end Go.Proofs.Ytegcbmimndmfkaa.sel
