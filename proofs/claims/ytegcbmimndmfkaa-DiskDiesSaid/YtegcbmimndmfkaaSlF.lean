/-
  The document's own turning of bits, and its opening of sectors (as the statements' package gives them), each by its contract; 'wakes'. Conditions: byte strings shorter than 2^20.
-/
import Derived.Test.YtegcbmimndmfkaaSlE
namespace Go.Proofs.Ytegcbmimndmfkaa.sel
open Go.RowKit Go.Lib
open Go.Proofs.Ytegcbmimndmfkaa.crc (Turned TurnedAll turn xor_u8 sum sum_lt)
open Go.Proofs.Ytegcbmimndmfkaa.pck (num le le_length)

set_option maxHeartbeats 2000000 in
theorem ref_flip_any (A : Option Addr) (c B : Nat) (l : List UInt8) (bit msk : Int) (w : World) (hA : Sl w B A l) (h0 : 0 < l.length) (hl : l.length ≤ 1048576) :
    Calls Try.prog 44 #[.slice A l.length c, .int .i64 bit, .int .i64 msk] w fun e w' => FlipAns w.heap.size l (place bit l.length) (maskOf msk) e w' ∧ Below w.heap.size w w' := by
  have hn : ((l.length : Int) == 0) = false := beq_eq_false_iff_ne.2 (by omega)
  have hn2 : (l.length == 0) = false := beq_eq_false_iff_ne.2 (by omega)
  have hp := place_lt bit h0
  have cM : ∀ W, Calls Try.prog 47 #[.int .i64 bit, .int .i64 (8 * (l.length : Int))] W fun e w' => e = .returned (.int .i64 (place bit l.length : Nat)) ∧ W = w' := fun W => by
    rw [place_eq bit h0]
    exact mod_all bit _ W (by omega) (by omega)
  obtain ⟨X, hX2, hX⟩ : ∃ X : Nat, msk % 4294967296 = X ∧ X < 4294967296 := ⟨(msk % 4294967296).toNat, by omega, by omega⟩
  have cN : ∀ W, Calls Try.prog 47 #[.int .i64 msk, .int .i64 4294967296] W fun e w' => e = .returned (.int .i64 X) ∧ W = w' := fun W => by
    rw [← hX2]
    exact mod_all msk _ W (by omega) (by omega)
  have hXl := mask_lt msk
  have hs : ∃ b : Bool, ((X : Int) % 2 == 0) = b ∧ ((maskOf msk : Nat) : Int) = if b then (X : Int) + 1 else (X : Int) := by
    refine ⟨_, rfl, ?_⟩
    unfold maskOf
    rw [hX2, Int.toNat_natCast]
    unfold oddOf
    by_cases h : X % 2 = 0
    · rw [if_pos h, if_pos (by simp; omega)]; rfl
    · rw [if_neg h, if_neg (by simp; omega)]
  clear hX2
  obtain ⟨bb, hbb, hs⟩ := hs
  generalize maskOf msk = Y at *
  generalize place bit l.length = p at *
  cases bb
  all_goals
    simp only [if_true, if_false, Bool.false_eq_true] at hs
    go_enter Try.func44, Try.ntmps44
    go_wp2_with (first
      | (go_at_call 29
         (with_reducible refine (twin_any _ _ _ _ _ hA hl).mono ?_)
         rintro e w1 ⟨⟨v, rfl, hown⟩, hb1⟩
         obtain ⟨g, c1, hv, hc1, hm1, hg, hgs⟩ := hown.at h0
         subst hv)
      | (go_at_call 47; (with_reducible refine (cM _).mono ?_); rintro e w2 ⟨rfl, rfl⟩)
      | (go_at_call 47; (with_reducible refine (cN _).mono ?_); rintro e w3 ⟨rfl, rfl⟩))
    clear cM cN
    go_loopw [9, 10] (fun x i w' => ∃ (out : List UInt8) (n : Nat), x = .int .i64 ((Y / 2 ^ (n - p) : Nat) : Int) ∧ i = .int .i64 n ∧ p ≤ n ∧ n ≤ 8 * l.length ∧ Own w' w.heap.size 5 (.slice (some ⟨g, 0, none⟩) l.length c1) out ∧ Turned l out p Y n ∧ Below w.heap.size w w') (fun _ i _ => 8 * l.length - (RowKit.intOf i).toNat)
    case atStart => exact ⟨l, p, by rw [Nat.sub_self, Nat.pow_zero, Nat.div_one, hs], rfl, Nat.le_refl _, by omega, hown, Turned.start l p Y, hb1⟩
    case round =>
      clear hs hbb hown hb1 hA
      rename_i wr
      obtain ⟨out, n, rfl, rfl, hpn, hn8, hown, hT, hbr⟩ := hrel
      have hlen := hT.1
      generalize hq : Y / 2 ^ (n - p) = q
      have hql : q < 4294967296 := by rw [← hq]; exact Nat.lt_of_le_of_lt (Nat.div_le_self _ _) hXl
      by_cases h1 : 0 < q
      · have i1 : (0 : Int) < (q : Int) := by omega
        by_cases h2 : n < 8 * l.length
        · have i2 : (n : Int) < 8 * (l.length : Int) := by omega
          by_cases h3 : q % 2 = 1
          · have i3 : ((q : Int) % 2 == 1) = true := by simp; omega
            have HT : Hid (Turned l (turn out n) p Y (n + 1)) := hT.odd h2 hpn (by rw [hq]; exact h3)
            have i4 : (n : Int) / 8 < (l.length : Int) := by omega
            have hcell := hown.cell (n / 8) (by omega)
            have hfz := hown.frozen hlen (n / 8)
            have HQ : Hid (Y / 2 ^ (n + 1 - p) = q / 2) := by
              show _ = _
              rw [show n + 1 - p = n - p + 1 by omega, ← half_step, hq]
            unfold by8 at hcell
            clear hT hq
            have hv : bits .xor .u8 ((out[n / 8]'(by omega)).toNat : Int) (2 ^ (n % 8) % 256) = (((out[n / 8]'(by omega)) ^^^ UInt8.ofNat (2 ^ (n % 8))).toNat : Int) := by
              have e := xor_u8 (out[n / 8]'(by omega)) (UInt8.ofNat (2 ^ (n % 8)))
              rw [← e, UInt8.toNat_ofNat']
              congr 1
            have hst := hown.store hlen (n / 8) ((out[n / 8]'(by omega)) ^^^ UInt8.ofNat (2 ^ (n % 8)))
            have ht : out.set (n / 8) ((out[n / 8]'(by omega)) ^^^ UInt8.ofNat (2 ^ (n % 8))) = turn out n := by
              unfold turn
              congr 2
              rw [List.getD_eq_getElem?_getD, List.getElem?_eq_getElem (show n / 8 < out.length by omega)]
              rfl
            rw [ht] at hst
            have hbs := hbr.grown hst.2 hbr.size (fun k hk => by
              simp only [Option.some.injEq] at hk
              omega)
            unfold by8 at hst hbs
            rw [← hv] at hst hbs
            have HV := Lib.hid hst.1
            have HB := Lib.hid hbs
            clear hv hst ht hbs
            go_wp2
            go_roundw
            case rel => exact ⟨turn out n, n + 1, by rw [HQ.out]; rfl, by go_num, by omega, by omega, HV.out, HT.out, HB.out⟩
            case measure => simp [RowKit.intOf]; omega
          · have i3 : ((q : Int) % 2 == 1) = false := by simp; omega
            have HT : Hid (Turned l out p Y (n + 1)) := hT.even (by rw [hq]; exact h3)
            have HQ : Hid (Y / 2 ^ (n + 1 - p) = q / 2) := by
              show _ = _
              rw [show n + 1 - p = n - p + 1 by omega, ← half_step, hq]
            clear hT hq
            go_wp2
            go_roundw
            case rel => exact ⟨out, n + 1, by rw [HQ.out]; rfl, by go_num, by omega, by omega, hown, HT.out, hbr⟩
            case measure => simp [RowKit.intOf]; omega
        · have i2 : ¬ (n : Int) < 8 * (l.length : Int) := by omega
          have HT : Hid (TurnedAll l out p Y) := hT.all hpn (Or.inr (by omega))
          clear hT hq
          go_wp2
          go_ret
          exact ⟨⟨out, HT.out, _, rfl, hown⟩, hbr⟩
      · have i1 : ¬ (0 : Int) < (q : Int) := by omega
        have HT : Hid (TurnedAll l out p Y) := hT.all hpn (Or.inl (by omega))
        clear hT hq
        go_wp2
        go_ret
        exact ⟨⟨out, HT.out, _, rfl, hown⟩, hbr⟩

theorem ref_flip_none (A : Option Addr) (c B : Nat) (bit msk : Int) (w : World) :
    Calls Try.prog 44 #[.slice A (0 : Nat) c, .int .i64 bit, .int .i64 msk] w fun e w' => One w.heap.size [] e w' ∧ Below w.heap.size w w' := by
  have cC : Calls Try.prog 29 #[.slice A (0 : Nat) c] w fun e w' => One w.heap.size [] e w' ∧ Below w.heap.size w w' := twin_any A c B [] w (Sl.nil _ _ _) (by simp)
  go_enter Try.func44, Try.ntmps44
  go_wp2_with (first
    | (go_at_call 29; (with_reducible refine cC.mono ?_); rintro e w1 ⟨⟨v, rfl, hown⟩, hb1⟩; obtain ⟨X, x, hv, -, -, -, -⟩ := hown.form; rw [List.length_nil] at hv; subst hv))
  go_ret
  exact ⟨⟨_, rfl, hown⟩, hb1⟩
theorem ref_flip_all (A : Option Addr) (c B n : Nat) (l : List UInt8) (bit msk : Int) (w : World) (hln : l.length = n) (hA : Sl w B A l) (hl : n ≤ 1048576) :
    Calls Try.prog 44 #[.slice A n c, .int .i64 bit, .int .i64 msk] w fun e w' => FlipAns w.heap.size l (place bit n) (maskOf msk) e w' ∧ Below w.heap.size w w' := by
  subst hln
  by_cases h0 : 0 < l.length
  · exact ref_flip_any A c B l bit msk w hA h0 hl
  · obtain rfl : l = [] := List.eq_nil_of_length_eq_zero (by omega)
    refine (ref_flip_none A c B bit msk w).mono ?_
    rintro e w' ⟨ho, hb⟩
    exact ⟨⟨[], turned_nil _ _, ho⟩, hb⟩
end Go.Proofs.Ytegcbmimndmfkaa.sel
