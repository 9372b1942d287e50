/-
  The document's turning of bits (as the statements' package gives it), by its contract: what comes back is the bytes with just those bits turned. Conditions: slices shorter than 2^16 bytes.
-/
import Derived.Test.YtehbecpijomhcaaSumC
namespace Go.Proofs.Ytehbecpijomhcaa.crc
open Go.RowKit Go.Lib

/-- The bits that are turned: the lowest one always is. -/
def oddOf (X : Nat) : Nat := if X % 2 = 0 then X + 1 else X
theorem oddOf_odd (X : Nat) : oddOf X % 2 = 1 := by unfold oddOf; split <;> omega
theorem oddOf_lt {X : Nat} (h : X < 4294967296) : oddOf X < 4294967296 := by unfold oddOf; split <;> omega
theorem half_step (X k : Nat) : X / 2 ^ k / 2 = X / 2 ^ (k + 1) := by rw [Nat.div_div_eq_div_mul, Nat.pow_succ]

def FlipAns (base : Nat) (l : List UInt8) (p X : Nat) (e : Ending) (w' : World) : Prop := ∃ out, TurnedAll l out p X ∧ One base out e w'

set_option maxHeartbeats 2000000 in
theorem ref_flip (A : Option Addr) (c B : Nat) (l : List UInt8) (p X : Nat) (w : World) (hA : Sl w B A l) (h0 : 0 < l.length) (hl : l.length ≤ 1048576) (hp : p < 8 * l.length) (hX : X < 4294967296) :
    Calls Try.prog 19 #[.slice A l.length c, .int .i64 p, .int .i64 X] w fun e w' => FlipAns w.heap.size l p (oddOf X) e w' ∧ Below w.heap.size w w' := by
  have hn : ((l.length : Int) == 0) = false := beq_eq_false_iff_ne.2 (by omega)
  have hn2 : (l.length == 0) = false := beq_eq_false_iff_ne.2 (by omega)
  have cM : ∀ W, Calls Try.prog 25 #[.int .i64 p, .int .i64 (8 * (l.length : Int))] W fun e w' => e = .returned (.int .i64 p) ∧ W = w' := fun W => by
    have := mod_any p (8 * l.length) W (by omega) hp
    rwa [show ((8 * l.length : Nat) : Int) = 8 * (l.length : Int) by omega] at this
  have cN : ∀ W, Calls Try.prog 25 #[.int .i64 X, .int .i64 4294967296] W fun e w' => e = .returned (.int .i64 X) ∧ W = w' := fun W => mod_any X 4294967296 W (by omega) hX
  have ho := oddOf_odd X
  have hXl := oddOf_lt hX
  have hs : ∃ b : Bool, ((X : Int) % 2 == 0) = b ∧ ((oddOf X : Nat) : Int) = if b then (X : Int) + 1 else (X : Int) := by
    refine ⟨_, rfl, ?_⟩
    unfold oddOf
    by_cases h : X % 2 = 0
    · rw [if_pos h, if_pos (by simp; omega)]; rfl
    · rw [if_neg h, if_neg (by simp; omega)]
  obtain ⟨bb, hbb, hs⟩ := hs
  generalize oddOf X = Y at *
  cases bb
  all_goals
    simp only [if_true, if_false, Bool.false_eq_true] at hs
    go_enter Try.func19, Try.ntmps19
    go_wp2_with (first
      | (go_at_call 10
         (with_reducible refine (twin_any _ _ _ _ _ hA hl).mono ?_)
         rintro e w1 ⟨⟨v, rfl, hown⟩, hb1⟩
         obtain ⟨g, c1, hv, hc1, hm1, hg, hgs⟩ := hown.at h0
         subst hv)
      | (go_at_call 25; (with_reducible refine (cM _).mono ?_); rintro e w2 ⟨rfl, rfl⟩)
      | (go_at_call 25; (with_reducible refine (cN _).mono ?_); rintro e w3 ⟨rfl, rfl⟩))
    clear cM cN
    go_loopw [9, 10] (fun x i w' => ∃ (out : List UInt8) (n : Nat), x = .int .i64 ((Y / 2 ^ (n - p) : Nat) : Int) ∧ i = .int .i64 n ∧ p ≤ n ∧ n ≤ 8 * l.length ∧ Own w' w.heap.size 5 (.slice (some ⟨g, 0, none⟩) l.length c1) out ∧ Turned l out p Y n ∧ Below w.heap.size w w') (fun _ i _ => 8 * l.length - (RowKit.intOf i).toNat)
    case atStart => exact ⟨l, p, by rw [Nat.sub_self, Nat.pow_zero, Nat.div_one, hs], rfl, Nat.le_refl _, by omega, hown, Turned.start l p Y, hb1⟩
    case round =>
      clear hs hbb hown hb1 hA
      rename_i wr
      obtain ⟨out, n, rfl, rfl, hpn, hn8, hown, hT, hbr⟩ := hrel
      have hlen := hT.1
      generalize hq : Y / 2 ^ (n - p) = q
      have hql : q < 4294967296 := by rw [← hq]; exact Nat.lt_of_le_of_lt (Nat.div_le_self _ _) hXl
      by_cases h1 : 0 < q
      · have i1 : (0 : Int) < (q : Int) := by omega
        by_cases h2 : n < 8 * l.length
        · have i2 : (n : Int) < 8 * (l.length : Int) := by omega
          by_cases h3 : q % 2 = 1
          · have i3 : ((q : Int) % 2 == 1) = true := by simp; omega
            have HT : Hid (Turned l (turn out n) p Y (n + 1)) := hT.odd h2 hpn (by rw [hq]; exact h3)
            have i4 : (n : Int) / 8 < (l.length : Int) := by omega
            have hcell := hown.cell (n / 8) (by omega)
            have hfz := hown.frozen hlen (n / 8)
            have HQ : Hid (Y / 2 ^ (n + 1 - p) = q / 2) := by
              show _ = _
              rw [show n + 1 - p = n - p + 1 by omega, ← half_step, hq]
            unfold by8 at hcell
            clear hT hq
            have hv : bits .xor .u8 ((out[n / 8]'(by omega)).toNat : Int) (2 ^ (n % 8) % 256) = (((out[n / 8]'(by omega)) ^^^ UInt8.ofNat (2 ^ (n % 8))).toNat : Int) := by
              have e := xor_u8 (out[n / 8]'(by omega)) (UInt8.ofNat (2 ^ (n % 8)))
              rw [← e, UInt8.toNat_ofNat']
              congr 1
            have hst := hown.store hlen (n / 8) ((out[n / 8]'(by omega)) ^^^ UInt8.ofNat (2 ^ (n % 8)))
            have ht : out.set (n / 8) ((out[n / 8]'(by omega)) ^^^ UInt8.ofNat (2 ^ (n % 8))) = turn out n := by
              unfold turn
              congr 2
              rw [List.getD_eq_getElem?_getD, List.getElem?_eq_getElem (show n / 8 < out.length by omega)]
              rfl
            rw [ht] at hst
            have hbs := hbr.grown hst.2 hbr.size (fun k hk => by
              simp only [Option.some.injEq] at hk
              omega)
            unfold by8 at hst hbs
            rw [← hv] at hst hbs
            have HV := Lib.hid hst.1
            have HB := Lib.hid hbs
            clear hv hst ht hbs
            go_wp2
            go_roundw
            case rel => exact ⟨turn out n, n + 1, by rw [HQ.out]; rfl, by go_num, by omega, by omega, HV.out, HT.out, HB.out⟩
            case measure => simp [RowKit.intOf]; omega
          · have i3 : ((q : Int) % 2 == 1) = false := by simp; omega
            have HT : Hid (Turned l out p Y (n + 1)) := hT.even (by rw [hq]; exact h3)
            have HQ : Hid (Y / 2 ^ (n + 1 - p) = q / 2) := by
              show _ = _
              rw [show n + 1 - p = n - p + 1 by omega, ← half_step, hq]
            clear hT hq
            go_wp2
            go_roundw
            case rel => exact ⟨out, n + 1, by rw [HQ.out]; rfl, by go_num, by omega, by omega, hown, HT.out, hbr⟩
            case measure => simp [RowKit.intOf]; omega
        · have i2 : ¬ (n : Int) < 8 * (l.length : Int) := by omega
          have HT : Hid (TurnedAll l out p Y) := hT.all hpn (Or.inr (by omega))
          clear hT hq
          go_wp2
          go_ret
          exact ⟨⟨out, HT.out, _, rfl, hown⟩, hbr⟩
      · have i1 : ¬ (0 : Int) < (q : Int) := by omega
        have HT : Hid (TurnedAll l out p Y) := hT.all hpn (Or.inl (by omega))
        clear hT hq
        go_wp2
        go_ret
        exact ⟨⟨out, HT.out, _, rfl, hown⟩, hbr⟩
end Go.Proofs.Ytehbecpijomhcaa.crc
