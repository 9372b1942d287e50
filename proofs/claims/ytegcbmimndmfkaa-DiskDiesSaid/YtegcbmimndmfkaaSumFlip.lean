/-
  Plain facts on bits that are turned: where bytes differ within 32 bits side by side their checksums differ; of four bytes any difference shows. No run of the program stands here; the conditions are those that each fact names.
-/
import Derived.Test.YtegcbmimndmfkaaSumMath
namespace Go.Proofs.Ytegcbmimndmfkaa.crc

/-- Bit j of bytes, the lowest bit of each byte first. -/
def bit (l : List UInt8) (j : Nat) : Bool := (l.getD (j / 8) 0).toNat.testBit (j % 8)
theorem bitsL_get : ∀ (l : List UInt8) (j : Nat), j < 8 * l.length → (bitsL l)[j]? = some (bit l j)
  | [], j, h => by simp at h
  | x :: l, j, h => by
    rw [List.length_cons] at h
    rw [bitsL_cons]
    by_cases hj : j < 8
    · rw [List.getElem?_append_left (by rw [bits8_length]; exact hj)]
      unfold bits8 bit
      rw [show j / 8 = 0 by omega, show j % 8 = j by omega]
      simp [hj]
    · rw [List.getElem?_append_right (by rw [bits8_length]; omega), bits8_length, bitsL_get l (j - 8) (by omega)]
      unfold bit
      rw [show j / 8 = (j - 8) / 8 + 1 by omega, show (j - 8) % 8 = j % 8 by omega]
      rfl
theorem bit_mix (a b : List UInt8) (h : a.length = b.length) (j : Nat) : bit (List.zipWith (· ^^^ ·) a b) j = (bit a j ^^ bit b j) := by
  unfold bit
  rw [← Nat.testBit_xor, ← xor_toNat]
  congr 2
  simp only [List.getD_eq_getElem?_getD, List.getElem?_zipWith]
  rcases Nat.lt_or_ge (j / 8) a.length with k | k
  · rw [List.getElem?_eq_getElem k, List.getElem?_eq_getElem (by omega)]
    rfl
  · rw [List.getElem?_eq_none k, List.getElem?_eq_none (by omega)]
    rfl

/-- One bit turned. -/
def turn (l : List UInt8) (i : Nat) : List UInt8 := l.set (i / 8) (l.getD (i / 8) 0 ^^^ UInt8.ofNat (2 ^ (i % 8)))
theorem turn_length (l : List UInt8) (i : Nat) : (turn l i).length = l.length := List.length_set
theorem pow_lt8 (i : Nat) : 2 ^ (i % 8) < 256 := by
  have : 2 ^ (i % 8) ≤ 2 ^ 7 := Nat.pow_le_pow_right (by omega) (by omega)
  omega
theorem bit_turn (l : List UInt8) (i j : Nat) (h : i < 8 * l.length) : bit (turn l i) j = (bit l j ^^ decide (j = i)) := by
  unfold bit turn
  simp only [List.getD_eq_getElem?_getD, List.getElem?_set]
  by_cases hj : i / 8 = j / 8
  · rw [if_pos hj, if_pos (by omega)]
    simp only [Option.getD_some, xor_toNat, Nat.testBit_xor]
    rw [hj]
    congr 1
    rw [UInt8.toNat_ofNat', Nat.mod_eq_of_lt (pow_lt8 i), Nat.testBit_two_pow]
    exact decide_eq_decide.2 (by omega)
  · rw [if_neg hj, show decide (j = i) = false from decide_eq_false (by omega), Bool.xor_false]

/-- The bits from p on are turned by those of X, up to bit i. -/
def Turned (l out : List UInt8) (p X i : Nat) : Prop := out.length = l.length ∧ ∀ j, bit out j = (bit l j ^^ (decide (p ≤ j ∧ j < i) && X.testBit (j - p)))
theorem Turned.start (l : List UInt8) (p X : Nat) : Turned l l p X p := ⟨rfl, fun j => by
  rw [show decide (p ≤ j ∧ j < p) = false from decide_eq_false (by omega)]
  simp⟩
theorem Turned.odd {l out : List UInt8} {p X i : Nat} (h : Turned l out p X i) (hi : i < 8 * l.length) (hp : p ≤ i) (ho : X / 2 ^ (i - p) % 2 = 1) : Turned l (turn out i) p X (i + 1) := by
  refine ⟨(turn_length _ _).trans h.1, fun j => ?_⟩
  rw [bit_turn out i j (by rw [h.1]; exact hi), h.2 j, Bool.xor_assoc]
  congr 1
  by_cases hj : j = i
  · subst hj
    rw [show decide (p ≤ j ∧ j < j) = false from decide_eq_false (by omega), show decide (p ≤ j ∧ j < j + 1) = true from decide_eq_true (by omega), Nat.testBit_eq_decide_div_mod_eq, ho]
    simp
  · rw [show decide (j = i) = false from decide_eq_false hj, Bool.xor_false, show decide (p ≤ j ∧ j < i + 1) = decide (p ≤ j ∧ j < i) from decide_eq_decide.2 (by omega)]
theorem Turned.even {l out : List UInt8} {p X i : Nat} (h : Turned l out p X i) (ho : ¬ X / 2 ^ (i - p) % 2 = 1) : Turned l out p X (i + 1) := by
  refine ⟨h.1, fun j => ?_⟩
  rw [h.2 j]
  congr 1
  by_cases hj : j = i
  · subst hj
    rw [show decide (p ≤ j ∧ j < j) = false from decide_eq_false (by omega), Nat.testBit_eq_decide_div_mod_eq, show decide (X / 2 ^ (j - p) % 2 = 1) = false from decide_eq_false ho]
    simp
  · rw [show decide (p ≤ j ∧ j < i + 1) = decide (p ≤ j ∧ j < i) from decide_eq_decide.2 (by omega)]
/-- All of them are. -/
def TurnedAll (l out : List UInt8) (p X : Nat) : Prop := out.length = l.length ∧ ∀ j, j < 8 * l.length → bit out j = (bit l j ^^ (decide (p ≤ j) && X.testBit (j - p)))
theorem Turned.all {l out : List UInt8} {p X i : Nat} (h : Turned l out p X i) (hp : p ≤ i) (he : X / 2 ^ (i - p) = 0 ∨ 8 * l.length ≤ i) : TurnedAll l out p X := by
  refine ⟨h.1, fun j hj => ?_⟩
  rw [h.2 j]
  congr 1
  by_cases hi : j < i
  · rw [show decide (p ≤ j ∧ j < i) = decide (p ≤ j) from decide_eq_decide.2 (by omega)]
  · rcases he with he | he
    · have hz : X.testBit (j - p) = false := by
        have hlt : X < 2 ^ (i - p) := by
          rcases Nat.lt_or_ge X (2 ^ (i - p)) with k | k
          · exact k
          · have := Nat.div_pos k (Nat.two_pow_pos _)
            omega
        exact Nat.testBit_lt_two_pow (Nat.lt_of_lt_of_le hlt (Nat.pow_le_pow_right (by omega) (by omega)))
      rw [hz, Bool.and_false, Bool.and_false]
    · omega

theorem sum_same {a b : List UInt8} (hl : a.length = b.length) (h : sum a = sum b) : reg 0 (List.zipWith (· ^^^ ·) a b) = 0 := by
  have h1 := reg_lt a (r := ones) (by decide)
  have h2 := reg_lt b (r := ones) (by decide)
  have he : reg ones a = reg ones b := by unfold sum ones at *; omega
  have := reg_xor a b hl ones ones
  rwa [he, Nat.xor_self, Nat.xor_self] at this
theorem turned_sum {l out : List UInt8} {p X : Nat} (h : TurnedAll l out p X) (hp : p < 8 * l.length) (hX : X < 4294967296) (ho : X % 2 = 1) : sum l ≠ sum out := by
  intro hs
  have hz := sum_same h.1.symm hs
  have hlen : (List.zipWith (· ^^^ ·) l out).length = l.length := by rw [List.length_zipWith, h.1, Nat.min_self]
  have hb : ∀ j, j < 8 * l.length → bit (List.zipWith (· ^^^ ·) l out) j = (decide (p ≤ j) && X.testBit (j - p)) := fun j hj => by
    rw [bit_mix l out h.1.symm, h.2 j hj, ← Bool.xor_assoc, Bool.xor_self, Bool.false_xor]
  generalize hd : List.zipWith (· ^^^ ·) l out = d at hz hlen hb
  have e : bitsL d = List.replicate p false ++ (List.range (min 32 (8 * l.length - p))).map (fun k => X.testBit k) ++ List.replicate (8 * l.length - p - min 32 (8 * l.length - p)) false := by
    apply List.ext_getElem?
    intro j
    rw [List.append_assoc]
    by_cases hj : j < 8 * l.length
    · rw [bitsL_get d j (by rw [hlen]; exact hj), hb j hj]
      by_cases h1 : j < p
      · rw [List.getElem?_append_left (by rw [List.length_replicate]; exact h1), List.getElem?_replicate_of_lt h1, show decide (p ≤ j) = false from decide_eq_false (by omega), Bool.false_and]
      · rw [List.getElem?_append_right (by rw [List.length_replicate]; omega), List.length_replicate, show decide (p ≤ j) = true from decide_eq_true (by omega), Bool.true_and]
        by_cases h2 : j - p < min 32 (8 * l.length - p)
        · rw [List.getElem?_append_left (by rw [List.length_map, List.length_range]; exact h2), List.getElem?_map, List.getElem?_range h2]
          rfl
        · rw [List.getElem?_append_right (by rw [List.length_map, List.length_range]; omega), List.length_map, List.length_range, List.getElem?_replicate_of_lt (by omega)]
          have : X < 2 ^ (j - p) := Nat.lt_of_lt_of_le (show X < 2 ^ 32 by simpa using hX) (Nat.pow_le_pow_right (by omega) (by omega))
          rw [Nat.testBit_lt_two_pow this]
    · rw [List.getElem?_eq_none (by rw [bitsL_length, hlen]; omega), List.getElem?_eq_none (by simp only [List.length_append, List.length_replicate, List.length_map, List.length_range]; omega)]
  rw [reg_feed, e] at hz
  refine feed_burst p _ _ (by rw [List.length_map, List.length_range]; omega) ⟨true, ?_, rfl⟩ hz
  refine List.mem_map.2 ⟨0, List.mem_range.2 (by omega), ?_⟩
  rw [Nat.testBit_eq_decide_div_mod_eq]
  simpa using ho

theorem word_none : ∀ l : List Bool, (∀ b ∈ l, b = false) → word l = 0
  | [], _ => rfl
  | x :: l, h => by
    rw [word, word_none l (fun b hb => h b (List.mem_cons_of_mem _ hb)), h x List.mem_cons_self]
    rfl
theorem zip_zero : ∀ {a b : List UInt8}, a.length = b.length → (∀ x ∈ List.zipWith (· ^^^ ·) a b, x = 0) → a = b
  | [], [], _, _ => rfl
  | x :: a, y :: b, h, hz => by
    rw [List.zipWith_cons_cons] at hz
    have h1 := hz _ List.mem_cons_self
    have h2 := zip_zero (a := a) (b := b) (by simpa using h) (fun z hz' => hz z (List.mem_cons_of_mem _ hz'))
    have h3 : x = y := by
      have := congrArg UInt8.toNat h1
      rw [xor_toNat] at this
      exact UInt8.toNat_inj.1 (xor_zero this)
    rw [h2, h3]
theorem sum_four {a b : List UInt8} (ha : a.length = 4) (hb : b.length = 4) (h : sum a = sum b) : a = b := by
  have hz := sum_same (ha.trans hb.symm) h
  refine zip_zero (ha.trans hb.symm) fun x hx => ?_
  have hlen : (List.zipWith (· ^^^ ·) a b).length = 4 := by rw [List.length_zipWith]; omega
  generalize List.zipWith (· ^^^ ·) a b = d at *
  rw [reg_feed, feed_word, Nat.zero_xor, bitsL_length, hlen] at hz
  have hw := word_lt (bitsL d)
  rw [bitsL_length, hlen] at hw
  have h0 := word_zero _ (downs_zero _ (by simpa using hw) hz)
  have hx0 : word (bits8 x) = 0 := word_none _ fun y hy => h0 y (List.mem_flatMap.2 ⟨x, hx, hy⟩)
  rw [word_bits8] at hx0
  exact UInt8.toNat_inj.1 (by simpa using hx0)
end Go.Proofs.Ytegcbmimndmfkaa.crc
