/-
  Plain facts on the checksum: a register that is shifted bit by bit. No run of the program stands here; the conditions are those that each fact names.
-/
import Derived.Test.YtegcbmimndmfkaaBytes
namespace Go.Proofs.Ytegcbmimndmfkaa.crc

def poly : Nat := 2197175160
/-- A register gone down by one bit. -/
def down (r : Nat) : Nat := if r % 2 = 1 then r / 2 ^^^ poly else r / 2
def downs : Nat → Nat → Nat
  | 0, r => r
  | k + 1, r => downs k (down r)

theorem xor_half (a b : Nat) : (a ^^^ b) / 2 = a / 2 ^^^ b / 2 := Nat.xor_div_two
theorem xor_low (a b : Nat) : (a ^^^ b) % 2 = (a + b) % 2 := by
  have h := Nat.xor_mod_two_pow (a := a) (b := b) (n := 1)
  rw [Nat.pow_one] at h
  rw [h]
  rcases Nat.mod_two_eq_zero_or_one a with ha | ha <;> rcases Nat.mod_two_eq_zero_or_one b with hb | hb <;> rw [ha, hb] <;> simp <;> omega
theorem xor_zero {a b : Nat} (h : a ^^^ b = 0) : a = b := by
  have := congrArg (· ^^^ b) h
  simpa [Nat.xor_assoc, Nat.xor_self] using this
theorem xor_left (a b c : Nat) : a ^^^ (b ^^^ c) = b ^^^ (a ^^^ c) := by rw [← Nat.xor_assoc, Nat.xor_comm a b, Nat.xor_assoc]
theorem xor_lt {a b : Nat} (ha : a < 4294967296) (hb : b < 4294967296) : a ^^^ b < 4294967296 := Nat.xor_lt_two_pow (n := 32) ha hb

theorem down_lt {r : Nat} (h : r < 4294967296) : down r < 4294967296 := by
  unfold down
  split
  · exact xor_lt (by omega) (by decide)
  · omega
theorem down_xor (a b : Nat) : down (a ^^^ b) = down a ^^^ down b := by
  unfold down
  rw [xor_half, xor_low]
  by_cases ha : a % 2 = 1
  · by_cases hb : b % 2 = 1
    · rw [if_neg (by omega), if_pos ha, if_pos hb]
      rw [Nat.xor_assoc, Nat.xor_comm (b / 2) poly, ← Nat.xor_assoc poly, Nat.xor_self, Nat.zero_xor]
    · rw [if_pos (by omega), if_pos ha, if_neg hb]
      rw [Nat.xor_assoc, Nat.xor_comm (b / 2) poly, ← Nat.xor_assoc]
  · by_cases hb : b % 2 = 1
    · rw [if_pos (by omega), if_neg ha, if_pos hb, Nat.xor_assoc]
    · rw [if_neg (by omega), if_neg ha, if_neg hb]
theorem down_zero {r : Nat} (h : r < 4294967296) (hd : down r = 0) : r = 0 := by
  unfold down at hd
  split at hd
  · have := xor_zero hd
    unfold poly at this
    omega
  · omega
theorem downs_lt : ∀ (k : Nat) {r : Nat}, r < 4294967296 → downs k r < 4294967296
  | 0, _, h => h
  | k + 1, _, h => downs_lt k (down_lt h)
theorem downs_xor : ∀ (k a b : Nat), downs k (a ^^^ b) = downs k a ^^^ downs k b
  | 0, _, _ => rfl
  | k + 1, a, b => by simp only [downs, down_xor, downs_xor k]
theorem downs_none : ∀ k, downs k 0 = 0
  | 0 => rfl
  | k + 1 => downs_none k
theorem downs_zero : ∀ (k : Nat) {r : Nat}, r < 4294967296 → downs k r = 0 → r = 0
  | 0, _, _, hd => hd
  | k + 1, _, h, hd => down_zero h (downs_zero k (down_lt h) hd)
theorem downs_inj (k : Nat) {a b : Nat} (ha : a < 4294967296) (hb : b < 4294967296) (h : downs k a = downs k b) : a = b := by
  have : downs k (a ^^^ b) = 0 := by rw [downs_xor, h, Nat.xor_self]
  exact xor_zero (downs_zero k (xor_lt ha hb) this)
theorem downs_add (j k r : Nat) : downs (j + k) r = downs k (downs j r) := by
  induction j generalizing r with
  | zero => rw [Nat.zero_add]; rfl
  | succ j ih => rw [show j + 1 + k = (j + k) + 1 by omega]; exact ih (down r)

/-- Bits go in one by one, each at the register's lowest place. -/
def feed (r : Nat) : List Bool → Nat
  | [] => r
  | b :: l => feed (down (r ^^^ b.toNat)) l
def word : List Bool → Nat
  | [] => 0
  | b :: l => b.toNat ^^^ (2 * word l)
theorem down_double (x : Nat) : down (2 * x) = x := by unfold down; rw [if_neg (by omega)]; omega
theorem feed_word : ∀ (l : List Bool) (r : Nat), feed r l = downs l.length (r ^^^ word l)
  | [], r => by simp [feed, word, downs]
  | b :: l, r => by
    rw [feed, feed_word l, List.length_cons, downs, word, ← Nat.xor_assoc, down_xor (r ^^^ b.toNat), down_double]
theorem feed_append (a b : List Bool) : ∀ r, feed r (a ++ b) = feed (feed r a) b := by
  induction a with
  | nil => intro r; rfl
  | cons x a ih => intro r; exact ih _
theorem feed_xor : ∀ (a b : List Bool), a.length = b.length → ∀ r s, feed (r ^^^ s) (List.zipWith xor a b) = feed r a ^^^ feed s b
  | [], [], _, r, s => rfl
  | x :: a, y :: b, h, r, s => by
    rw [List.zipWith_cons_cons, feed, feed, feed, ← feed_xor a b (by simpa using h), ← down_xor]
    congr 2
    have e : (x ^^ y).toNat = x.toNat ^^^ y.toNat := by cases x <;> cases y <;> rfl
    rw [e, Nat.xor_assoc, Nat.xor_assoc, xor_left s]
theorem word_lt : ∀ l : List Bool, word l < 2 ^ l.length
  | [] => by simp [word]
  | b :: l => by
    have := word_lt l
    rw [word, List.length_cons]
    refine Nat.xor_lt_two_pow ?_ (by omega)
    have := Nat.two_pow_pos l.length
    rw [Nat.pow_succ]
    cases b <;> simp <;> omega
theorem word_zero : ∀ l : List Bool, word l = 0 → ∀ b ∈ l, b = false
  | [], _, _, h => by cases h
  | x :: l, h, b, hb => by
    rw [word] at h
    have hx := xor_zero h
    have : x = false := by
      cases x with
      | false => rfl
      | true => simp at hx; omega
    subst this
    simp at hx
    rcases List.mem_cons.1 hb with rfl | hb
    · rfl
    · exact word_zero l (by omega) b hb
theorem feed_none (r : Nat) : ∀ n, feed r (List.replicate n false) = downs n r
  | 0 => rfl
  | n + 1 => by
    rw [List.replicate_succ, feed, downs]
    simp only [Bool.toNat_false, Nat.xor_zero]
    exact feed_none (down r) n
/-- Bits that differ, all within 32 places: the register is not nought behind them. -/
theorem feed_burst (p q : Nat) (l : List Bool) (hl : l.length ≤ 32) (h : ∃ b ∈ l, b = true) : feed 0 (List.replicate p false ++ l ++ List.replicate q false) ≠ 0 := by
  rw [feed_append, feed_append, feed_none, feed_none, downs_none, feed_word, Nat.zero_xor]
  have hw : word l < 4294967296 := Nat.lt_of_lt_of_le (word_lt l) (by
    have : 2 ^ l.length ≤ 2 ^ 32 := Nat.pow_le_pow_right (by omega) hl
    simpa using this)
  intro hz
  have h1 := downs_zero q (downs_lt _ hw) hz
  have h2 := downs_zero _ hw h1
  obtain ⟨b, hb, ht⟩ := h
  have := word_zero l h2 b hb
  rw [ht] at this
  cases this

/-- A byte's bits, the lowest first. -/
def bits8 (x : UInt8) : List Bool := (List.range 8).map fun k => x.toNat.testBit k
theorem word_bits8 : ∀ x : UInt8, word (bits8 x) = x.toNat := by
  intro x
  have h : ∀ n : Fin 256, word ((List.range 8).map fun k => n.val.testBit k) = n.val := by decide +kernel
  unfold bits8
  exact h ⟨x.toNat, x.toNat_lt⟩
theorem bits8_length (x : UInt8) : (bits8 x).length = 8 := by simp [bits8]
def bitsL (l : List UInt8) : List Bool := l.flatMap bits8
theorem bitsL_length (l : List UInt8) : (bitsL l).length = 8 * l.length := by
  induction l with
  | nil => rfl
  | cons x l ih => rw [bitsL, List.flatMap_cons, List.length_append, bits8_length, List.length_cons]; unfold bitsL at ih; omega

/-- The register behind bytes. -/
def reg (r : Nat) : List UInt8 → Nat
  | [] => r
  | x :: l => reg (downs 8 (r ^^^ x.toNat)) l
theorem bitsL_cons (x : UInt8) (l : List UInt8) : bitsL (x :: l) = bits8 x ++ bitsL l := List.flatMap_cons
theorem reg_feed (l : List UInt8) : ∀ r : Nat, reg r l = feed r (bitsL l) := by
  induction l with
  | nil => intro r; rfl
  | cons x l ih =>
    intro r
    rw [bitsL_cons, feed_append, feed_word (bits8 x), word_bits8, bits8_length]
    exact ih _
theorem reg_append (a b : List UInt8) : ∀ r, reg r (a ++ b) = reg (reg r a) b := by
  induction a with
  | nil => intro r; rfl
  | cons x a ih => intro r; exact ih _
theorem reg_lt : ∀ (l : List UInt8) {r : Nat}, r < 4294967296 → reg r l < 4294967296
  | [], _, h => h
  | x :: l, _, h => reg_lt l (downs_lt 8 (xor_lt h (by have := x.toNat_lt; omega)))
theorem xor_toNat (x y : UInt8) : (x ^^^ y).toNat = x.toNat ^^^ y.toNat := UInt8.toNat_xor x y
theorem reg_xor : ∀ (a b : List UInt8), a.length = b.length → ∀ r s, reg (r ^^^ s) (List.zipWith (· ^^^ ·) a b) = reg r a ^^^ reg s b
  | [], [], _, r, s => rfl
  | x :: a, y :: b, h, r, s => by
    show reg (downs 8 ((r ^^^ s) ^^^ (x ^^^ y).toNat)) (List.zipWith (· ^^^ ·) a b) = reg (downs 8 (r ^^^ x.toNat)) a ^^^ reg (downs 8 (s ^^^ y.toNat)) b
    rw [← reg_xor a b (by simpa using h), ← downs_xor, xor_toNat]
    congr 2
    rw [Nat.xor_assoc, Nat.xor_assoc, xor_left s]

def ones : Nat := 4294967295
theorem flip_ones {r : Nat} (h : r < 4294967296) : ones - r = r ^^^ ones := by
  have : r = (BitVec.ofNat 32 r).toNat := by simp [Nat.mod_eq_of_lt h]
  rw [this]
  have e : (BitVec.ofNat 32 r).toNat ^^^ ones = (~~~ (BitVec.ofNat 32 r)).toNat := by
    rw [BitVec.not_def, BitVec.toNat_xor, Nat.xor_comm]
    rfl
  rw [e, BitVec.toNat_not]
  rfl
/-- The checksum. -/
def sum (l : List UInt8) : Nat := ones - reg ones l
def more (s : Nat) (l : List UInt8) : Nat := ones - reg (ones - s) l
theorem sum_lt (l : List UInt8) : sum l < 4294967296 := by unfold sum ones; omega
theorem more_lt (s : Nat) (l : List UInt8) : more s l < 4294967296 := by unfold more ones; omega
theorem sum_nil : sum [] = 0 := rfl
theorem sum_more (a b : List UInt8) : more (sum a) b = sum (a ++ b) := by
  have h := reg_lt a (r := ones) (by decide)
  unfold more sum
  rw [reg_append, show ones - (ones - reg ones a) = reg ones a by unfold ones at *; omega]
theorem more_of {s t : Nat} (hs : s < 4294967296) (ht : t < 4294967296) (l : List UInt8) (h : s ≠ t) : more s l ≠ more t l := by
  intro he
  have h1 := reg_lt l (r := ones - s) (by unfold ones; omega)
  have h2 := reg_lt l (r := ones - t) (by unfold ones; omega)
  unfold more at he
  have he' : reg (ones - s) l = reg (ones - t) l := by unfold ones at *; omega
  rw [reg_feed, reg_feed, feed_word, feed_word] at he'
  have hw : ∀ x, x < 4294967296 → ∀ w k, downs k (x ^^^ w) = downs k x ^^^ downs k w := fun x _ w k => downs_xor k x w
  rw [hw _ (by unfold ones; omega), hw _ (by unfold ones; omega)] at he'
  have hz : downs (bitsL l).length (ones - s) = downs (bitsL l).length (ones - t) := by
    have := congrArg (· ^^^ downs (bitsL l).length (word (bitsL l))) he'
    simpa [Nat.xor_assoc, Nat.xor_self] using this
  have := downs_inj _ (by unfold ones; omega) (by unfold ones; omega) hz
  unfold ones at this
  omega
theorem sum_mix (a b c : List UInt8) (h1 : a.length = b.length) (h2 : a.length = c.length) : sum (List.zipWith (· ^^^ ·) (List.zipWith (· ^^^ ·) a b) c) = sum a ^^^ sum b ^^^ sum c := by
  have k : ones ^^^ ones ^^^ ones = ones := by decide
  unfold sum
  have hx : ∀ l, ones - reg ones l = reg ones l ^^^ ones := fun l => flip_ones (reg_lt l (by decide))
  rw [hx, hx, hx, hx]
  have e := reg_xor (List.zipWith (· ^^^ ·) a b) c (by rw [List.length_zipWith]; omega) (ones ^^^ ones) ones
  rw [reg_xor a b h1 ones ones, k] at e
  rw [e]
  have : ∀ x y z o : Nat, x ^^^ y ^^^ z ^^^ o = (x ^^^ o) ^^^ (y ^^^ o) ^^^ (z ^^^ o) := by
    intro x y z o
    have : (x ^^^ o) ^^^ (y ^^^ o) ^^^ (z ^^^ o) = x ^^^ y ^^^ z ^^^ (o ^^^ o ^^^ o) := by
      simp [Nat.xor_comm, xor_left]
    rw [this, Nat.xor_self, Nat.zero_xor]
  exact this _ _ _ _
end Go.Proofs.Ytegcbmimndmfkaa.crc
