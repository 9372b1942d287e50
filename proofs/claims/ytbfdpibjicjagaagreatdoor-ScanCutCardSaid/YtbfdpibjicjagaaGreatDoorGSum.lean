/-
  Plain facts on the checksum: a register that is shifted bit by bit. No run of the program stands here; the conditions are those that each fact names.
  Plain facts on bits that are turned: where bytes differ within 32 bits side by side their checksums differ; of four bytes any difference shows. No run of the program stands here; the conditions are those that each fact names.
  Package sum, function by function: eight steps, the bytes taken in, Of, More, Table, each by its contract. Conditions: a slice's length is an int's.
  The document's own answers for checksums (as the statements' package gives them), each by its contract; two byte strings held against one another; 'wakes'. Conditions: slices shorter than 2^20 bytes.
-/
import Derived.Test.YtbfdpibjicjagaaGreatDoorBytes
import Derived.Test.YtbfdpibjicjagaaGreatDoorProg
import Derived.Test.YtbfdpibjicjagaaGreatDoorKeep
import Derived.ProofKit
import Derived.WalkKit
import Derived.Calls
import Derived.WalkLawsBesides
import Derived.WalkSpells
import Derived.Lib.Walk
import Derived.Lib.Hide
import Derived.LoopTactic
import Derived.Outline
import Derived.Laws.BitsAllLaws
import Derived.Laws.Bits64
import Derived.Deep.RegionHeld3
set_option maxHeartbeats 1000000
set_option maxRecDepth 100000
namespace Go.Proofs.YtbfdpibjicjagaaGreatDoor.crc
def poly : Nat := 2197175160
def down (r : Nat) : Nat := if r % 2 = 1 then r / 2 ^^^ poly else r / 2
def downs : Nat → Nat → Nat
 | 0, r => r
 | k + 1, r => downs k (down r)
theorem xor_half (a b : Nat) : (a ^^^ b) / 2 = a / 2 ^^^ b / 2 := Nat.xor_div_two
theorem xor_low (a b : Nat) : (a ^^^ b) % 2 = (a + b) % 2 := by
 have h := Nat.xor_mod_two_pow (a := a) (b := b) (n := 1)
 rw [Nat.pow_one] at h
 rw [h]
 rcases Nat.mod_two_eq_zero_or_one a with ha | ha <;> rcases Nat.mod_two_eq_zero_or_one b with hb | hb <;> rw [ha, hb] <;> simp <;> omega
theorem xor_zero {a b : Nat} (h : a ^^^ b = 0) : a = b := by
 have := congrArg (· ^^^ b) h
 simpa [Nat.xor_assoc, Nat.xor_self] using this
theorem xor_left (a b c : Nat) : a ^^^ (b ^^^ c) = b ^^^ (a ^^^ c) := by rw [← Nat.xor_assoc, Nat.xor_comm a b, Nat.xor_assoc]
theorem xor_lt {a b : Nat} (ha : a < 4294967296) (hb : b < 4294967296) : a ^^^ b < 4294967296 := Nat.xor_lt_two_pow (n := 32) ha hb
theorem down_lt {r : Nat} (h : r < 4294967296) : down r < 4294967296 := by
 unfold down
 split
 ·exact xor_lt (by omega) (by decide)
 ·omega
theorem down_xor (a b : Nat) : down (a ^^^ b) = down a ^^^ down b := by
 unfold down
 rw [xor_half, xor_low]
 by_cases ha : a % 2 = 1
 ·by_cases hb : b % 2 = 1
  ·rw [if_neg (by omega), if_pos ha, if_pos hb]
   rw [Nat.xor_assoc, Nat.xor_comm (b / 2) poly, ← Nat.xor_assoc poly, Nat.xor_self, Nat.zero_xor]
  ·rw [if_pos (by omega), if_pos ha, if_neg hb]
   rw [Nat.xor_assoc, Nat.xor_comm (b / 2) poly, ← Nat.xor_assoc]
 ·by_cases hb : b % 2 = 1
  ·rw [if_pos (by omega), if_neg ha, if_pos hb, Nat.xor_assoc]
  ·rw [if_neg (by omega), if_neg ha, if_neg hb]
theorem down_zero {r : Nat} (h : r < 4294967296) (hd : down r = 0) : r = 0 := by
 unfold down at hd
 split at hd
 ·have := xor_zero hd
  unfold poly at this
  omega
 ·omega
theorem downs_lt : ∀ (k : Nat) {r : Nat}, r < 4294967296 → downs k r < 4294967296
 | 0, _, h => h
 | k + 1, _, h => downs_lt k (down_lt h)
theorem downs_xor : ∀ (k a b : Nat), downs k (a ^^^ b) = downs k a ^^^ downs k b
 | 0, _, _ => rfl
 | k + 1, a, b => by simp only [downs, down_xor, downs_xor k]
theorem downs_none : ∀ k, downs k 0 = 0
 | 0 => rfl
 | k + 1 => downs_none k
theorem downs_zero : ∀ (k : Nat) {r : Nat}, r < 4294967296 → downs k r = 0 → r = 0
 | 0, _, _, hd => hd
 | k + 1, _, h, hd => down_zero h (downs_zero k (down_lt h) hd)
def feed (r : Nat) : List Bool → Nat
 | [] => r
 | b :: l => feed (down (r ^^^ b.toNat)) l
def word : List Bool → Nat
 | [] => 0
 | b :: l => b.toNat ^^^ (2 * word l)
theorem down_double (x : Nat) : down (2 * x) = x := by unfold down; rw [if_neg (by omega)]; omega
theorem feed_word : ∀ (l : List Bool) (r : Nat), feed r l = downs l.length (r ^^^ word l)
 | [], r => by simp [feed, word, downs]
 | b :: l, r => by
  rw [feed, feed_word l, List.length_cons, downs, word, ← Nat.xor_assoc, down_xor (r ^^^ b.toNat), down_double]
theorem feed_append (a b : List Bool) : ∀ r, feed r (a ++ b) = feed (feed r a) b := by
 induction a with
 | nil => intro r; rfl
 | cons x a ih => intro r; exact ih _
theorem word_lt : ∀ l : List Bool, word l < 2 ^ l.length
 | [] => by simp [word]
 | b :: l => by
  have := word_lt l
  rw [word, List.length_cons]
  refine Nat.xor_lt_two_pow ?_ (by omega)
  have := Nat.two_pow_pos l.length
  rw [Nat.pow_succ]
  cases b <;> simp <;> omega
theorem word_zero : ∀ l : List Bool, word l = 0 → ∀ b ∈ l, b = false
 | [], _, _, h => by cases h
 | x :: l, h, b, hb => by
  rw [word] at h
  have hx := xor_zero h
  have : x = false := by
   cases x with
   | false => rfl
   | true => simp at hx; omega
  subst this
  simp at hx
  rcases List.mem_cons.1 hb with rfl | hb
  ·rfl
  ·exact word_zero l (by omega) b hb
theorem feed_none (r : Nat) : ∀ n, feed r (List.replicate n false) = downs n r
 | 0 => rfl
 | n + 1 => by
  rw [List.replicate_succ, feed, downs]
  simp only [Bool.toNat_false, Nat.xor_zero]
  exact feed_none (down r) n
theorem feed_burst (p q : Nat) (l : List Bool) (hl : l.length ≤ 32) (h : ∃ b ∈ l, b = true) : feed 0 (List.replicate p false ++ l ++ List.replicate q false) ≠ 0 := by
 rw [feed_append, feed_append, feed_none, feed_none, downs_none, feed_word, Nat.zero_xor]
 have hw : word l < 4294967296 := Nat.lt_of_lt_of_le (word_lt l) (by
  have : 2 ^ l.length ≤ 2 ^ 32 := Nat.pow_le_pow_right (by omega) hl
  simpa using this)
 intro hz
 have h1 := downs_zero q (downs_lt _ hw) hz
 have h2 := downs_zero _ hw h1
 obtain ⟨b, hb, ht⟩ := h
 have := word_zero l h2 b hb
 rw [ht] at this
 cases this
def bits8 (x : UInt8) : List Bool := (List.range 8).map fun k => x.toNat.testBit k
theorem word_bits8 : ∀ x : UInt8, word (bits8 x) = x.toNat := by
 intro x
 have h : ∀ n : Fin 256, word ((List.range 8).map fun k => n.val.testBit k) = n.val := by decide +kernel
 unfold bits8
 exact h ⟨x.toNat, x.toNat_lt⟩
theorem bits8_length (x : UInt8) : (bits8 x).length = 8 := by simp [bits8]
def bitsL (l : List UInt8) : List Bool := l.flatMap bits8
theorem bitsL_length (l : List UInt8) : (bitsL l).length = 8 * l.length := by
 induction l with
 | nil => rfl
 | cons x l ih => rw [bitsL, List.flatMap_cons, List.length_append, bits8_length, List.length_cons]; unfold bitsL at ih; omega
def reg (r : Nat) : List UInt8 → Nat
 | [] => r
 | x :: l => reg (downs 8 (r ^^^ x.toNat)) l
theorem bitsL_cons (x : UInt8) (l : List UInt8) : bitsL (x :: l) = bits8 x ++ bitsL l := List.flatMap_cons
theorem reg_feed (l : List UInt8) : ∀ r : Nat, reg r l = feed r (bitsL l) := by
 induction l with
 | nil => intro r; rfl
 | cons x l ih =>
  intro r
  rw [bitsL_cons, feed_append, feed_word (bits8 x), word_bits8, bits8_length]
  exact ih _
theorem reg_append (a b : List UInt8) : ∀ r, reg r (a ++ b) = reg (reg r a) b := by
 induction a with
 | nil => intro r; rfl
 | cons x a ih => intro r; exact ih _
theorem reg_lt : ∀ (l : List UInt8) {r : Nat}, r < 4294967296 → reg r l < 4294967296
 | [], _, h => h
 | x :: l, _, h => reg_lt l (downs_lt 8 (xor_lt h (by have := x.toNat_lt; omega)))
theorem xor_toNat (x y : UInt8) : (x ^^^ y).toNat = x.toNat ^^^ y.toNat := UInt8.toNat_xor x y
theorem reg_xor : ∀ (a b : List UInt8), a.length = b.length → ∀ r s, reg (r ^^^ s) (List.zipWith (· ^^^ ·) a b) = reg r a ^^^ reg s b
 | [], [], _, r, s => rfl
 | x :: a, y :: b, h, r, s => by
  show reg (downs 8 ((r ^^^ s) ^^^ (x ^^^ y).toNat)) (List.zipWith (· ^^^ ·) a b) = reg (downs 8 (r ^^^ x.toNat)) a ^^^ reg (downs 8 (s ^^^ y.toNat)) b
  rw [← reg_xor a b (by simpa using h), ← downs_xor, xor_toNat]
  congr 2
  rw [Nat.xor_assoc, Nat.xor_assoc, xor_left s]
def ones : Nat := 4294967295
theorem flip_ones {r : Nat} (h : r < 4294967296) : ones - r = r ^^^ ones := by
 have : r = (BitVec.ofNat 32 r).toNat := by simp [Nat.mod_eq_of_lt h]
 rw [this]
 have e : (BitVec.ofNat 32 r).toNat ^^^ ones = (~~~ (BitVec.ofNat 32 r)).toNat := by
  rw [BitVec.not_def, BitVec.toNat_xor, Nat.xor_comm]
  rfl
 rw [e, BitVec.toNat_not]
 rfl
def sum (l : List UInt8) : Nat := ones - reg ones l
def more (s : Nat) (l : List UInt8) : Nat := ones - reg (ones - s) l
theorem sum_lt (l : List UInt8) : sum l < 4294967296 := by unfold sum ones; omega
end Go.Proofs.YtbfdpibjicjagaaGreatDoor.crc
namespace Go.Proofs.YtbfdpibjicjagaaGreatDoor.crc
def bit (l : List UInt8) (j : Nat) : Bool := (l.getD (j / 8) 0).toNat.testBit (j % 8)
theorem bitsL_get : ∀ (l : List UInt8) (j : Nat), j < 8 * l.length → (bitsL l)[j]? = some (bit l j)
 | [], j, h => by simp at h
 | x :: l, j, h => by
  rw [List.length_cons] at h
  rw [bitsL_cons]
  by_cases hj : j < 8
  ·rw [List.getElem?_append_left (by rw [bits8_length]; exact hj)]
   unfold bits8 bit
   rw [show j / 8 = 0 by omega, show j % 8 = j by omega]
   simp [hj]
  ·rw [List.getElem?_append_right (by rw [bits8_length]; omega), bits8_length, bitsL_get l (j - 8) (by omega)]
   unfold bit
   rw [show j / 8 = (j - 8) / 8 + 1 by omega, show (j - 8) % 8 = j % 8 by omega]
   rfl
theorem bit_mix (a b : List UInt8) (h : a.length = b.length) (j : Nat) : bit (List.zipWith (· ^^^ ·) a b) j = (bit a j ^^ bit b j) := by
 unfold bit
 rw [← Nat.testBit_xor, ← xor_toNat]
 congr 2
 simp only [List.getD_eq_getElem?_getD, List.getElem?_zipWith]
 rcases Nat.lt_or_ge (j / 8) a.length with k | k
 ·rw [List.getElem?_eq_getElem k, List.getElem?_eq_getElem (by omega)]
  rfl
 ·rw [List.getElem?_eq_none k, List.getElem?_eq_none (by omega)]
  rfl
def turn (l : List UInt8) (i : Nat) : List UInt8 := l.set (i / 8) (l.getD (i / 8) 0 ^^^ UInt8.ofNat (2 ^ (i % 8)))
theorem turn_length (l : List UInt8) (i : Nat) : (turn l i).length = l.length := List.length_set
theorem pow_lt8 (i : Nat) : 2 ^ (i % 8) < 256 := by
 have : 2 ^ (i % 8) ≤ 2 ^ 7 := Nat.pow_le_pow_right (by omega) (by omega)
 omega
theorem bit_turn (l : List UInt8) (i j : Nat) (h : i < 8 * l.length) : bit (turn l i) j = (bit l j ^^ decide (j = i)) := by
 unfold bit turn
 simp only [List.getD_eq_getElem?_getD, List.getElem?_set]
 by_cases hj : i / 8 = j / 8
 ·rw [if_pos hj, if_pos (by omega)]
  simp only [Option.getD_some, xor_toNat, Nat.testBit_xor]
  rw [hj]
  congr 1
  rw [UInt8.toNat_ofNat', Nat.mod_eq_of_lt (pow_lt8 i), Nat.testBit_two_pow]
  exact decide_eq_decide.2 (by omega)
 ·rw [if_neg hj, show decide (j = i) = false from decide_eq_false (by omega), Bool.xor_false]
def Turned (l out : List UInt8) (p X i : Nat) : Prop := out.length = l.length ∧ ∀ j, bit out j = (bit l j ^^ (decide (p ≤ j ∧ j < i) && X.testBit (j - p)))
theorem Turned.start (l : List UInt8) (p X : Nat) : Turned l l p X p := ⟨rfl, fun j => by
 rw [show decide (p ≤ j ∧ j < p) = false from decide_eq_false (by omega)]
 simp⟩
theorem Turned.odd {l out : List UInt8} {p X i : Nat} (h : Turned l out p X i) (hi : i < 8 * l.length) (hp : p ≤ i) (ho : X / 2 ^ (i - p) % 2 = 1) : Turned l (turn out i) p X (i + 1) := by
 refine ⟨(turn_length _ _).trans h.1, fun j => ?_⟩
 rw [bit_turn out i j (by rw [h.1]; exact hi), h.2 j, Bool.xor_assoc]
 congr 1
 by_cases hj : j = i
 ·subst hj
  rw [show decide (p ≤ j ∧ j < j) = false from decide_eq_false (by omega), show decide (p ≤ j ∧ j < j + 1) = true from decide_eq_true (by omega), Nat.testBit_eq_decide_div_mod_eq, ho]
  simp
 ·rw [show decide (j = i) = false from decide_eq_false hj, Bool.xor_false, show decide (p ≤ j ∧ j < i + 1) = decide (p ≤ j ∧ j < i) from decide_eq_decide.2 (by omega)]
theorem Turned.even {l out : List UInt8} {p X i : Nat} (h : Turned l out p X i) (ho : ¬ X / 2 ^ (i - p) % 2 = 1) : Turned l out p X (i + 1) := by
 refine ⟨h.1, fun j => ?_⟩
 rw [h.2 j]
 congr 1
 by_cases hj : j = i
 ·subst hj
  rw [show decide (p ≤ j ∧ j < j) = false from decide_eq_false (by omega), Nat.testBit_eq_decide_div_mod_eq, show decide (X / 2 ^ (j - p) % 2 = 1) = false from decide_eq_false ho]
  simp
 ·rw [show decide (p ≤ j ∧ j < i + 1) = decide (p ≤ j ∧ j < i) from decide_eq_decide.2 (by omega)]
def TurnedAll (l out : List UInt8) (p X : Nat) : Prop := out.length = l.length ∧ ∀ j, j < 8 * l.length → bit out j = (bit l j ^^ (decide (p ≤ j) && X.testBit (j - p)))
theorem Turned.all {l out : List UInt8} {p X i : Nat} (h : Turned l out p X i) (hp : p ≤ i) (he : X / 2 ^ (i - p) = 0 ∨ 8 * l.length ≤ i) : TurnedAll l out p X := by
 refine ⟨h.1, fun j hj => ?_⟩
 rw [h.2 j]
 congr 1
 by_cases hi : j < i
 ·rw [show decide (p ≤ j ∧ j < i) = decide (p ≤ j) from decide_eq_decide.2 (by omega)]
 ·rcases he with he | he
  ·have hz : X.testBit (j - p) = false := by
    have hlt : X < 2 ^ (i - p) := by
     rcases Nat.lt_or_ge X (2 ^ (i - p)) with k | k
     ·exact k
     ·have := Nat.div_pos k (Nat.two_pow_pos _)
      omega
    exact Nat.testBit_lt_two_pow (Nat.lt_of_lt_of_le hlt (Nat.pow_le_pow_right (by omega) (by omega)))
   rw [hz, Bool.and_false, Bool.and_false]
  ·omega
theorem sum_same {a b : List UInt8} (hl : a.length = b.length) (h : sum a = sum b) : reg 0 (List.zipWith (· ^^^ ·) a b) = 0 := by
 have h1 := reg_lt a (r := ones) (by decide)
 have h2 := reg_lt b (r := ones) (by decide)
 have he : reg ones a = reg ones b := by unfold sum ones at *; omega
 have := reg_xor a b hl ones ones
 rwa [he, Nat.xor_self, Nat.xor_self] at this
theorem turned_sum {l out : List UInt8} {p X : Nat} (h : TurnedAll l out p X) (hp : p < 8 * l.length) (hX : X < 4294967296) (ho : X % 2 = 1) : sum l ≠ sum out := by
 intro hs
 have hz := sum_same h.1.symm hs
 have hlen : (List.zipWith (· ^^^ ·) l out).length = l.length := by rw [List.length_zipWith, h.1, Nat.min_self]
 have hb : ∀ j, j < 8 * l.length → bit (List.zipWith (· ^^^ ·) l out) j = (decide (p ≤ j) && X.testBit (j - p)) := fun j hj => by
  rw [bit_mix l out h.1.symm, h.2 j hj, ← Bool.xor_assoc, Bool.xor_self, Bool.false_xor]
 generalize hd : List.zipWith (· ^^^ ·) l out = d at hz hlen hb
 have e : bitsL d = List.replicate p false ++ (List.range (min 32 (8 * l.length - p))).map (fun k => X.testBit k) ++ List.replicate (8 * l.length - p - min 32 (8 * l.length - p)) false := by
  apply List.ext_getElem?
  intro j
  rw [List.append_assoc]
  by_cases hj : j < 8 * l.length
  ·rw [bitsL_get d j (by rw [hlen]; exact hj), hb j hj]
   by_cases h1 : j < p
   ·rw [List.getElem?_append_left (by rw [List.length_replicate]; exact h1), List.getElem?_replicate_of_lt h1, show decide (p ≤ j) = false from decide_eq_false (by omega), Bool.false_and]
   ·rw [List.getElem?_append_right (by rw [List.length_replicate]; omega), List.length_replicate, show decide (p ≤ j) = true from decide_eq_true (by omega), Bool.true_and]
    by_cases h2 : j - p < min 32 (8 * l.length - p)
    ·rw [List.getElem?_append_left (by rw [List.length_map, List.length_range]; exact h2), List.getElem?_map, List.getElem?_range h2]
     rfl
    ·rw [List.getElem?_append_right (by rw [List.length_map, List.length_range]; omega), List.length_map, List.length_range, List.getElem?_replicate_of_lt (by omega)]
     have : X < 2 ^ (j - p) := Nat.lt_of_lt_of_le (show X < 2 ^ 32 by simpa using hX) (Nat.pow_le_pow_right (by omega) (by omega))
     rw [Nat.testBit_lt_two_pow this]
  ·rw [List.getElem?_eq_none (by rw [bitsL_length, hlen]; omega), List.getElem?_eq_none (by simp only [List.length_append, List.length_replicate, List.length_map, List.length_range]; omega)]
 rw [reg_feed, e] at hz
 refine feed_burst p _ _ (by rw [List.length_map, List.length_range]; omega) ⟨true, ?_, rfl⟩ hz
 refine List.mem_map.2 ⟨0, List.mem_range.2 (by omega), ?_⟩
 rw [Nat.testBit_eq_decide_div_mod_eq]
 simpa using ho
end Go.Proofs.YtbfdpibjicjagaaGreatDoor.crc
namespace Go.Proofs.YtbfdpibjicjagaaGreatDoor.crc
open Go.RowKit Go.Lib
theorem bits_xor_i64 (a b : Nat) (ha : a < 9223372036854775808) (hb : b < 9223372036854775808) : bits .xor .i64 (a : Int) (b : Int) = ((a ^^^ b : Nat) : Int) := by
 have hx : a ^^^ b < 9223372036854775808 := Nat.xor_lt_two_pow (n := 63) ha hb
 show IntKind.i64.wrap ((BitVec.ofInt 64 (a : Int) ^^^ BitVec.ofInt 64 (b : Int)).toNat : Int) = _
 rw [BitVec.toNat_xor, ofInt_u64 a (by omega), ofInt_u64 b (by omega)]
 generalize a ^^^ b = c at *
 simp [IntKind.wrap, IntKind.bits, IntKind.signed]
 omega
theorem and_one (a : Nat) (h : a < 4294967296) : bits .and .u32 (a : Int) 1 = ((a % 2 : Nat) : Int) := by
 have := u32_and_nat a 1 h (by omega)
 rw [nat_mask1] at this
 exact this
theorem xor_poly (a : Nat) (h : a < 4294967296) : bits .xor .u32 (a : Int) 2197175160 = ((a ^^^ poly : Nat) : Int) := u32_xor_nat a poly h (by decide)
theorem not_u32 (a : Nat) (h : a < 4294967296) : bits .xor .u32 4294967295 (a : Int) = ((ones - a : Nat) : Int) := by
 have := u32_xor_nat ones a (by decide) h
 rw [Nat.xor_comm, ← flip_ones h] at this
 exact this
theorem eight_any (r : Nat) (w : World) (hr : r < 4294967296) :
  Calls Tryz.prog 123 #[.int .u32 r] w fun e w' => e = .returned (.int .u32 (downs 8 r)) ∧ w = w' := by
 go_enter Tryz.func123, Tryz.ntmps123
 go_wp2
 go_loop [0, 3, 4] (fun x _ k => ∃ a n : Nat, x = .int .u32 a ∧ k = .int .i64 n ∧ n ≤ 8 ∧ a < 4294967296 ∧ downs (8 - n) a = downs 8 r) (fun _ _ k => 8 - (RowKit.intOf k).toNat)
 case atStart => exact ⟨r, 0, rfl, rfl, by omega, hr, rfl⟩
 case round =>
  obtain ⟨a, n, rfl, rfl, hn, ha, hd⟩ := hrel
  by_cases hk : n < 8
  ·have hki : (n : Int) < 8 := by omega
   have e1 := and_one a ha
   have e2 : bits .xor .u32 ((a : Int) / 2) 2197175160 = ((a / 2 ^^^ poly : Nat) : Int) := xor_poly (a / 2) (by omega)
   rw [show 8 - n = (8 - (n + 1)) + 1 by omega, downs] at hd
   by_cases ho : a % 2 = 1
   ·have ho' : ((a : Int) % 2 == 1) = true := by simp; omega
    rw [show down a = a / 2 ^^^ poly by unfold down; rw [if_pos ho]] at hd
    have H := Lib.hid hd
    clear hd
    go_wp2
    go_round
    case rel => exact ⟨a / 2 ^^^ poly, n + 1, rfl, by go_num, by omega, xor_lt (by omega) (by decide), H.out⟩
    case measure => simp [RowKit.intOf]; omega
   ·have ho' : ((a : Int) % 2 == 1) = false := by simp; omega
    rw [show down a = a / 2 by unfold down; rw [if_neg ho]] at hd
    have H := Lib.hid hd
    clear hd
    go_wp2
    go_round
    case rel => exact ⟨a / 2, n + 1, rfl, by go_num, by omega, by omega, H.out⟩
    case measure => simp [RowKit.intOf]; omega
  ·have hki : ¬ (n : Int) < 8 := by omega
   have h8 : 8 - n = 0 := by omega
   rw [h8] at hd
   have H := Lib.hid hd
   clear hd
   go_wp2
   go_ret
   exact ⟨ret_int (by rw [← H.out]; rfl), rfl⟩
theorem take_any (r : Nat) (A : Option Addr) (c B : Nat) (l : List UInt8) (w : World) (hr : r < 4294967296) (hA : Sl w B A l) (hl : l.length ≤ maxLen) :
  Calls Tryz.prog 106 #[.int .u32 r, .slice A l.length c] w fun e w' => e = .returned (.int .u32 (reg r l)) ∧ w = w' := by
 unfold maxLen at hl
 go_enter Tryz.func106, Tryz.ntmps106
 go_wp2
 go_loop [0, 6, 9] (fun x _ k => ∃ a n : Nat, x = .int .u32 a ∧ k = .int .i64 n ∧ n ≤ l.length ∧ a < 4294967296 ∧ reg a (l.drop n) = reg r l) (fun _ _ k => l.length - (RowKit.intOf k).toNat)
 case atStart => exact ⟨r, 0, rfl, rfl, by omega, hr, rfl⟩
 case round =>
  obtain ⟨a, n, rfl, rfl, hn, ha, hd⟩ := hrel
  by_cases hk : n < l.length
  ·have hki : (n : Int) < (l.length : Int) := by omega
   obtain ⟨b, off, rfl, hb, hc⟩ := hA (by omega)
   have h0 := hc n hk
   have hd : reg (downs 8 (a ^^^ l[n].toNat)) (l.drop (n + 1)) = reg r l := by
    rw [List.drop_eq_getElem_cons hk] at hd
    exact hd
   have hy := l[n].toNat_lt
   unfold by8 at h0
   generalize l[n].toNat = y at h0 hd hy
   have e1 : bits .xor .u32 (a : Int) (y : Int) = ((a ^^^ y : Nat) : Int) := u32_xor_nat a y ha (by omega)
   have hlt : a ^^^ y < 4294967296 := xor_lt ha (by omega)
   have H := Lib.hid hd
   clear hd hc
   go_wp2_with (go_at_call 123; (with_reducible refine (eight_any _ _ hlt).mono ?_); rintro e w' ⟨rfl, rfl⟩)
   go_round
   case rel => exact ⟨downs 8 (a ^^^ y), n + 1, rfl, by go_num, by omega, downs_lt 8 hlt, H.out⟩
   case measure => simp [RowKit.intOf]; omega
  ·have hki : ¬ (n : Int) < (l.length : Int) := by omega
   rw [List.drop_eq_nil_of_le (by omega)] at hd
   have H := Lib.hid hd
   clear hd
   go_wp2
   go_ret
   exact ⟨ret_int (by rw [← H.out]; rfl), rfl⟩
theorem finish_any (r : Nat) (w : World) (hr : r < 4294967296) :
  Calls Tryz.prog 105 #[.int .u32 r] w fun e w' => e = .returned (.int .i64 ((ones - r : Nat) : Int)) ∧ w = w' := by
 have e1 : bits .xor .u32 IntKind.u32.max (r : Int) = ((ones - r : Nat) : Int) := not_u32 r hr
 have hlt : ((ones - r : Nat) : Int) ≤ 4294967295 := by unfold ones; omega
 generalize ones - r = y at e1 hlt
 have hw : wrap64 (y : Int) = (y : Int) := by unfold wrap64; omega
 go_enter Tryz.func105, Tryz.ntmps105
 go_wp2
 go_ret
 exact ⟨rfl, rfl⟩
theorem of_any (A : Option Addr) (c B : Nat) (l : List UInt8) (w : World) (hA : Sl w B A l) (hl : l.length ≤ maxLen) :
  Calls Tryz.prog 90 #[.slice A l.length c] w fun e w' => e = .returned (.int .i64 (sum l)) ∧ w = w' := by
 have cT : Calls Tryz.prog 106 #[.int .u32 4294967295, .slice A l.length c] w fun e w' => e = .returned (.int .u32 (reg ones l)) ∧ w = w' := take_any ones A c B l w (by decide) hA hl
 have cF : Calls Tryz.prog 105 #[.int .u32 (reg ones l)] w fun e w' => e = .returned (.int .i64 (sum l)) ∧ w = w' := finish_any (reg ones l) w (reg_lt l (by decide))
 go_enter Tryz.func90, Tryz.ntmps90
 go_wp2_with (first
  | (go_at_call 106; (with_reducible refine cT.mono ?_); rintro e w' ⟨rfl, rfl⟩)
  | (go_at_call 105; (with_reducible refine cF.mono ?_); rintro e w' ⟨rfl, rfl⟩))
 go_ret
 exact ⟨rfl, rfl⟩
theorem ref_down (r : Nat) (w : World) (hr : r < 4294967296) :
  Calls Tryz.prog 120 #[.int .i64 r] w fun e w' => e = .returned (.int .i64 (down r)) ∧ w = w' := by
 have e2 : bits .xor .i64 ((r : Int) / 2) 2197175160 = ((r / 2 ^^^ poly : Nat) : Int) := bits_xor_i64 (r / 2) poly (by omega) (by decide)
 by_cases ho : r % 2 = 1
 ·have ho' : ((r : Int) % 2 == 1) = true := by simp; omega
  have hd : down r = r / 2 ^^^ poly := by unfold down; rw [if_pos ho]
  rw [hd]
  clear hd
  go_enter Tryz.func120, Tryz.ntmps120
  go_wp2
  go_ret
  exact ⟨rfl, rfl⟩
 ·have ho' : ((r : Int) % 2 == 1) = false := by simp; omega
  have hd : down r = r / 2 := by unfold down; rw [if_neg ho]
  rw [hd]
  clear hd
  go_enter Tryz.func120, Tryz.ntmps120
  go_wp2
  go_ret
  exact ⟨rfl, rfl⟩
theorem ref_eight (r : Nat) (w : World) (hr : r < 4294967296) :
  Calls Tryz.prog 102 #[.int .i64 r] w fun e w' => e = .returned (.int .i64 (downs 8 r)) ∧ w = w' := by
 go_enter Tryz.func102, Tryz.ntmps102
 go_wp2
 go_loop [0, 3] (fun x k => ∃ a n : Nat, x = .int .i64 a ∧ k = .int .i64 n ∧ n ≤ 8 ∧ a < 4294967296 ∧ downs (8 - n) a = downs 8 r) (fun _ k => 8 - (RowKit.intOf k).toNat)
 case atStart => exact ⟨r, 0, rfl, rfl, by omega, hr, rfl⟩
 case round =>
  obtain ⟨a, n, rfl, rfl, hn, ha, hd⟩ := hrel
  by_cases hk : n < 8
  ·have hki : (n : Int) < 8 := by omega
   rw [show 8 - n = (8 - (n + 1)) + 1 by omega, downs] at hd
   have H := Lib.hid hd
   clear hd
   go_wp2_with (go_at_call 120; (with_reducible refine (ref_down _ _ ha).mono ?_); rintro e w' ⟨rfl, rfl⟩)
   go_round
   case rel => exact ⟨down a, n + 1, rfl, by go_num, by omega, down_lt ha, H.out⟩
   case measure => simp [RowKit.intOf]; omega
  ·have hki : ¬ (n : Int) < 8 := by omega
   have h8 : 8 - n = 0 := by omega
   rw [h8] at hd
   have H := Lib.hid hd
   clear hd
   go_wp2
   go_ret
   exact ⟨ret_int (by rw [← H.out]; rfl), rfl⟩
end Go.Proofs.YtbfdpibjicjagaaGreatDoor.crc
namespace Go.Proofs.YtbfdpibjicjagaaGreatDoor.crc
open Go.RowKit Go.Lib
theorem ref_more (s : Nat) (A : Option Addr) (c B : Nat) (l : List UInt8) (w : World) (hs : s < 4294967296) (hA : Sl w B A l) (hl : l.length ≤ maxLen) :
  Calls Tryz.prog 87 #[.int .i64 s, .slice A l.length c] w fun e w' => e = .returned (.int .i64 (more s l)) ∧ w = w' := by
 unfold maxLen at hl
 have e0 : (4294967295 : Int) - (s : Int) = ((ones - s : Nat) : Int) := by unfold ones; omega
 have hlt : ones - s < 4294967296 := by unfold ones; omega
 have HM : Hid (more s l = ones - reg (ones - s) l) := by show _ = _; rfl
 generalize ones - s = r at *
 go_enter Tryz.func87, Tryz.ntmps87
 go_wp2
 go_loop [5, 6] (fun x k => ∃ a n : Nat, x = .int .i64 a ∧ k = .int .i64 n ∧ n ≤ l.length ∧ a < 4294967296 ∧ reg a (l.drop n) = reg r l) (fun _ k => l.length - (RowKit.intOf k).toNat)
 case atStart => exact ⟨r, 0, by rw [← e0], rfl, by omega, hlt, rfl⟩
 case round =>
  obtain ⟨a, n, rfl, rfl, hn, ha, hd⟩ := hrel
  by_cases hk : n < l.length
  ·have hki : (n : Int) < (l.length : Int) := by omega
   obtain ⟨b, off, rfl, hb, hc⟩ := hA (by omega)
   have h0 := hc n hk
   have hd : reg (downs 8 (a ^^^ l[n].toNat)) (l.drop (n + 1)) = reg r l := by
    rw [List.drop_eq_getElem_cons hk] at hd
    exact hd
   have hy := l[n].toNat_lt
   unfold by8 at h0
   generalize l[n].toNat = y at h0 hd hy
   have e1 : bits .xor .i64 (a : Int) (y : Int) = ((a ^^^ y : Nat) : Int) := bits_xor_i64 a y (by omega) (by omega)
   have hlt' : a ^^^ y < 4294967296 := xor_lt ha (by omega)
   have H := Lib.hid hd
   clear hd hc
   go_wp2_with (go_at_call 102; (with_reducible refine (ref_eight _ _ hlt').mono ?_); rintro e w' ⟨rfl, rfl⟩)
   go_round
   case rel => exact ⟨downs 8 (a ^^^ y), n + 1, rfl, by go_num, by omega, downs_lt 8 hlt', H.out⟩
   case measure => simp [RowKit.intOf]; omega
  ·have hki : ¬ (n : Int) < (l.length : Int) := by omega
   rw [List.drop_eq_nil_of_le (by omega)] at hd
   have H : Hid (a = reg r l) := hd
   clear hd
   go_wp2
   go_ret
   exact ⟨ret_int (by rw [HM.out, ← H.out]; unfold ones; omega), rfl⟩
theorem ref_sum (A : Option Addr) (c B : Nat) (l : List UInt8) (w : World) (hA : Sl w B A l) (hl : l.length ≤ maxLen) :
  Calls Tryz.prog 74 #[.slice A l.length c] w fun e w' => e = .returned (.int .i64 (sum l)) ∧ w = w' := by
 have cM : Calls Tryz.prog 87 #[.int .i64 0, .slice A l.length c] w fun e w' => e = .returned (.int .i64 (sum l)) ∧ w = w' := ref_more 0 A c B l w (by omega) hA hl
 go_enter Tryz.func74, Tryz.ntmps74
 go_wp2_with (go_at_call 87; (with_reducible refine cM.mono ?_); rintro e w' ⟨rfl, rfl⟩)
 go_ret
 exact ⟨rfl, rfl⟩
theorem xor_u8 (x y : UInt8) : bits .xor .u8 (x.toNat : Int) (y.toNat : Int) = ((x ^^^ y).toNat : Int) := by
 have := u8_xor_nat x.toNat y.toNat x.toNat_lt y.toNat_lt
 rw [← xor_toNat] at this
 exact this
end Go.Proofs.YtbfdpibjicjagaaGreatDoor.crc
