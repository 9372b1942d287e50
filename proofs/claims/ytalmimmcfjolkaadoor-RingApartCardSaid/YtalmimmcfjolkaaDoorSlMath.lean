/-
  Sectors as bytes: plain mathematics. No run of the program stands here; the conditions are those that each fact names.
-/
import Derived.Test.YtalmimmcfjolkaaDoorGSum
import Derived.Test.YtalmimmcfjolkaaDoorGPk
namespace Go.Proofs.YtalmimmcfjolkaaDoor.sel
open Go.Proofs.YtalmimmcfjolkaaDoor.crc Go.Proofs.YtalmimmcfjolkaaDoor.pck

/-- A sector's bytes, but for the sum. -/
def body (a s : Nat) (l : List UInt8) : List UInt8 := le 1 l.length ++ l ++ (le 2 a ++ le 4 s)
/-- A sector's bytes. -/
def enc (a s : Nat) (l : List UInt8) : List UInt8 := body a s l ++ le 4 (sum (body a s l))
theorem body_length (a s : Nat) (l : List UInt8) : (body a s l).length = l.length + 7 := by simp [body, le_length]; omega
theorem enc_length (a s : Nat) (l : List UInt8) : (enc a s l).length = l.length + 11 := by rw [enc, List.length_append, body_length, le_length]
/-- What Make answers: its error, and the bytes. -/
structure Mk where
  err : Nat
  bytes : List UInt8
def OkS (a s : Int) : Prop := 0 ≤ a ∧ a < 65536 ∧ 0 ≤ s ∧ s < 4294967296
instance (a s : Int) : Decidable (OkS a s) := by unfold OkS; infer_instance
def made (a s : Int) (l : List UInt8) : Mk := if OkS a s then (if 96 < l.length then ⟨2, []⟩ else ⟨0, enc a.toNat s.toNat l⟩) else ⟨1, []⟩
/-- What Open answers: its error, and the sector. -/
structure Opn where
  err : Nat
  addr : Nat
  stamp : Nat
  load : List UInt8
def no (e : Nat) : Opn := ⟨e, 0, 0, []⟩
def Whole (b : List UInt8) : Prop := num (b.drop (b.length - 4)) = sum (b.take (b.length - 4))
instance (b : List UInt8) : Decidable (Whole b) := by unfold Whole; infer_instance
def opened (b : List UInt8) : Opn :=
  if b.length < 11 ∨ 107 < b.length then no 4
  else if Whole b then
    (if num (b.take 1) = b.length - 11 then ⟨0, num ((b.drop (b.length - 10)).take 2), num ((b.drop (b.length - 8)).take 4), (b.drop 1).take (b.length - 11)⟩ else no 4)
  else no 5

theorem made_ok {a s : Nat} {l : List UInt8} (ha : a < 65536) (hs : s < 4294967296) (hl : l.length ≤ 96) : made a s l = ⟨0, enc a s l⟩ := by
  unfold made
  rw [if_pos (show OkS a s from ⟨by omega, by omega, by omega, by omega⟩), if_neg (by omega), Int.toNat_natCast, Int.toNat_natCast]
theorem made_err {a s : Int} {l : List UInt8} (h : (made a s l).err ≠ 0) : (made a s l).bytes = [] := by
  unfold made at h ⊢
  by_cases h1 : OkS a s
  · rw [if_pos h1] at h ⊢
    by_cases h2 : 96 < l.length
    · rw [if_pos h2]
    · rw [if_neg h2] at h
      exact absurd rfl h
  · rw [if_neg h1]
theorem made_zero {a s : Int} {l : List UInt8} (h : (made a s l).err = 0) : ∃ x y : Nat, a = x ∧ s = y ∧ x < 65536 ∧ y < 4294967296 ∧ l.length ≤ 96 ∧ (made a s l).bytes = enc x y l := by
  unfold made at *
  split at h
  · rename_i ho
    obtain ⟨h1, h2, h3, h4⟩ := ho
    split at h
    · cases h
    · refine ⟨a.toNat, s.toNat, by omega, by omega, by omega, by omega, by omega, ?_⟩
      rw [if_pos ⟨h1, h2, h3, h4⟩, if_neg (by omega)]
  · cases h

theorem num_le' {k n : Nat} (h : n < 256 ^ k) (t : List UInt8) : num ((le k n ++ t).take k) = n := by
  rw [List.take_left' (le_length k n)]
  exact num_le k n h
theorem enc_take (a s : Nat) (l : List UInt8) : (enc a s l).take ((enc a s l).length - 4) = body a s l := by
  rw [enc_length, enc, List.take_left' (by rw [body_length]; omega)]
theorem enc_drop (a s : Nat) (l : List UInt8) : (enc a s l).drop ((enc a s l).length - 4) = le 4 (sum (body a s l)) := by
  rw [enc_length, enc, List.drop_left' (by rw [body_length]; omega)]
theorem enc_whole (a s : Nat) (l : List UInt8) : Whole (enc a s l) := by
  unfold Whole
  rw [enc_take, enc_drop]
  exact num_le 4 _ (by have := sum_lt (body a s l); simpa using this)
theorem enc_tail (a s : Nat) (l : List UInt8) : enc a s l = (le 1 l.length ++ l) ++ (le 2 a ++ (le 4 s ++ le 4 (sum (body a s l)))) := by
  simp [enc, body]
theorem enc_ten (a s : Nat) (l : List UInt8) : (enc a s l).drop ((enc a s l).length - 10) = le 2 a ++ (le 4 s ++ le 4 (sum (body a s l))) := by
  rw [enc_length, enc_tail, List.drop_left' (by simp [le_length]; omega)]
theorem enc_eight (a s : Nat) (l : List UInt8) : (enc a s l).drop ((enc a s l).length - 8) = le 4 s ++ le 4 (sum (body a s l)) := by
  rw [enc_length, enc_tail, ← List.append_assoc _ (le 2 a), List.drop_left' (by simp [le_length]; omega)]
theorem enc_load (a s : Nat) (l : List UInt8) : ((enc a s l).drop 1).take l.length = l := by
  rw [enc_tail, List.append_assoc, List.drop_left' (le_length 1 _), List.take_left' rfl]
theorem enc_first (a s : Nat) {l : List UInt8} (hl : l.length < 256) : num ((enc a s l).take 1) = l.length := by
  rw [enc_tail, List.append_assoc]
  exact num_le' (by simpa using hl) _
/-- What is made is opened. -/
theorem opened_enc {a s : Nat} {l : List UInt8} (ha : a < 65536) (hs : s < 4294967296) (hl : l.length ≤ 96) : opened (enc a s l) = ⟨0, a, s, l⟩ := by
  unfold opened
  rw [if_neg (by rw [enc_length]; omega), if_pos (enc_whole a s l), if_pos (by rw [enc_first a s (by omega), enc_length]; omega), enc_ten, enc_eight, num_le' (by simpa using ha), num_le' (by simpa using hs), enc_length, Nat.add_sub_cancel, enc_load]
theorem enc_inj {a s a' s' : Nat} {l l' : List UInt8} (ha : a < 65536) (hs : s < 4294967296) (hl : l.length ≤ 96) (ha' : a' < 65536) (hs' : s' < 4294967296) (hl' : l'.length ≤ 96) (h : enc a s l = enc a' s' l') : a = a' ∧ s = s' ∧ l = l' := by
  have := opened_enc ha hs hl
  rw [h, opened_enc ha' hs' hl'] at this
  simp only [Opn.mk.injEq, true_and] at this
  exact ⟨this.1.symm, this.2.1.symm, this.2.2.symm⟩

theorem cut_append {α : Type} (b : List α) (i k : Nat) : b.drop i = (b.drop i).take k ++ b.drop (i + k) := by
  conv => lhs; rw [← List.take_append_drop k (b.drop i), List.drop_drop]
theorem le_of (k : Nat) (x : List UInt8) (h : x.length = k) : le k (num x) = x := by
  subst h
  exact le_num x
/-- What is opened is made to the same bytes. -/
theorem enc_opened {b : List UInt8} (h : (opened b).err = 0) : enc (opened b).addr (opened b).stamp (opened b).load = b ∧ (opened b).addr < 65536 ∧ (opened b).stamp < 4294967296 ∧ (opened b).load.length ≤ 96 := by
  unfold opened at *
  split at h
  · cases h
  · rename_i hn
    rw [if_neg hn]
    split at h
    · rename_i hw
      rw [if_pos hw]
      split at h
      · rename_i h1
        rw [if_pos h1]
        obtain ⟨n, hlen⟩ : ∃ n, b.length = n + 11 := ⟨b.length - 11, by omega⟩
        unfold Whole at hw
        rw [hlen] at hw h1 ⊢
        have d10 : ((b.drop (n + 1)).take 2).length = 2 := by rw [List.length_take, List.length_drop]; omega
        have d8 : ((b.drop (n + 3)).take 4).length = 4 := by rw [List.length_take, List.length_drop]; omega
        have dl : ((b.drop 1).take n).length = n := by rw [List.length_take, List.length_drop]; omega
        have d1 : (b.take 1).length = 1 := by rw [List.length_take]; omega
        have d4 : (b.drop (n + 7)).length = 4 := by rw [List.length_drop]; omega
        simp only [show n + 11 - 11 = n by omega, show n + 11 - 10 = n + 1 by omega, show n + 11 - 8 = n + 3 by omega, show n + 11 - 4 = n + 7 by omega] at *
        have e0 : b.take (n + 7) = b.take 1 ++ ((b.drop 1).take n ++ ((b.drop (n + 1)).take 2 ++ (b.drop (n + 3)).take 4)) := by
          have := cut_append b 0 1
          rw [List.drop_zero, Nat.zero_add] at this
          have h2 := cut_append b 1 n
          have h3 := cut_append b (n + 1) 2
          have h4 := cut_append b (n + 3) 4
          rw [Nat.add_comm 1 n] at h2
          rw [show n + 1 + 2 = n + 3 by omega] at h3
          rw [show n + 3 + 4 = n + 7 by omega] at h4
          have hb : b = (b.take 1 ++ ((b.drop 1).take n ++ ((b.drop (n + 1)).take 2 ++ (b.drop (n + 3)).take 4))) ++ b.drop (n + 7) := by
            conv => lhs; rw [this, h2, h3, h4]
            simp
          have hl : (b.take 1 ++ ((b.drop 1).take n ++ ((b.drop (n + 1)).take 2 ++ (b.drop (n + 3)).take 4))).length = n + 7 := by
            simp only [List.length_append, d10, d8, dl, d1]; omega
          conv => lhs; rw [hb]
          exact List.take_left' hl
        have f1 : le 1 n = b.take 1 := by rw [← h1, le_of 1 _ d1]
        have eb : body (num ((b.drop (n + 1)).take 2)) (num ((b.drop (n + 3)).take 4)) ((b.drop 1).take n) = b.take (n + 7) := by
          unfold body
          rw [dl, f1, le_of 2 _ d10, le_of 4 _ d8, e0, List.append_assoc]
        refine ⟨?_, ?_, ?_, by show ((b.drop 1).take n).length ≤ 96; omega⟩
        · unfold enc
          rw [eb, ← hw, le_of 4 _ d4, List.take_append_drop]
        · have := num_lt ((b.drop (n + 1)).take 2)
          rw [d10] at this
          exact this
        · have := num_lt ((b.drop (n + 3)).take 4)
          rw [d8] at this
          exact this
      · cases h
    · cases h
theorem opened_err {b : List UInt8} (h : (opened b).err ≠ 0) : opened b = no (opened b).err := by
  unfold opened at *
  split
  · rfl
  · split
    · split
      · rename_i h1 h2 h3
        rw [if_neg h1, if_pos h2, if_pos h3] at h
        exact absurd rfl h
      · rfl
    · rfl
theorem opened_short {b : List UInt8} (h : b.length < 11 ∨ 107 < b.length) : opened b = no 4 := by
  unfold opened
  rw [if_pos h]

/- The register behind bytes and their sum is always the same. -/
theorem low_gone (r : Nat) : r ^^^ r % 256 = 256 * (r / 256) := by
  have h1 : (r ^^^ r % 256) % 256 = 0 := by
    have := Nat.xor_mod_two_pow (a := r) (b := r % 256) (n := 8)
    simp only [Nat.reducePow, Nat.mod_mod] at this
    rw [this, Nat.xor_self]
  have h2 : (r ^^^ r % 256) / 256 = r / 256 := by
    have := Nat.xor_div_two_pow (a := r) (b := r % 256) (n := 8)
    simp only [Nat.reducePow] at this
    rw [this, show r % 256 / 256 = 0 by omega, Nat.xor_zero]
  omega
theorem downs_byte (q : Nat) : downs 8 (256 * q) = q := by
  have : 256 * q = 2 * (2 * (2 * (2 * (2 * (2 * (2 * (2 * q))))))) := by omega
  rw [this]
  simp only [downs, down_double]
theorem reg_self (k r : Nat) (h : r < 256 ^ k) : reg r (le k r) = 0 := by
  induction k generalizing r with
  | zero => simp at h; subst h; rfl
  | succ k ih =>
    show reg (downs 8 (r ^^^ (UInt8.ofNat (r % 256)).toNat)) (le k (r / 256)) = 0
    rw [byte_toNat, low_gone, downs_byte]
    refine ih _ ?_
    rw [Nat.pow_succ] at h
    exact Nat.div_lt_of_lt_mul (by rw [Nat.mul_comm]; exact h)
theorem le_xor (k a b : Nat) : le k (a ^^^ b) = List.zipWith (· ^^^ ·) (le k a) (le k b) := by
  induction k generalizing a b with
  | zero => rfl
  | succ k ih =>
    have h1 := Nat.xor_mod_two_pow (a := a) (b := b) (n := 8)
    have h2 := Nat.xor_div_two_pow (a := a) (b := b) (n := 8)
    simp only [Nat.reducePow] at h1 h2
    rw [le, le, le, List.zipWith_cons_cons, ← ih, h2]
    congr 1
    apply UInt8.toNat_inj.1
    rw [xor_toNat, byte_toNat, byte_toNat, byte_toNat, h1]
theorem residue (x : List UInt8) : reg ones (x ++ le 4 (sum x)) = reg 0 (le 4 ones) := by
  have hr := reg_lt x (r := ones) (by decide)
  rw [reg_append, sum, flip_ones hr, le_xor]
  have := reg_xor (le 4 (reg ones x)) (le 4 ones) (by rw [le_length, le_length]) (reg ones x) 0
  rw [Nat.xor_zero] at this
  rw [this, reg_self 4 _ (by simpa using hr), Nat.zero_xor]
theorem whole_sum {b : List UInt8} (h : Whole b) (h4 : 4 ≤ b.length) : sum b = ones - reg 0 (le 4 ones) := by
  have e : b = b.take (b.length - 4) ++ le 4 (sum (b.take (b.length - 4))) := by
    unfold Whole at h
    rw [← h, le_of 4 _ (by rw [List.length_drop]; omega), List.take_append_drop]
  unfold sum
  rw [e, residue]
/-- Up to 32 bits side by side that are turned spoil a sector. -/
theorem flipped_not {l out : List UInt8} {p X : Nat} (hw : Whole l) (h4 : 4 ≤ l.length) (h : TurnedAll l out p X) (hp : p < 8 * l.length) (hX : X < 4294967296) (ho : X % 2 = 1) : ¬ Whole out := by
  intro hn
  have := turned_sum h hp hX ho
  rw [whole_sum hw h4, whole_sum hn (by rw [h.1]; exact h4)] at this
  exact this rfl
theorem opened_flipped {l out : List UInt8} {p X : Nat} (hw : Whole l) (h11 : 11 ≤ l.length) (h107 : l.length ≤ 107) (h : TurnedAll l out p X) (hp : p < 8 * l.length) (hX : X < 4294967296) (ho : X % 2 = 1) : opened out = no 5 := by
  unfold opened
  have := h.1
  rw [if_neg (by omega), if_neg (flipped_not hw (by omega) h hp hX ho)]

theorem byte_bits {x y : UInt8} (h : ∀ k, k < 8 → x.toNat.testBit k = y.toNat.testBit k) : x = y := by
  apply UInt8.toNat_inj.1
  apply Nat.eq_of_testBit_eq
  intro i
  by_cases hi : i < 8
  · exact h i hi
  · have hx := x.toNat_lt
    have hy := y.toNat_lt
    have hp : 256 ≤ 2 ^ i := by
      have : 2 ^ 8 ≤ 2 ^ i := Nat.pow_le_pow_right (by omega) (by omega)
      simpa using this
    rw [Nat.testBit_lt_two_pow (by omega), Nat.testBit_lt_two_pow (by omega)]
theorem bit_get (l : List UInt8) (i k : Nat) (hk : k < 8) (hi : i < l.length) : bit l (8 * i + k) = l[i].toNat.testBit k := by
  unfold bit
  rw [show (8 * i + k) / 8 = i by omega, show (8 * i + k) % 8 = k by omega, List.getD_eq_getElem?_getD, List.getElem?_eq_getElem hi]
  rfl
theorem same_bits {a b : List UInt8} (hl : a.length = b.length) (h : ∀ j, j < 8 * a.length → bit a j = bit b j) : a = b := by
  apply List.ext_getElem hl
  intro i h1 h2
  apply byte_bits
  intro k hk
  have := h (8 * i + k) (by omega)
  rwa [bit_get a i k hk h1, bit_get b i k hk h2] at this
theorem turned_same {l a b : List UInt8} {p X : Nat} (h : TurnedAll l a p X) (k : TurnedAll l b p X) : a = b :=
  same_bits (h.1.trans k.1.symm) fun j hj => by rw [h.2 j (by rw [← h.1]; exact hj), k.2 j (by rw [← h.1]; exact hj)]
theorem turned_twice {l a b : List UInt8} {p X : Nat} (h : TurnedAll l a p X) (k : TurnedAll a b p X) : b = l :=
  same_bits (k.1.trans h.1) fun j hj => by
    have e1 := k.1
    have e2 := h.1
    rw [k.2 j (by omega), h.2 j (by omega), Bool.xor_assoc, Bool.xor_self, Bool.xor_false]
theorem turned_other {l a : List UInt8} {p X : Nat} (h : TurnedAll l a p X) (hp : p < 8 * l.length) (ho : X % 2 = 1) : l ≠ a := by
  intro e
  subst e
  have := h.2 p hp
  rw [Nat.sub_self, Nat.testBit_zero, ho] at this
  simp at this
theorem turned_nil (p X : Nat) : TurnedAll [] [] p X := ⟨rfl, fun j h => by simp at h⟩
end Go.Proofs.YtalmimmcfjolkaaDoor.sel
