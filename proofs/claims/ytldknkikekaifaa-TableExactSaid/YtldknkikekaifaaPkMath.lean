/-
  Numbers as bytes, the lowest first: plain mathematics. No condition beyond each law's own.
-/
import Derived.Test.YtldknkikekaifaaBytes
namespace Go.Proofs.Ytldknkikekaifaa.pck

/-- The k lowest bytes of n, the lowest first. -/
def le : Nat → Nat → List UInt8
  | 0, _ => []
  | k + 1, n => UInt8.ofNat (n % 256) :: le k (n / 256)
/-- The number that bytes are, the lowest first. -/
def num : List UInt8 → Nat
  | [] => 0
  | x :: l => x.toNat + 256 * num l

theorem le_length (k n : Nat) : (le k n).length = k := by
  induction k generalizing n with
  | zero => rfl
  | succ k ih => simp [le, ih]
theorem byte_toNat (n : Nat) : (UInt8.ofNat (n % 256)).toNat = n % 256 := by
  rw [UInt8.toNat_ofNat']
  omega
theorem num_le (k n : Nat) (h : n < 256 ^ k) : num (le k n) = n := by
  induction k generalizing n with
  | zero => simp at h; simp [le, num, h]
  | succ k ih =>
    have h2 : n / 256 < 256 ^ k := by
      rw [Nat.pow_succ] at h
      exact Nat.div_lt_of_lt_mul (by rw [Nat.mul_comm]; exact h)
    simp only [le, num, byte_toNat, ih _ h2]
    omega
theorem num_lt (l : List UInt8) : num l < 256 ^ l.length := by
  induction l with
  | nil => simp [num]
  | cons x l ih =>
    have := x.toNat_lt
    simp only [num, List.length_cons, Nat.pow_succ]
    omega
theorem le_num (l : List UInt8) : le l.length (num l) = l := by
  induction l with
  | nil => rfl
  | cons x l ih =>
    have hx := x.toNat_lt
    have h1 : (x.toNat + 256 * num l) % 256 = x.toNat := by omega
    have h2 : (x.toNat + 256 * num l) / 256 = num l := by omega
    simp only [num, List.length_cons, le, h1, h2, ih]
    simp
theorem le_inj {k n m : Nat} (hn : n < 256 ^ k) (hm : m < 256 ^ k) (h : le k n = le k m) : n = m := by
  have := num_le k n hn
  rw [h, num_le k m hm] at this
  exact this.symm
theorem num_append (a b : List UInt8) : num (a ++ b) = num a + 256 ^ a.length * num b := by
  induction a with
  | nil => simp [num]
  | cons x a ih =>
    simp only [List.cons_append, num, ih, List.length_cons, Nat.pow_succ]
    rw [Nat.mul_add, Nat.add_assoc, ← Nat.mul_assoc, Nat.mul_comm (256 ^ a.length) 256]

/-- 1, 2 or 4. -/
def Sz (k : Nat) : Prop := k = 1 ∨ k = 2 ∨ k = 4
theorem Sz.pos {k : Nat} (h : Sz k) : 0 < k := by unfold Sz at h; omega
theorem Sz.le4 {k : Nat} (h : Sz k) : k ≤ 4 := by unfold Sz at h; omega
/-- n is a number of s bytes. -/
def Fits (n s : Int) : Prop := ∃ (k m : Nat), s = k ∧ n = m ∧ Sz k ∧ m < 256 ^ k
theorem pow_le {k m : Nat} (hk : Sz k) (h : m < 256 ^ k) : m < 4294967296 := by
  rcases hk with rfl | rfl | rfl <;> omega

theorem num_one (l : List UInt8) (h : l.length = 1) : num l = l[0].toNat := by
  match l, h with
  | [a], _ => simp [num]
theorem num_two (l : List UInt8) (h : l.length = 2) : num l = l[0].toNat + 256 * l[1].toNat := by
  match l, h with
  | [a, b], _ => simp [num]
theorem num_four (l : List UInt8) (h : l.length = 4) : num l = l[0].toNat + 256 * l[1].toNat + 65536 * l[2].toNat + 16777216 * l[3].toNat := by
  match l, h with
  | [a, b, c, d], _ => simp [num]; omega
theorem le_one (n : Nat) : le 1 n = [UInt8.ofNat (n % 256)] := rfl
theorem le_two (n : Nat) : le 2 n = [UInt8.ofNat (n % 256), UInt8.ofNat (n / 256 % 256)] := rfl
theorem le_four (n : Nat) : le 4 n = [UInt8.ofNat (n % 256), UInt8.ofNat (n / 256 % 256), UInt8.ofNat (n / 65536 % 256), UInt8.ofNat (n / 16777216 % 256)] := by
  simp only [le, Nat.div_div_eq_div_mul]
theorem or_bytes (a b k : Nat) (h : a < 2 ^ k) : a ||| b * 2 ^ k = a + b * 2 ^ k := by
  rw [Nat.or_comm, Nat.mul_comm, ← Nat.two_pow_add_eq_or_of_lt h b]
  omega
end Go.Proofs.Ytldknkikekaifaa.pck
