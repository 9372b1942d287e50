/-
  The bytewise xor of byte strings, as plain mathematics. No condition.
-/
import Derived.Test.YthdahdopejapmaaBytes
namespace Go.Proofs.Ythdahdopejapmaa.par

/-- The xor of two. -/
def zx (a b : List UInt8) : List UInt8 := List.zipWith (· ^^^ ·) a b
def zeros (n : Nat) : List UInt8 := List.replicate n 0
/-- The xor of all. -/
def xall (n : Nat) (ls : List (List UInt8)) : List UInt8 := ls.foldl zx (zeros n)
/-- Each has n bytes. -/
def AllLen (n : Nat) (ls : List (List UInt8)) : Prop := ∀ l ∈ ls, l.length = n

theorem zeros_length (n : Nat) : (zeros n).length = n := by simp [zeros]
theorem zx_length {a b : List UInt8} {n : Nat} (ha : a.length = n) (hb : b.length = n) : (zx a b).length = n := by simp [zx, ha, hb]
theorem zx_get {a b : List UInt8} {i : Nat} (h : i < (zx a b).length) : (zx a b)[i] = a[i]'(by simp [zx] at h; omega) ^^^ b[i]'(by simp [zx] at h; omega) := by simp [zx]
theorem zx_comm (a b : List UInt8) : zx a b = zx b a := by
  unfold zx
  rw [List.zipWith_comm]
  congr 1
  funext x y
  exact UInt8.xor_comm y x
theorem zx_assoc (a b c : List UInt8) : zx (zx a b) c = zx a (zx b c) := by
  unfold zx
  induction a generalizing b c with
  | nil => simp
  | cons x a ih => cases b <;> cases c <;> simp [ih, UInt8.xor_assoc]
theorem zx_zeros {a : List UInt8} {n : Nat} (ha : a.length = n) : zx a (zeros n) = a := by
  subst ha
  unfold zx zeros
  induction a with
  | nil => rfl
  | cons x a ih => simp [List.replicate_succ, ih]
theorem zeros_zx {a : List UInt8} {n : Nat} (ha : a.length = n) : zx (zeros n) a = a := by rw [zx_comm, zx_zeros ha]
theorem zx_self {a : List UInt8} {n : Nat} (ha : a.length = n) : zx a a = zeros n := by
  subst ha
  unfold zx zeros
  induction a with
  | nil => rfl
  | cons x a ih => rw [List.zipWith_cons_cons, ih, List.length_cons, List.replicate_succ, UInt8.xor_self]
theorem zx_twice {a b : List UInt8} {n : Nat} (ha : a.length = n) (hb : b.length = n) : zx (zx a b) b = a := by rw [zx_assoc, zx_self hb, zx_zeros ha]
theorem zx_swap (a b c : List UInt8) : zx (zx a b) c = zx (zx a c) b := by rw [zx_assoc, zx_comm b c, zx_assoc]

theorem AllLen.nil (n : Nat) : AllLen n [] := fun l h => by cases h
theorem AllLen.cons {n : Nat} {l : List UInt8} {ls : List (List UInt8)} (h : l.length = n) (k : AllLen n ls) : AllLen n (l :: ls) := fun x hx => by
  rcases List.mem_cons.1 hx with rfl | hx
  · exact h
  · exact k x hx
theorem AllLen.head {n : Nat} {l : List UInt8} {ls : List (List UInt8)} (h : AllLen n (l :: ls)) : l.length = n := h l List.mem_cons_self
theorem AllLen.tail {n : Nat} {l : List UInt8} {ls : List (List UInt8)} (h : AllLen n (l :: ls)) : AllLen n ls := fun x hx => h x (List.mem_cons_of_mem _ hx)
theorem AllLen.append {n : Nat} {a b : List (List UInt8)} (h : AllLen n a) (k : AllLen n b) : AllLen n (a ++ b) := fun x hx => (List.mem_append.1 hx).elim (h x) (k x)
theorem AllLen.left {n : Nat} {a b : List (List UInt8)} (h : AllLen n (a ++ b)) : AllLen n a := fun x hx => h x (List.mem_append_left _ hx)
theorem AllLen.right {n : Nat} {a b : List (List UInt8)} (h : AllLen n (a ++ b)) : AllLen n b := fun x hx => h x (List.mem_append_right _ hx)
theorem AllLen.get {n : Nat} {ls : List (List UInt8)} (h : AllLen n ls) {i : Nat} (hi : i < ls.length) : ls[i].length = n := h _ (List.getElem_mem hi)

theorem fold_length {n : Nat} {s : List UInt8} (hs : s.length = n) (ls : List (List UInt8)) (h : AllLen n ls) : (ls.foldl zx s).length = n := by
  induction ls generalizing s with
  | nil => exact hs
  | cons l ls ih => exact ih (zx_length hs h.head) h.tail
theorem xall_length {n : Nat} {ls : List (List UInt8)} (h : AllLen n ls) : (xall n ls).length = n := fold_length (zeros_length n) ls h
theorem fold_zx {n : Nat} {s : List UInt8} (hs : s.length = n) (ls : List (List UInt8)) (h : AllLen n ls) : ls.foldl zx s = zx s (xall n ls) := by
  induction ls generalizing s with
  | nil => exact (zx_zeros hs).symm
  | cons l ls ih =>
    show ls.foldl zx (zx s l) = zx s (ls.foldl zx (zx (zeros n) l))
    rw [ih (zx_length hs h.head) h.tail, ih (zx_length (zeros_length n) h.head) h.tail, zeros_zx h.head, zx_assoc]
theorem xall_cons {n : Nat} {l : List UInt8} {ls : List (List UInt8)} (h : AllLen n (l :: ls)) : xall n (l :: ls) = zx l (xall n ls) := by
  show ls.foldl zx (zx (zeros n) l) = _
  rw [zeros_zx h.head, fold_zx h.head ls h.tail]
theorem xall_append {n : Nat} {a b : List (List UInt8)} (ha : AllLen n a) (hb : AllLen n b) : xall n (a ++ b) = zx (xall n a) (xall n b) := by
  unfold xall
  rw [List.foldl_append]
  exact fold_zx (xall_length ha) b hb
theorem xall_one {n : Nat} {l : List UInt8} (h : l.length = n) : xall n [l] = l := by
  show zx (zeros n) l = l
  exact zeros_zx h
theorem xall_two {n : Nat} {a b : List UInt8} (ha : a.length = n) : xall n [a, b] = zx a b := by
  show zx (zx (zeros n) a) b = _
  rw [zeros_zx ha]
theorem xall_three {n : Nat} {a b c : List UInt8} (ha : a.length = n) : xall n [a, b, c] = zx (zx a b) c := by
  show zx (zx (zx (zeros n) a) b) c = _
  rw [zeros_zx ha]
theorem xall_reverse {n : Nat} {ls : List (List UInt8)} (h : AllLen n ls) : xall n ls.reverse = xall n ls := by
  induction ls with
  | nil => rfl
  | cons l ls ih =>
    have hr : AllLen n ls.reverse := fun x hx => h.tail x (List.mem_reverse.1 hx)
    rw [List.reverse_cons, xall_append hr (AllLen.cons h.head (AllLen.nil n)), ih h.tail, xall_one h.head, xall_cons h, zx_comm]
theorem split_at (ls : List (List UInt8)) {i : Nat} (hi : i < ls.length) : ls = ls.take i ++ ls[i] :: ls.drop (i + 1) := by
  rw [← List.drop_eq_getElem_cons hi, List.take_append_drop]
theorem drop_len {n : Nat} {ls : List (List UInt8)} (h : AllLen n ls) (k : Nat) : AllLen n (ls.drop k) := fun x hx => h x (List.mem_of_mem_drop hx)
theorem take_len {n : Nat} {ls : List (List UInt8)} (h : AllLen n ls) (k : Nat) : AllLen n (ls.take k) := fun x hx => h x (List.mem_of_mem_take hx)
/-- All is the one at i with the others. -/
theorem xall_at {n : Nat} {ls : List (List UInt8)} (h : AllLen n ls) {i : Nat} (hi : i < ls.length) : xall n ls = zx ls[i] (xall n (ls.take i ++ ls.drop (i + 1))) := by
  have h1 := take_len h i
  have h2 := drop_len h (i + 1)
  conv => lhs; rw [split_at ls hi]
  rw [xall_append h1 (AllLen.cons (h.get hi) h2), xall_cons (AllLen.cons (h.get hi) h2), xall_append h1 h2, ← zx_assoc, zx_comm (xall n (ls.take i)), zx_assoc]
/-- The others and the parity of all: the one at i. -/
theorem xall_lost {n : Nat} {ls : List (List UInt8)} (h : AllLen n ls) {i : Nat} (hi : i < ls.length) : xall n (ls.take i ++ ls.drop (i + 1) ++ [xall n ls]) = ls[i] := by
  have h12 : AllLen n (ls.take i ++ ls.drop (i + 1)) := (take_len h i).append (drop_len h (i + 1))
  rw [xall_append h12 (AllLen.cons (xall_length h) (AllLen.nil n)), xall_one (xall_length h), xall_at h hi, zx_comm, zx_twice (h.get hi) (xall_length h12)]
/-- The one at i exchanged. -/
theorem xall_set {n : Nat} {ls : List (List UInt8)} (h : AllLen n ls) {i : Nat} (hi : i < ls.length) {x : List UInt8} (hx : x.length = n) : xall n (ls.set i x) = zx (zx (xall n ls) ls[i]) x := by
  have h1 := take_len h i
  have h2 := drop_len h (i + 1)
  have h12 := xall_length (h1.append h2)
  rw [List.set_eq_take_append_cons_drop, if_pos hi, xall_append h1 (AllLen.cons hx h2), xall_cons (AllLen.cons hx h2), xall_at h hi, zx_comm ls[i], zx_twice h12 (h.get hi), xall_append h1 h2, zx_comm x, ← zx_assoc]
/-- Noughts, and one twice, beside. -/
theorem xall_beside {n : Nat} {ls : List (List UInt8)} (h : AllLen n ls) {x : List UInt8} (hx : x.length = n) : xall n (ls ++ [zeros n] ++ [x, x]) = xall n ls := by
  have h0 : AllLen n [zeros n] := AllLen.cons (zeros_length n) (AllLen.nil n)
  have h2 : AllLen n [x, x] := AllLen.cons hx (AllLen.cons hx (AllLen.nil n))
  rw [xall_append (h.append h0) h2, xall_append h h0, xall_two hx, xall_one (zeros_length n), zx_self hx, zx_zeros (xall_length h), zx_zeros (xall_length h)]
theorem xall_nought {n : Nat} {ls : List (List UInt8)} (h : AllLen n ls) : xall n (ls ++ [zeros n]) = xall n ls := by
  have h0 : AllLen n [zeros n] := AllLen.cons (zeros_length n) (AllLen.nil n)
  rw [xall_append h h0, xall_one (zeros_length n), zx_zeros (xall_length h)]

/-- The xor half done: the first j bytes are those of both, the others still the first's. -/
def part (a b : List UInt8) (j : Nat) : List UInt8 := (zx a b).take j ++ a.drop j
theorem part_zero (a b : List UInt8) : part a b 0 = a := by simp [part]
theorem part_full {a b : List UInt8} {n : Nat} (ha : a.length = n) (hb : b.length = n) : part a b n = zx a b := by
  unfold part
  rw [List.take_of_length_le (by rw [zx_length ha hb]; omega), List.drop_eq_nil_of_le (by omega), List.append_nil]
theorem part_length {a b : List UInt8} {n j : Nat} (ha : a.length = n) (hb : b.length = n) (hj : j ≤ n) : (part a b j).length = n := by
  unfold part
  rw [List.length_append, List.length_take, List.length_drop, zx_length ha hb]
  omega
theorem part_get {a b : List UInt8} {n j : Nat} (ha : a.length = n) (hb : b.length = n) (hj : j < n) : (part a b j)[j]'(by rw [part_length ha hb (by omega)]; exact hj) = a[j]'(by omega) := by
  have hl : ((zx a b).take j).length = j := by rw [List.length_take, zx_length ha hb]; omega
  unfold part
  rw [List.getElem_append_right (by omega)]
  simp [hl]
theorem part_set {a b : List UInt8} {n j : Nat} (ha : a.length = n) (hb : b.length = n) (hj : j < n) : (part a b j).set j (a[j]'(by omega) ^^^ b[j]'(by omega)) = part a b (j + 1) := by
  have hl : ((zx a b).take j).length = j := by rw [List.length_take, zx_length ha hb]; omega
  have hz : j < (zx a b).length := by rw [zx_length ha hb]; exact hj
  unfold part
  rw [List.set_append_right _ _ (by omega), hl, Nat.sub_self, List.take_succ_eq_append_getElem hz, zx_get hz, List.append_assoc]
  congr 1
  rw [List.drop_eq_getElem_cons (show j < a.length by omega)]
  rfl
end Go.Proofs.Ythdahdopejapmaa.par
