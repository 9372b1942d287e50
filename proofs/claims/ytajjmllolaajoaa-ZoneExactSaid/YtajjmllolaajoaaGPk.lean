/-
  Numbers as bytes, the lowest first: plain mathematics. No condition beyond each law's own.
  The program's inner functions for numbers as bytes, each by its contract. Conditions: slices shorter than 2^40.
  The program's exported functions for numbers as bytes, each by its contract. Conditions: slices shorter than 2^40.
  Rows of numbers put and got, by the program, each by its contract. Conditions: rows shorter than 2^20.
-/
import Derived.Test.YtajjmllolaajoaaBytes
import Derived.Test.YtajjmllolaajoaaKeep
import Derived.Laws.BitsAllLaws
import Derived.Deep.RegionHeld3
import Derived.Lib.Hide
import Derived.Test.YtajjmllolaajoaaKeepInts
namespace Go.Proofs.Ytajjmllolaajoaa.pck

/-- The k lowest bytes of n, the lowest first. -/
def le : Nat → Nat → List UInt8
  | 0, _ => []
  | k + 1, n => UInt8.ofNat (n % 256) :: le k (n / 256)
/-- The number that bytes are, the lowest first. -/
def num : List UInt8 → Nat
  | [] => 0
  | x :: l => x.toNat + 256 * num l

theorem le_length (k n : Nat) : (le k n).length = k := by
  induction k generalizing n with
  | zero => rfl
  | succ k ih => simp [le, ih]
theorem byte_toNat (n : Nat) : (UInt8.ofNat (n % 256)).toNat = n % 256 := by
  rw [UInt8.toNat_ofNat']
  omega
theorem num_le (k n : Nat) (h : n < 256 ^ k) : num (le k n) = n := by
  induction k generalizing n with
  | zero => simp at h; simp [le, num, h]
  | succ k ih =>
    have h2 : n / 256 < 256 ^ k := by
      rw [Nat.pow_succ] at h
      exact Nat.div_lt_of_lt_mul (by rw [Nat.mul_comm]; exact h)
    simp only [le, num, byte_toNat, ih _ h2]
    omega
theorem num_lt (l : List UInt8) : num l < 256 ^ l.length := by
  induction l with
  | nil => simp [num]
  | cons x l ih =>
    have := x.toNat_lt
    simp only [num, List.length_cons, Nat.pow_succ]
    omega
theorem le_num (l : List UInt8) : le l.length (num l) = l := by
  induction l with
  | nil => rfl
  | cons x l ih =>
    have hx := x.toNat_lt
    have h1 : (x.toNat + 256 * num l) % 256 = x.toNat := by omega
    have h2 : (x.toNat + 256 * num l) / 256 = num l := by omega
    simp only [num, List.length_cons, le, h1, h2, ih]
    simp
theorem le_inj {k n m : Nat} (hn : n < 256 ^ k) (hm : m < 256 ^ k) (h : le k n = le k m) : n = m := by
  have := num_le k n hn
  rw [h, num_le k m hm] at this
  exact this.symm
theorem num_append (a b : List UInt8) : num (a ++ b) = num a + 256 ^ a.length * num b := by
  induction a with
  | nil => simp [num]
  | cons x a ih =>
    simp only [List.cons_append, num, ih, List.length_cons, Nat.pow_succ]
    rw [Nat.mul_add, Nat.add_assoc, ← Nat.mul_assoc, Nat.mul_comm (256 ^ a.length) 256]

/-- 1, 2 or 4. -/
def Sz (k : Nat) : Prop := k = 1 ∨ k = 2 ∨ k = 4
theorem Sz.pos {k : Nat} (h : Sz k) : 0 < k := by unfold Sz at h; omega
theorem Sz.le4 {k : Nat} (h : Sz k) : k ≤ 4 := by unfold Sz at h; omega
/-- n is a number of s bytes. -/
def Fits (n s : Int) : Prop := ∃ (k m : Nat), s = k ∧ n = m ∧ Sz k ∧ m < 256 ^ k
theorem pow_le {k m : Nat} (hk : Sz k) (h : m < 256 ^ k) : m < 4294967296 := by
  rcases hk with rfl | rfl | rfl <;> omega

theorem num_one (l : List UInt8) (h : l.length = 1) : num l = l[0].toNat := by
  match l, h with
  | [a], _ => simp [num]
theorem num_two (l : List UInt8) (h : l.length = 2) : num l = l[0].toNat + 256 * l[1].toNat := by
  match l, h with
  | [a, b], _ => simp [num]
theorem num_four (l : List UInt8) (h : l.length = 4) : num l = l[0].toNat + 256 * l[1].toNat + 65536 * l[2].toNat + 16777216 * l[3].toNat := by
  match l, h with
  | [a, b, c, d], _ => simp [num]; omega
theorem le_one (n : Nat) : le 1 n = [UInt8.ofNat (n % 256)] := rfl
theorem le_two (n : Nat) : le 2 n = [UInt8.ofNat (n % 256), UInt8.ofNat (n / 256 % 256)] := rfl
theorem le_four (n : Nat) : le 4 n = [UInt8.ofNat (n % 256), UInt8.ofNat (n / 256 % 256), UInt8.ofNat (n / 65536 % 256), UInt8.ofNat (n / 16777216 % 256)] := by
  simp only [le, Nat.div_div_eq_div_mul]
theorem or_bytes (a b k : Nat) (h : a < 2 ^ k) : a ||| b * 2 ^ k = a + b * 2 ^ k := by
  rw [Nat.or_comm, Nat.mul_comm, ← Nat.two_pow_add_eq_or_of_lt h b]
  omega
end Go.Proofs.Ytajjmllolaajoaa.pck

namespace Go.Proofs.Ytajjmllolaajoaa.pck
open Go.RowKit Go.Lib

theorem as_11 (v : Value) (W : World) : (Instr.typeAssert (.iface 5 v) 20 5 true).run Try.prog W = .ok (.tuple #[v, .bool true]) W := by kernel_rfl
theorem as_41 (v : Value) (W : World) : (Instr.typeAssert (.iface 77 v) 20 5 true).run Try.prog W = .ok (.tuple #[.int .u8 0, .bool false]) W := by kernel_rfl
theorem as_44 (v : Value) (W : World) : (Instr.typeAssert (.iface 77 v) 20 77 false).run Try.prog W = .ok v W := by kernel_rfl
theorem cells_one (n : Nat) (h : n < 256) : (#[Value.int .u8 (n : Int)]).toList = cells8 (le 1 n) := by
  simp only [le_one, cells8, List.map_cons, List.map_nil, by8, byte_toNat]
  rw [Nat.mod_eq_of_lt h]
theorem cells_two (n : Nat) (h : n < 65536) : (#[Value.int .u8 ((n : Int) % 256), .int .u8 ((n : Int) / 256)]).toList = cells8 (le 2 n) := by
  simp only [le_two, cells8, List.map_cons, List.map_nil, by8, byte_toNat]
  rw [Nat.mod_eq_of_lt (show n / 256 < 256 by omega)]
  rfl
theorem cells_four (n : Nat) (h : n < 4294967296) : (#[Value.int .u8 ((n : Int) % 256), .int .u8 ((n : Int) / 256 % 256), .int .u8 ((n : Int) / 65536 % 256), .int .u8 ((n : Int) / 16777216)]).toList = cells8 (le 4 n) := by
  simp only [le_four, cells8, List.map_cons, List.map_nil, by8, byte_toNat]
  rw [Nat.mod_eq_of_lt (show n / 16777216 < 256 by omega)]
  rfl
theorem src_new {W : World} {g : Nat} {t : TypeId} {fr : Nat × Nat} {cs : Array Value} {l : List UInt8} (c : Nat) (hg : W.heap[g]? = some (.cells cs t fr)) (hcs : cs.toList = cells8 l) : Src Try.prog 1 31 (.slice (some ⟨g, 0, none⟩) l.length c) l.length (cells8 l) W :=
  (Sl.of_block hg hcs (Nat.lt_succ_self g)).src Try.underlying31 c

theorem or_step (a b k : Nat) (ha : a < 2 ^ k) (hb : b * 2 ^ k < 4294967296) (hs : a < 4294967296) : bits .or .u32 (a : Int) ((b * 2 ^ k : Nat) : Int) = ((a + b * 2 ^ k : Nat) : Int) := by
  rw [u32_or_nat a (b * 2 ^ k) hs hb, or_bytes a b k ha]
theorem or_four (a a1 a2 a3 : Nat) (x0 : a < 256) (x1 : a1 < 256) (x2 : a2 < 256) (x3 : a3 < 256) :
    bits .or .u32 (bits .or .u32 (bits .or .u32 (a : Int) ((a1 : Int) * 256)) ((a2 : Int) * 65536)) ((a3 : Int) * 16777216) = ((a + 256 * a1 + 65536 * a2 + 16777216 * a3 : Nat) : Int) := by
  have e1 := or_step a a1 8 (by omega) (by omega) (by omega)
  have e2 := or_step (a + a1 * 2 ^ 8) a2 16 (by omega) (by omega) (by omega)
  have e3 := or_step (a + a1 * 2 ^ 8 + a2 * 2 ^ 16) a3 24 (by omega) (by omega) (by omega)
  rw [show ((a1 : Int) * 256) = ((a1 * 2 ^ 8 : Nat) : Int) by omega, show ((a2 : Int) * 65536) = ((a2 * 2 ^ 16 : Nat) : Int) by omega, show ((a3 : Int) * 16777216) = ((a3 * 2 ^ 24 : Nat) : Int) by omega, e1, e2, e3]
  congr 1
  omega
theorem ret_box {a b : Int} (h : a = b) : Ending.returned (.iface 77 (.int .u32 a)) = .returned (.iface 77 (.int .u32 b)) := by rw [h]
theorem not_fits {n s : Int} (h : ¬ Fits n s) : ¬ (s = 1 ∨ s = 2 ∨ s = 4) ∨ ∃ k : Nat, s = k ∧ Sz k ∧ (n < 0 ∨ 256 ^ k ≤ n) := by
  by_cases hs : s = 1 ∨ s = 2 ∨ s = 4
  · refine .inr ⟨s.toNat, by omega, by unfold Sz; omega, ?_⟩
    by_cases h0 : n < 0
    · exact .inl h0
    · refine .inr ?_
      by_cases h1 : 256 ^ s.toNat ≤ n
      · exact h1
      · refine absurd ⟨s.toNat, n.toNat, by omega, by omega, by unfold Sz; omega, ?_⟩ h
        have : ((256 ^ s.toNat : Nat) : Int) = 256 ^ s.toNat := by simp
        omega
  · exact .inl hs
end Go.Proofs.Ytajjmllolaajoaa.pck

namespace Go.Proofs.Ytajjmllolaajoaa.pck
open Go.RowKit Go.Lib

/-- What take answers where all is right: the number, and the rest, which is a piece of what came in. -/
def Took (B k : Nat) (l : List UInt8) (e : Ending) (w' : World) : Prop :=
  ∃ b' off' c', e = .returned (.tuple #[.int .i64 (num (l.take k)), .slice (some ⟨b', off', none⟩) (l.length - k) c', .int .i64 0]) ∧ Sl w' B (some ⟨b', off', none⟩) (l.drop k) ∧ l.length - k ≤ c' ∧ c' ≤ maxLen

theorem nil_eq (n c : Nat) (W : World) : (binOp .eql 31 (.slice none n c) (.slice none 0 0)).run Try.prog W = .ok (.bool true) W := by kernel_rfl
theorem some_eq (a : Addr) (n c : Nat) (W : World) : (binOp .eql 31 (.slice (some a) n c) (.slice none 0 0)).run Try.prog W = .ok (.bool false) W := by kernel_rfl
set_option maxRecDepth 100000 in
theorem clone_any (A : Option Addr) (c B n : Nat) (l : List UInt8) (w : World) (hln : l.length = n) (hA : Sl w B A l) (hl : n ≤ 1099511627776) :
    Calls Try.prog 39 #[.slice A n c] w fun e w' => One w.heap.size l e w' ∧ Below w.heap.size w w' := by
  cases A with
  | none =>
    have h0 : l = [] := List.eq_nil_of_length_eq_zero (by
      rcases Nat.eq_zero_or_pos l.length with h | h
      · exact h
      · obtain ⟨b, off, he, _⟩ := hA h
        cases he)
    subst h0
    subst hln
    have q := nil_eq
    go_enter Try.func39, Try.ntmps39
    go_wp2
    go_ret
    exact ⟨⟨_, rfl, own_nil _ _ _⟩, Below.refl _ _⟩
  | some a =>
    have hsrc : ∀ o : Obj, Src Try.prog 1 31 (.slice (some a) n c) l.length (cells8 l) (w.alloc o) := fun o => by
      subst hln
      by_cases h0 : 0 < l.length
      · obtain ⟨b, off, ha, hb, hc⟩ := hA h0
        have hlt : b < w.heap.size := World.block_lt_of_cell? w ⟨b, off + 0, none⟩ (hc 0 h0)
        have hA' : Sl w w.heap.size (some a) l := fun _ => ⟨b, off, ha, hlt, hc⟩
        exact ((hA'.below ((Below.refl _ _).alloc (Nat.le_refl _) o)).more (Nat.le_refl _)).src Try.underlying31 c
      · have : l = [] := List.eq_nil_of_length_eq_zero (by omega)
        subst this
        exact (Sl.nil _ 0 _).src Try.underlying31 c
    have q := some_eq
    go_enter Try.func39, Try.ntmps39
    go_wp2_with (first
      | (at_builtin
         refine wpList_app8 _ rfl (.tmp 5) (.tmp 6) _ _ rfl w.heap.size 5 t8 (.slice (some ⟨w.heap.size, 0, none⟩) 0 0) [] rfl (own_made _ _ 0 _ #[] (Nat.le_refl _) (by simp) rfl) _ l rfl (hsrc _) ?_ ?_ ?_
         · simp only [List.length_nil]; omega
         · simp
         intro v2 w2 hown2 hg2 hat2))
    go_ret
    exact ⟨⟨v2, rfl, hown2⟩, ((Below.refl _ _).alloc (Nat.le_refl _) _).grown hg2 (by simp) (fun q hq => by cases hq; exact Nat.le_refl _)⟩

/-- What Put, Row and Part answer where all is right. -/
def Put (base : Nat) (l : List UInt8) (e : Ending) (w' : World) : Prop := ∃ v, e = .returned (.tuple #[v, .int .i64 0]) ∧ Own w' base 5 v l
theorem make0 (cap base : Nat) (W : World) (hc : cap ≤ 1099511627776) (hb : base ≤ W.heap.size) :
    ∃ w', (Instr.makeSlice 31 (.int .i64 0) (.int .i64 (cap : Int))).run Try.prog W = .ok (.slice (some ⟨W.heap.size, 0, none⟩) 0 cap) w' ∧
      Own w' base 5 (.slice (some ⟨W.heap.size, 0, none⟩) 0 cap) [] ∧ W.grownBy w' none := by
  obtain ⟨ht, _, i, hi, hz, h1, hb8⟩ := t8
  obtain ⟨w', hr, ho, hg⟩ := run_make_own (P := Try.prog) W base 31 5 i (.int .u8 0) 1 ht hi hz h1 .i64 .i64 cap (by rw [hb8]; omega) (by unfold maxLen; omega) hb
  exact ⟨w', hr, ho, hg⟩
theorem own_far {w : World} {base : Nat} {e : TypeId} {v : Value} {l : List UInt8} (h : Own w base e v l) : ∀ q, v.ownBlock = some q → base ≤ q := fun q hq => (World.ownsRow.lt h q hq).1

/-- What Get answers where all is right. -/
def Got (base k : Nat) (l : List UInt8) (e : Ending) (w' : World) : Prop := ∃ v, e = .returned (.tuple #[.int .i64 (num (l.take k)), v, .int .i64 0]) ∧ Own w' base 5 v (l.drop k)
/-- What Unpart answers where all is right. -/
def Parted (base : Nat) (l r : List UInt8) (e : Ending) (w' : World) : Prop := ∃ v u, e = .returned (.tuple #[v, u, .int .i64 0]) ∧ Own w' base 5 v l ∧ Own w' base 5 u r
end Go.Proofs.Ytajjmllolaajoaa.pck

namespace Go.Proofs.Ytajjmllolaajoaa.pck
open Go.RowKit Go.Lib

/-- Each number fits in its size. -/
def AllFit (ps : List (Int × Int)) : Prop := ∀ p ∈ ps, Fits p.1 p.2
/-- The numbers, each in its size, one behind the other. -/
def bytesOf (ps : List (Int × Int)) : List UInt8 := ps.flatMap fun p => le p.2.toNat p.1.toNat
theorem bytesOf_append (a b : List (Int × Int)) : bytesOf (a ++ b) = bytesOf a ++ bytesOf b := by simp [bytesOf]
theorem bytesOf_le {ps : List (Int × Int)} (h : AllFit ps) : (bytesOf ps).length ≤ 4 * ps.length := by
  induction ps with
  | nil => simp [bytesOf]
  | cons p ps ih =>
    have h1 := ih fun q hq => h q (List.mem_cons_of_mem _ hq)
    obtain ⟨k, m, hs, -, hk, -⟩ := h p List.mem_cons_self
    have h2 : bytesOf (p :: ps) = le p.2.toNat p.1.toNat ++ bytesOf ps := by simp [bytesOf]
    rw [h2, List.length_append, le_length, hs, Int.toNat_natCast, List.length_cons]
    have := hk.le4
    omega

/-- What Row answers where there are as many sizes as numbers. -/
def Rowed (base : Nat) (ps : List (Int × Int)) (e : Ending) (w' : World) : Prop :=
  (AllFit ps ∧ Put base (bytesOf ps) e w') ∨ (¬ AllFit ps ∧ e = .returned (.tuple #[.slice none 0 0, .int .i64 1]))
/-- What Unrow comes to: the numbers and the rest, or the error of the first one that has one. -/
def unrow : List Int → List UInt8 → Except Int (List Int × List UInt8)
  | [], b => .ok ([], b)
  | s :: ss, b =>
    if s = 1 ∨ s = 2 ∨ s = 4 then
      if b.length < s.toNat then .error 4
      else match unrow ss (b.drop s.toNat) with
        | .ok (l, r) => .ok ((num (b.take s.toNat) : Int) :: l, r)
        | .error x => .error x
    else .error 1
/-- The same, behind numbers that were read already. -/
def behind (l : List Int) : Except Int (List Int × List UInt8) → Except Int (List Int × List UInt8)
  | .ok (t, r) => .ok (l ++ t, r)
  | .error x => .error x
theorem behind_nil (r : Except Int (List Int × List UInt8)) : behind [] r = r := by
  cases r with
  | ok p => rfl
  | error x => rfl
theorem behind_next {l : List Int} {s : Int} {ss : List Int} {b : List UInt8} (hs : s = 1 ∨ s = 2 ∨ s = 4) (hb : ¬ b.length < s.toNat) :
    behind l (unrow (s :: ss) b) = behind (l ++ [(num (b.take s.toNat) : Int)]) (unrow ss (b.drop s.toNat)) := by
  rw [unrow, if_pos hs, if_neg hb]
  cases unrow ss (b.drop s.toNat) with
  | ok p => simp [behind]
  | error x => rfl
/-- What Unrow answers. -/
def Unrowed (base : Nat) (r : Except Int (List Int × List UInt8)) (e : Ending) (w' : World) : Prop :=
  match r with
  | .ok (l, b) => ∃ v u, e = .returned (.tuple #[v, u, .int .i64 0]) ∧ OwnV w' base 3 v (ints l) ∧ Own w' base 5 u b
  | .error x => e = .returned (.tuple #[.slice none 0 0, .slice none 0 0, .int .i64 x])
end Go.Proofs.Ytajjmllolaajoaa.pck
