/-
  Numbers as bytes, the lowest first: plain mathematics. No condition beyond each law's own.
  The program's inner functions for numbers as bytes, each by its contract. Conditions: slices shorter than 2^40.
  The program's exported functions for numbers as bytes, each by its contract. Conditions: slices shorter than 2^40.
  Rows of numbers put and got, by the program, each by its contract. Conditions: rows shorter than 2^20.
  The document's own answers for numbers as bytes (as the statements' package gives them), each by its contract; 'wakes'. Conditions: slices shorter than 2^20.
-/
import Derived.Test.YtbfdpibjicjagaaGreatDoorBytes
import Derived.Test.YtbfdpibjicjagaaGreatDoorKeep
import Derived.Laws.BitsAllLaws
import Derived.Deep.RegionHeld3
import Derived.Lib.Hide
import Derived.Test.YtbfdpibjicjagaaGreatDoorKeepInts
set_option maxHeartbeats 2000000
set_option maxRecDepth 100000
namespace Go.Proofs.YtbfdpibjicjagaaGreatDoor.pck
def le : Nat → Nat → List UInt8
  | 0, _ => []
  | k + 1, n => UInt8.ofNat (n % 256) :: le k (n / 256)
def num : List UInt8 → Nat
  | [] => 0
  | x :: l => x.toNat + 256 * num l
theorem le_length (k n : Nat) : (le k n).length = k := by
  induction k generalizing n with
  | zero => rfl
  | succ k ih => simp [le, ih]
theorem byte_toNat (n : Nat) : (UInt8.ofNat (n % 256)).toNat = n % 256 := by
  rw [UInt8.toNat_ofNat']
  omega
theorem num_le (k n : Nat) (h : n < 256 ^ k) : num (le k n) = n := by
  induction k generalizing n with
  | zero => simp at h; simp [le, num, h]
  | succ k ih =>
    have h2 : n / 256 < 256 ^ k := by
      rw [Nat.pow_succ] at h
      exact Nat.div_lt_of_lt_mul (by rw [Nat.mul_comm]; exact h)
    simp only [le, num, byte_toNat, ih _ h2]
    omega
theorem num_lt (l : List UInt8) : num l < 256 ^ l.length := by
  induction l with
  | nil => simp [num]
  | cons x l ih =>
    have := x.toNat_lt
    simp only [num, List.length_cons, Nat.pow_succ]
    omega
theorem le_num (l : List UInt8) : le l.length (num l) = l := by
  induction l with
  | nil => rfl
  | cons x l ih =>
    have hx := x.toNat_lt
    have h1 : (x.toNat + 256 * num l) % 256 = x.toNat := by omega
    have h2 : (x.toNat + 256 * num l) / 256 = num l := by omega
    simp only [num, List.length_cons, le, h1, h2, ih]
    simp
def Sz (k : Nat) : Prop := k = 1 ∨ k = 2 ∨ k = 4
theorem Sz.pos {k : Nat} (h : Sz k) : 0 < k := by unfold Sz at h; omega
theorem Sz.le4 {k : Nat} (h : Sz k) : k ≤ 4 := by unfold Sz at h; omega
def Fits (n s : Int) : Prop := ∃ (k m : Nat), s = k ∧ n = m ∧ Sz k ∧ m < 256 ^ k
theorem num_one (l : List UInt8) (h : l.length = 1) : num l = l[0].toNat := by
  match l, h with
  | [a], _ => simp [num]
theorem num_two (l : List UInt8) (h : l.length = 2) : num l = l[0].toNat + 256 * l[1].toNat := by
  match l, h with
  | [a, b], _ => simp [num]
theorem num_four (l : List UInt8) (h : l.length = 4) : num l = l[0].toNat + 256 * l[1].toNat + 65536 * l[2].toNat + 16777216 * l[3].toNat := by
  match l, h with
  | [a, b, c, d], _ => simp [num]; omega
theorem le_one (n : Nat) : le 1 n = [UInt8.ofNat (n % 256)] := rfl
theorem le_two (n : Nat) : le 2 n = [UInt8.ofNat (n % 256), UInt8.ofNat (n / 256 % 256)] := rfl
theorem le_four (n : Nat) : le 4 n = [UInt8.ofNat (n % 256), UInt8.ofNat (n / 256 % 256), UInt8.ofNat (n / 65536 % 256), UInt8.ofNat (n / 16777216 % 256)] := by
  simp only [le, Nat.div_div_eq_div_mul]
theorem or_bytes (a b k : Nat) (h : a < 2 ^ k) : a ||| b * 2 ^ k = a + b * 2 ^ k := by
  rw [Nat.or_comm, Nat.mul_comm, ← Nat.two_pow_add_eq_or_of_lt h b]
  omega
end Go.Proofs.YtbfdpibjicjagaaGreatDoor.pck
namespace Go.Proofs.YtbfdpibjicjagaaGreatDoor.pck
open Go.RowKit Go.Lib
def box (k n : Nat) : Value := if k = 1 then .iface 5 (.int .u8 n) else if k = 2 then .iface 199 (.int .u16 n) else .iface 164 (.int .u32 n)
theorem box_one (n : Nat) : box 1 n = .iface 5 (.int .u8 n) := rfl
theorem box_two (n : Nat) : box 2 n = .iface 199 (.int .u16 n) := rfl
theorem box_four (n : Nat) : box 4 n = .iface 164 (.int .u32 n) := rfl
theorem as_11 (v : Value) (W : World) : (Instr.typeAssert (.iface 5 v) 20 5 true).run Tryz.prog W = .ok (.tuple #[v, .bool true]) W := by kernel_rfl
theorem as_21 (v : Value) (W : World) : (Instr.typeAssert (.iface 199 v) 20 5 true).run Tryz.prog W = .ok (.tuple #[.int .u8 0, .bool false]) W := by kernel_rfl
theorem as_22 (v : Value) (W : World) : (Instr.typeAssert (.iface 199 v) 20 199 true).run Tryz.prog W = .ok (.tuple #[v, .bool true]) W := by kernel_rfl
theorem as_41 (v : Value) (W : World) : (Instr.typeAssert (.iface 164 v) 20 5 true).run Tryz.prog W = .ok (.tuple #[.int .u8 0, .bool false]) W := by kernel_rfl
theorem as_42 (v : Value) (W : World) : (Instr.typeAssert (.iface 164 v) 20 199 true).run Tryz.prog W = .ok (.tuple #[.int .u16 0, .bool false]) W := by kernel_rfl
theorem as_44 (v : Value) (W : World) : (Instr.typeAssert (.iface 164 v) 20 164 false).run Tryz.prog W = .ok v W := by kernel_rfl
theorem value_any (k n : Nat) (w : World) (hk : Sz k) (hn : n < 256 ^ k) :
    Calls Tryz.prog 121 #[box k n] w fun e w' => e = .returned (.int .i64 n) ∧ w = w' := by
  rcases hk with rfl | rfl | rfl
  · rw [box_one]
    have a1 := as_11
    have hn' : (n : Int) < 256 := by omega
    clear hn
    go_enter Tryz.func121, Tryz.ntmps121
    go_wp2
    go_ret
    exact ⟨rfl, rfl⟩
  · rw [box_two]
    have a1 := as_21
    have a2 := as_22
    have hn' : (n : Int) < 65536 := by omega
    clear hn
    go_enter Tryz.func121, Tryz.ntmps121
    go_wp2
    go_ret
    exact ⟨rfl, rfl⟩
  · rw [box_four]
    have a1 := as_41
    have a2 := as_42
    have a3 := as_44
    have hn' : (n : Int) < 4294967296 := by omega
    clear hn
    go_enter Tryz.func121, Tryz.ntmps121
    go_wp2
    go_ret
    exact ⟨rfl, rfl⟩
theorem cells_one (n : Nat) (h : n < 256) : (#[Value.int .u8 (n : Int)]).toList = cells8 (le 1 n) := by
  simp only [le_one, cells8, List.map_cons, List.map_nil, by8, byte_toNat]
  rw [Nat.mod_eq_of_lt h]
theorem cells_two (n : Nat) (h : n < 65536) : (#[Value.int .u8 ((n : Int) % 256), .int .u8 ((n : Int) / 256)]).toList = cells8 (le 2 n) := by
  simp only [le_two, cells8, List.map_cons, List.map_nil, by8, byte_toNat]
  rw [Nat.mod_eq_of_lt (show n / 256 < 256 by omega)]
  rfl
theorem cells_four (n : Nat) (h : n < 4294967296) : (#[Value.int .u8 ((n : Int) % 256), .int .u8 ((n : Int) / 256 % 256), .int .u8 ((n : Int) / 65536 % 256), .int .u8 ((n : Int) / 16777216)]).toList = cells8 (le 4 n) := by
  simp only [le_four, cells8, List.map_cons, List.map_nil, by8, byte_toNat]
  rw [Nat.mod_eq_of_lt (show n / 16777216 < 256 by omega)]
  rfl
theorem src_new {W : World} {g : Nat} {t : TypeId} {fr : Nat × Nat} {cs : Array Value} {l : List UInt8} (c : Nat) (hg : W.heap[g]? = some (.cells cs t fr)) (hcs : cs.toList = cells8 l) : Src Tryz.prog 1 49 (.slice (some ⟨g, 0, none⟩) l.length c) l.length (cells8 l) W :=
  (Sl.of_block hg hcs (Nat.lt_succ_self g)).src Tryz.underlying49 c
theorem write_any (k n base : Nat) (v : Value) (l : List UInt8) (w : World) (hk : Sz k) (hn : n < 256 ^ k) (hown : Own w base 5 v l) (hb : base ≤ w.heap.size) (hl : l.length ≤ 1099511627776) :
    Calls Tryz.prog 116 #[v, box k n] w fun e w' => One base (l ++ le k n) e w' ∧ Below base w w' := by
  have hfar : ∀ q, v.ownBlock = some q → base ≤ q := fun q hq => (World.ownsRow.lt hown q hq).1
  rcases hk with rfl | rfl | rfl
  · rw [box_one]
    have a1 := as_11
    have hs := cells_one n (by omega)
    have hn' : (n : Int) < 256 := by omega
    clear hn
    go_enter Tryz.func116, Tryz.ntmps116
    go_wp2_with (first
      | (at_builtin
         refine wpList_app8 _ rfl (.tmp 16) (.tmp 18) _ _ rfl base 5 t8 v l rfl (hown.alloc _) _ (le 1 n) rfl (src_new 1 (heap_alloc_new _ _) hs) ?_ ?_ ?_
         · simp only [le_length]; omega
         · simp; omega
         intro v2 w2 hown2 hg2 hat2))
    go_ret
    exact ⟨⟨v2, rfl, hown2⟩, ((Below.refl _ _).alloc hb _).grown hg2 (by simp; omega) hfar⟩
  · rw [box_two]
    have a1 := as_21
    have a2 := as_22
    have hs := cells_two n (by omega)
    have hn' : (n : Int) < 65536 := by omega
    clear hn
    go_enter Tryz.func116, Tryz.ntmps116
    go_wp2_with (first
      | (at_builtin
         refine wpList_app8 _ rfl (.tmp 26) (.tmp 32) _ _ rfl base 5 t8 v l rfl (hown.alloc _) _ (le 2 n) rfl (src_new 2 (heap_alloc_new _ _) hs) ?_ ?_ ?_
         · simp only [le_length]; omega
         · simp; omega
         intro v2 w2 hown2 hg2 hat2))
    go_ret
    exact ⟨⟨v2, rfl, hown2⟩, ((Below.refl _ _).alloc hb _).grown hg2 (by simp; omega) hfar⟩
  · rw [box_four]
    have a1 := as_41
    have a2 := as_42
    have a3 := as_44
    have hs := cells_four n (by omega)
    have hn' : (n : Int) < 4294967296 := by omega
    clear hn
    go_enter Tryz.func116, Tryz.ntmps116
    go_wp2_with (first
      | (at_builtin
         refine wpList_app8 _ rfl (.tmp 36) (.tmp 48) _ _ rfl base 5 t8 v l rfl (hown.alloc _) _ (le 4 n) rfl (src_new 4 (heap_alloc_new _ _) hs) ?_ ?_ ?_
         · simp only [le_length]; omega
         · simp; omega
         intro v2 w2 hown2 hg2 hat2))
    go_ret
    exact ⟨⟨v2, rfl, hown2⟩, ((Below.refl _ _).alloc hb _).grown hg2 (by simp; omega) hfar⟩
theorem or_step (a b k : Nat) (ha : a < 2 ^ k) (hb : b * 2 ^ k < 4294967296) (hs : a < 4294967296) : bits .or .u32 (a : Int) ((b * 2 ^ k : Nat) : Int) = ((a + b * 2 ^ k : Nat) : Int) := by
  rw [u32_or_nat a (b * 2 ^ k) hs hb, or_bytes a b k ha]
theorem or_four (a a1 a2 a3 : Nat) (x0 : a < 256) (x1 : a1 < 256) (x2 : a2 < 256) (x3 : a3 < 256) :
    bits .or .u32 (bits .or .u32 (bits .or .u32 (a : Int) ((a1 : Int) * 256)) ((a2 : Int) * 65536)) ((a3 : Int) * 16777216) = ((a + 256 * a1 + 65536 * a2 + 16777216 * a3 : Nat) : Int) := by
  have e1 := or_step a a1 8 (by omega) (by omega) (by omega)
  have e2 := or_step (a + a1 * 2 ^ 8) a2 16 (by omega) (by omega) (by omega)
  have e3 := or_step (a + a1 * 2 ^ 8 + a2 * 2 ^ 16) a3 24 (by omega) (by omega) (by omega)
  rw [show ((a1 : Int) * 256) = ((a1 * 2 ^ 8 : Nat) : Int) by omega, show ((a2 : Int) * 65536) = ((a2 * 2 ^ 16 : Nat) : Int) by omega, show ((a3 : Int) * 16777216) = ((a3 * 2 ^ 24 : Nat) : Int) by omega, e1, e2, e3]
  congr 1
  omega
theorem ret_box {a b : Int} (h : a = b) : Ending.returned (.iface 164 (.int .u32 a)) = .returned (.iface 164 (.int .u32 b)) := by rw [h]
theorem read_any (k : Nat) (A : Option Addr) (c B : Nat) (l : List UInt8) (w : World) (hk : Sz k) (hl : l.length = k) (hA : Sl w B A l) :
    Calls Tryz.prog 122 #[.slice A k c] w fun e w' => e = .returned (box k (num l)) ∧ Below w.heap.size w w' := by
  rcases hk with rfl | rfl | rfl
  · rw [num_one l hl, box_one]
    obtain ⟨b, off, rfl, hb, hc⟩ := hA (by omega)
    have g0 := hc 0 (by omega)
    unfold by8 at g0
    rw [Nat.add_zero] at g0
    have x0 := l[0].toNat_lt
    generalize l[0].toNat = a at *
    clear hc hA hl
    go_enter Tryz.func122, Tryz.ntmps122
    go_wp2
    go_ret
    exact ⟨rfl, Below.refl _ _⟩
  · rw [num_two l hl, box_two]
    obtain ⟨b, off, rfl, hb, hc⟩ := hA (by omega)
    have g0 := hc 0 (by omega)
    have g1 := hc 1 (by omega)
    unfold by8 at g0 g1
    rw [Nat.add_zero] at g0
    have x0 := l[0].toNat_lt
    have x1 := l[1].toNat_lt
    generalize l[0].toNat = a at *
    generalize l[1].toNat = a1 at *
    have o1 : bits .or .u16 (a : Int) ((a1 : Int) * 256) = ((a + 256 * a1 : Nat) : Int) := by
      have := u16_or_nat a (a1 * 2 ^ 8) (by omega) (by omega)
      rw [or_bytes a a1 8 (by omega)] at this
      rw [show ((a1 : Int) * 256) = ((a1 * 2 ^ 8 : Nat) : Int) by omega, this]
      congr 1
      omega
    clear hc hA hl
    go_enter Tryz.func122, Tryz.ntmps122
    go_wp2
    go_quiet (fail)
    go_wp2
    go_ret
    exact ⟨rfl, below_dn (Below.refl _ _) _⟩
  · rw [num_four l hl, box_four]
    obtain ⟨b, off, rfl, hb, hc⟩ := hA (by omega)
    have g0 := hc 0 (by omega)
    have g1 := hc 1 (by omega)
    have g2 := hc 2 (by omega)
    have g3 := hc 3 (by omega)
    unfold by8 at g0 g1 g2 g3
    rw [Nat.add_zero] at g0
    have x0 := l[0].toNat_lt
    have x1 := l[1].toNat_lt
    have x2 := l[2].toNat_lt
    have x3 := l[3].toNat_lt
    generalize l[0].toNat = a at *
    generalize l[1].toNat = a1 at *
    generalize l[2].toNat = a2 at *
    generalize l[3].toNat = a3 at *
    clear hc hA hl
    go_enter Tryz.func122, Tryz.ntmps122
    go_wp2
    go_quiet (fail)
    go_wp2
    go_ret
    exact ⟨ret_box (or_four a a1 a2 a3 x0 x1 x2 x3), below_dn (Below.refl _ _) _⟩
theorem sized_ok (k n : Nat) (w : World) (hk : Sz k) (hn : n < 256 ^ k) :
    Calls Tryz.prog 115 #[.int .i64 n, .int .i64 k] w fun e w' => e = .returned (.tuple #[box k n, .int .i64 0]) ∧ w = w' := by
  have cV := value_any k n w hk hn
  rcases hk with rfl | rfl | rfl
  · rw [box_one] at *
    have hn' : (n : Int) < 256 := by omega
    have n1 : ((n : Int) != (n : Int)) = false := bne_self_eq_false _
    clear hn
    go_enter Tryz.func115, Tryz.ntmps115
    go_wp2_with (go_at_call 121; (with_reducible refine cV.mono ?_); rintro e w' ⟨rfl, rfl⟩)
    go_ret2
    exact ⟨rfl, rfl⟩
  · rw [box_two] at *
    have hn' : (n : Int) < 65536 := by omega
    have n1 : ((n : Int) != (n : Int)) = false := bne_self_eq_false _
    clear hn
    go_enter Tryz.func115, Tryz.ntmps115
    go_wp2_with (go_at_call 121; (with_reducible refine cV.mono ?_); rintro e w' ⟨rfl, rfl⟩)
    go_ret2
    exact ⟨rfl, rfl⟩
  · rw [box_four] at *
    have hn' : (n : Int) < 4294967296 := by omega
    have n1 : ((n : Int) != (n : Int)) = false := bne_self_eq_false _
    clear hn
    go_enter Tryz.func115, Tryz.ntmps115
    go_wp2_with (go_at_call 121; (with_reducible refine cV.mono ?_); rintro e w' ⟨rfl, rfl⟩)
    go_ret2
    exact ⟨rfl, rfl⟩
theorem sized_not (n s : Int) (w : World) (h : ¬ (s = 1 ∨ s = 2 ∨ s = 4)) :
    Calls Tryz.prog 115 #[.int .i64 n, .int .i64 s] w fun e w' => e = .returned (.tuple #[.nilIface, .int .i64 1]) ∧ w = w' := by
  have n1 : (s == 1) = false := beq_eq_false_iff_ne.2 fun k => h (.inl k)
  have n2 : (s == 2) = false := beq_eq_false_iff_ne.2 fun k => h (.inr (.inl k))
  have n3 : (s == 4) = false := beq_eq_false_iff_ne.2 fun k => h (.inr (.inr k))
  clear h
  go_enter Tryz.func115, Tryz.ntmps115
  go_wp2
  go_ret2
  exact ⟨rfl, rfl⟩
theorem sized_big (k : Nat) (n : Int) (w : World) (hk : Sz k) (hn : n < 0 ∨ 256 ^ k ≤ n) :
    Calls Tryz.prog 115 #[.int .i64 n, .int .i64 k] w fun e w' => e = .returned (.tuple #[.nilIface, .int .i64 1]) ∧ w = w' := by
  rcases hk with rfl | rfl | rfl
  · have hm : (n % 256) ≠ n := by omega
    obtain ⟨m, hm2⟩ : ∃ m : Nat, n % 256 = m := ⟨(n % 256).toNat, by omega⟩
    have cV := value_any 1 m w (.inl rfl) (by omega)
    rw [box_one, ← hm2] at cV
    have n1 : ((n % 256) != n) = true := bne_iff_ne.2 hm
    have n2 : ((n % 256) == n) = false := beq_eq_false_iff_ne.2 hm
    clear hn hm hm2
    go_enter Tryz.func115, Tryz.ntmps115
    go_wp2_with (go_at_call 121; (with_reducible refine cV.mono ?_); rintro e w' ⟨rfl, rfl⟩)
    go_ret2
    exact ⟨rfl, rfl⟩
  · have hx : IntKind.u16.wrap n = n % 65536 := by simp [IntKind.wrap, IntKind.bits, IntKind.signed]
    have hm : IntKind.u16.wrap n ≠ n := by omega
    obtain ⟨m, hm2⟩ : ∃ m : Nat, IntKind.u16.wrap n = m := ⟨(n % 65536).toNat, by omega⟩
    have cV := value_any 2 m w (.inr (.inl rfl)) (by omega)
    rw [box_two, ← hm2] at cV
    have n1 : (IntKind.u16.wrap n != n) = true := bne_iff_ne.2 hm
    have n2 : (IntKind.u16.wrap n == n) = false := beq_eq_false_iff_ne.2 hm
    clear hx
    clear hn hm hm2
    go_enter Tryz.func115, Tryz.ntmps115
    go_wp2_with (go_at_call 121; (with_reducible refine cV.mono ?_); rintro e w' ⟨rfl, rfl⟩)
    go_ret2
    exact ⟨rfl, rfl⟩
  · have hm : (n % 4294967296) ≠ n := by omega
    obtain ⟨m, hm2⟩ : ∃ m : Nat, n % 4294967296 = m := ⟨(n % 4294967296).toNat, by omega⟩
    have cV := value_any 4 m w (.inr (.inr rfl)) (by omega)
    rw [box_four, ← hm2] at cV
    have n1 : ((n % 4294967296) != n) = true := bne_iff_ne.2 hm
    have n2 : ((n % 4294967296) == n) = false := beq_eq_false_iff_ne.2 hm
    clear hn hm hm2
    go_enter Tryz.func115, Tryz.ntmps115
    go_wp2_with (go_at_call 121; (with_reducible refine cV.mono ?_); rintro e w' ⟨rfl, rfl⟩)
    go_ret2
    exact ⟨rfl, rfl⟩
theorem not_fits {n s : Int} (h : ¬ Fits n s) : ¬ (s = 1 ∨ s = 2 ∨ s = 4) ∨ ∃ k : Nat, s = k ∧ Sz k ∧ (n < 0 ∨ 256 ^ k ≤ n) := by
  by_cases hs : s = 1 ∨ s = 2 ∨ s = 4
  · refine .inr ⟨s.toNat, by omega, by unfold Sz; omega, ?_⟩
    by_cases h0 : n < 0
    · exact .inl h0
    · refine .inr ?_
      by_cases h1 : 256 ^ s.toNat ≤ n
      · exact h1
      · refine absurd ⟨s.toNat, n.toNat, by omega, by omega, by unfold Sz; omega, ?_⟩ h
        have : ((256 ^ s.toNat : Nat) : Int) = 256 ^ s.toNat := by simp
        omega
  · exact .inl hs
theorem sized_no (n s : Int) (w : World) (h : ¬ Fits n s) :
    Calls Tryz.prog 115 #[.int .i64 n, .int .i64 s] w fun e w' => e = .returned (.tuple #[.nilIface, .int .i64 1]) ∧ w = w' := by
  rcases not_fits h with h | ⟨k, rfl, hk, hn⟩
  · exact sized_not n s w h
  · exact sized_big k n w hk hn
end Go.Proofs.YtbfdpibjicjagaaGreatDoor.pck
namespace Go.Proofs.YtbfdpibjicjagaaGreatDoor.pck
open Go.RowKit Go.Lib
def Took (B k : Nat) (l : List UInt8) (e : Ending) (w' : World) : Prop :=
  ∃ b' off' c', e = .returned (.tuple #[.int .i64 (num (l.take k)), .slice (some ⟨b', off', none⟩) (l.length - k) c', .int .i64 0]) ∧ Sl w' B (some ⟨b', off', none⟩) (l.drop k) ∧ l.length - k ≤ c' ∧ c' ≤ maxLen
theorem take_ok (k n B : Nat) (A : Option Addr) (c : Nat) (l : List UInt8) (w : World) (hk : Sz k) (hln : l.length = n) (hkl : k ≤ n) (hc : n ≤ c) (hm : c ≤ maxLen) (hB : B ≤ w.heap.size) (hA : Sl w B A l) :
    Calls Tryz.prog 103 #[.slice A n c, .int .i64 k] w fun e w' => Took B k l e w' ∧ Below w.heap.size w w' := by
  have hp := hk.pos
  have h4 := hk.le4
  have cS : ∀ W, Calls Tryz.prog 115 #[.int .i64 0, .int .i64 k] W fun e w' => e = .returned (.tuple #[box k 0, .int .i64 0]) ∧ W = w' := fun W => sized_ok k 0 W hk (Nat.pow_pos (by omega))
  have hnl := num_lt (l.take k)
  rw [List.length_take, Nat.min_eq_left (by omega)] at hnl
  have cV := fun W => value_any k (num (l.take k)) W hk hnl
  obtain ⟨b, off, rfl, hb, hcl⟩ := hA (by omega)
  have cR : ∀ W, Below w.heap.size w W → Calls Tryz.prog 122 #[.slice (some ⟨b, off, none⟩) k c] W fun e w' => e = .returned (box k (num (l.take k))) ∧ Below W.heap.size W w' := fun W hW => by
    exact read_any k (some ⟨b, off, none⟩) c B (l.take k) W hk (by rw [List.length_take]; omega) ((hA.below (hW.mono hB)).take k)
  have hd : ∀ W, Below w.heap.size w W → Sl W B (some ⟨b, off + k, none⟩) (l.drop k) := fun W hW => (hA.below (hW.mono hB)).drop k
  have hT : ∀ W b' off' c', Sl W B (some ⟨b', off', none⟩) (l.drop k) → n - k ≤ c' → c' ≤ maxLen → Took B k l (.returned (.tuple #[.int .i64 (num (l.take k)), .slice (some ⟨b', off', none⟩) (n - k) c', .int .i64 0])) W := fun W b' off' c' h1 h2 h3 => ⟨b', off', c', by rw [hln], h1, by omega, h3⟩
  have hnil : c = k → ∀ W B A', Sl W B A' (l.drop k) := fun hck W B A' => by
    rw [List.drop_eq_nil_of_le (by omega)]
    exact Sl.nil _ _ _
  generalize box k (num (l.take k)) = x at *
  generalize box k 0 = x0 at *
  generalize num (l.take k) = m at *
  have i1 : (0 : Int) ≤ (k : Int) := by omega
  have i2 : (k : Int) ≤ (n : Int) := by omega
  have i3 : (k : Int) ≤ (c : Int) := by omega
  have i4 : ¬ (n : Int) < (k : Int) := by omega
  clear hA hcl hnl
  by_cases hck : c = k
  · subst hck
    obtain rfl : n = c := by omega
    clear hkl hc hln i4
    have hnil := hnil rfl
    rw [Nat.sub_self] at hT
    have e1 : ¬ (n : Int) < (n : Int) := by omega
    have e2 : (n : Int) ≤ (n : Int) := Int.le_refl _
    go_enter Tryz.func103, Tryz.ntmps103
    go_wp2_with (first
      | (go_at_call 115; (with_reducible refine (cS _).mono ?_); rintro e w1 ⟨rfl, rfl⟩))
    go_region_held3 (fun W => Below w.heap.size w W)
      (first | assumption | exact Below.refl _ _ | exact (Below.refl _ _).drew | (exact bt (by assumption) (by assumption)) | exact below_dr (by assumption))
      (first
        | (go_at_call 122; (with_reducible refine (cR _ (by assumption)).mono ?_); rintro e w2 ⟨rfl, hb2⟩)
        | (go_at_call 121; (with_reducible refine (cV _).mono ?_); rintro e w3 ⟨rfl, rfl⟩))
    all_goals
      go_wp2
      have hbw : Below w.heap.size w w2 := by first | assumption | exact bt (by assumption) (by assumption)
      go_ret3
      exact ⟨hT _ _ _ _ (hnil trivial _ _ _) (by omega) (by simp), hbw⟩
  · have i10 : ¬ (c : Int) = (k : Int) := by omega
    go_enter Tryz.func103, Tryz.ntmps103
    go_wp2_with (first
      | (go_at_call 115; (with_reducible refine (cS _).mono ?_); rintro e w1 ⟨rfl, rfl⟩))
    go_region_held3 (fun W => Below w.heap.size w W)
      (first | assumption | exact Below.refl _ _ | exact (Below.refl _ _).drew | (exact bt (by assumption) (by assumption)) | exact below_dr (by assumption))
      (first
        | (go_at_call 122; (with_reducible refine (cR _ (by assumption)).mono ?_); rintro e w2 ⟨rfl, hb2⟩)
        | (go_at_call 121; (with_reducible refine (cV _).mono ?_); rintro e w3 ⟨rfl, rfl⟩))
    all_goals
      go_wp2
      have hbw : Below w.heap.size w w2 := by first | assumption | exact bt (by assumption) (by assumption)
      go_ret3
      exact ⟨hT _ _ _ _ (hd _ hbw) (by omega) (by omega), hbw⟩
theorem take_arg (n c : Nat) (s : Int) (A : Option Addr) (w : World) (h : ¬ (s = 1 ∨ s = 2 ∨ s = 4)) :
    Calls Tryz.prog 103 #[.slice A n c, .int .i64 s] w fun e w' => e = .returned (.tuple #[.int .i64 0, .slice none 0 0, .int .i64 1]) ∧ w = w' := by
  have cS := fun W => sized_not 0 s W h
  clear h
  go_enter Tryz.func103, Tryz.ntmps103
  go_wp2_with (first
    | (go_at_call 115; (with_reducible refine (cS _).mono ?_); rintro e w1 ⟨rfl, rfl⟩))
  go_ret3
  exact ⟨rfl, rfl⟩
theorem take_short (n c k : Nat) (A : Option Addr) (w : World) (hk : Sz k) (h : n < k) :
    Calls Tryz.prog 103 #[.slice A n c, .int .i64 k] w fun e w' => e = .returned (.tuple #[.int .i64 0, .slice none 0 0, .int .i64 4]) ∧ w = w' := by
  have cS : ∀ W, Calls Tryz.prog 115 #[.int .i64 0, .int .i64 k] W fun e w' => e = .returned (.tuple #[box k 0, .int .i64 0]) ∧ W = w' := fun W => sized_ok k 0 W hk (Nat.pow_pos (by omega))
  generalize box k 0 = x at *
  have i1 : (n : Int) < (k : Int) := by omega
  clear hk h
  go_enter Tryz.func103, Tryz.ntmps103
  go_wp2_with (first
    | (go_at_call 115; (with_reducible refine (cS _).mono ?_); rintro e w1 ⟨rfl, rfl⟩))
  go_ret3
  exact ⟨rfl, rfl⟩
theorem nil_eq (n c : Nat) (W : World) : (binOp .eql 49 (.slice none n c) (.slice none 0 0)).run Tryz.prog W = .ok (.bool true) W := by kernel_rfl
theorem some_eq (a : Addr) (n c : Nat) (W : World) : (binOp .eql 49 (.slice (some a) n c) (.slice none 0 0)).run Tryz.prog W = .ok (.bool false) W := by kernel_rfl
theorem clone_any (A : Option Addr) (c B n : Nat) (l : List UInt8) (w : World) (hln : l.length = n) (hA : Sl w B A l) (hl : n ≤ 1099511627776) :
    Calls Tryz.prog 104 #[.slice A n c] w fun e w' => One w.heap.size l e w' ∧ Below w.heap.size w w' := by
  cases A with
  | none =>
    have h0 : l = [] := List.eq_nil_of_length_eq_zero (by
      rcases Nat.eq_zero_or_pos l.length with h | h
      · exact h
      · obtain ⟨b, off, he, _⟩ := hA h
        cases he)
    subst h0
    subst hln
    have q := nil_eq
    go_enter Tryz.func104, Tryz.ntmps104
    go_wp2
    go_ret
    exact ⟨⟨_, rfl, own_nil _ _ _⟩, Below.refl _ _⟩
  | some a =>
    have hsrc : ∀ o : Obj, Src Tryz.prog 1 49 (.slice (some a) n c) l.length (cells8 l) (w.alloc o) := fun o => by
      subst hln
      by_cases h0 : 0 < l.length
      · obtain ⟨b, off, ha, hb, hc⟩ := hA h0
        have hlt : b < w.heap.size := World.block_lt_of_cell? w ⟨b, off + 0, none⟩ (hc 0 h0)
        have hA' : Sl w w.heap.size (some a) l := fun _ => ⟨b, off, ha, hlt, hc⟩
        exact ((hA'.below ((Below.refl _ _).alloc (Nat.le_refl _) o)).more (Nat.le_refl _)).src Tryz.underlying49 c
      · have : l = [] := List.eq_nil_of_length_eq_zero (by omega)
        subst this
        exact (Sl.nil _ 0 _).src Tryz.underlying49 c
    have q := some_eq
    go_enter Tryz.func104, Tryz.ntmps104
    go_wp2_with (first
      | (at_builtin
         refine wpList_app8 _ rfl (.tmp 5) (.tmp 6) _ _ rfl w.heap.size 5 t8 (.slice (some ⟨w.heap.size, 0, none⟩) 0 0) [] rfl (own_made _ _ 0 _ #[] (Nat.le_refl _) (by simp) rfl) _ l rfl (hsrc _) ?_ ?_ ?_
         · simp only [List.length_nil]; omega
         · simp
         intro v2 w2 hown2 hg2 hat2))
    go_ret
    exact ⟨⟨v2, rfl, hown2⟩, ((Below.refl _ _).alloc (Nat.le_refl _) _).grown hg2 (by simp) (fun q hq => by cases hq; exact Nat.le_refl _)⟩
def Put (base : Nat) (l : List UInt8) (e : Ending) (w' : World) : Prop := ∃ v, e = .returned (.tuple #[v, .int .i64 0]) ∧ Own w' base 5 v l
theorem make0 (cap base : Nat) (W : World) (hc : cap ≤ 1099511627776) (hb : base ≤ W.heap.size) :
    ∃ w', (Instr.makeSlice 49 (.int .i64 0) (.int .i64 (cap : Int))).run Tryz.prog W = .ok (.slice (some ⟨W.heap.size, 0, none⟩) 0 cap) w' ∧
      Own w' base 5 (.slice (some ⟨W.heap.size, 0, none⟩) 0 cap) [] ∧ W.grownBy w' none := by
  obtain ⟨ht, _, i, hi, hz, h1, hb8⟩ := t8
  obtain ⟨w', hr, ho, hg⟩ := run_make_own (P := Tryz.prog) W base 49 5 i (.int .u8 0) 1 ht hi hz h1 .i64 .i64 cap (by rw [hb8]; omega) (by unfold maxLen; omega) hb
  exact ⟨w', hr, ho, hg⟩
theorem own_far {w : World} {base : Nat} {e : TypeId} {v : Value} {l : List UInt8} (h : Own w base e v l) : ∀ q, v.ownBlock = some q → base ≤ q := fun q hq => (World.ownsRow.lt h q hq).1
theorem put_ok (k m n : Nat) (A : Option Addr) (c : Nat) (l : List UInt8) (w : World) (hk : Sz k) (hm : m < 256 ^ k) (hln : l.length = n) (hl : n ≤ 4294967296) (hA : Sl w w.heap.size A l) :
    Calls Tryz.prog 100 #[.slice A n c, .int .i64 m, .int .i64 k] w fun e w' => Put w.heap.size (l ++ le k m) e w' ∧ Below w.heap.size w w' := by
  have h4 := hk.le4
  have cS := fun W => sized_ok k m W hk hm
  obtain ⟨w1, hmk, hown1, hg1⟩ := make0 (n + k) w.heap.size w (by omega) (Nat.le_refl _)
  have hb1 : Below w.heap.size w w1 := (Below.refl _ _).grown hg1 (Nat.le_refl _) (fun q hq => by cases hq)
  have hsrc : Src Tryz.prog 1 49 (.slice A n c) l.length (cells8 l) w1 := by
    subst hln
    exact (hA.below hb1).src Tryz.underlying49 c
  have cW := fun (W : World) (v : Value) (ho : Own W w.heap.size 5 v ([] ++ l)) (hb : w.heap.size ≤ W.heap.size) => write_any k m w.heap.size v ([] ++ l) W hk hm ho hb (by simp; omega)
  generalize box k m = x at *
  rw [Int.natCast_add] at hmk
  have hll : ([] : List UInt8).length + l.length ≤ 140737488355328 := by simp; omega
  have hb1s := hb1.size
  clear hA hm hk hln
  go_enter Tryz.func100, Tryz.ntmps100
  go_wp2_with (first
    | (go_at_call 115; (with_reducible refine (cS _).mono ?_); rintro e w2 ⟨rfl, rfl⟩)
    | (at_builtin
       refine wpList_app8 _ rfl (.tmp 23) (.tmp 24) _ _ rfl w.heap.size 5 t8 (.slice (some ⟨w.heap.size, 0, none⟩) 0 (n + k)) [] rfl hown1 _ l rfl hsrc hll hb1s ?_
       intro v2 w2 hown2 hg2 hat2
       have hb2 := hb1.grown hg2 hb1s (own_far hown1))
    | (go_at_call 116; (with_reducible refine (cW _ _ hown2 hb2.size).mono ?_); rintro e w3 ⟨⟨v3, rfl, hown3⟩, hb3⟩))
  go_ret2
  exact ⟨⟨_, rfl, hown3⟩, hb2.trans hb3⟩
def Got (base k : Nat) (l : List UInt8) (e : Ending) (w' : World) : Prop := ∃ v, e = .returned (.tuple #[.int .i64 (num (l.take k)), v, .int .i64 0]) ∧ Own w' base 5 v (l.drop k)
theorem get_ok (k n : Nat) (A : Option Addr) (c : Nat) (l : List UInt8) (w : World) (hk : Sz k) (hln : l.length = n) (hkl : k ≤ n) (hc : n ≤ c) (hm : c ≤ maxLen) (hl : n ≤ 4294967296) (hA : Sl w w.heap.size A l) :
    Calls Tryz.prog 89 #[.slice A n c, .int .i64 k] w fun e w' => Got w.heap.size k l e w' ∧ Below w.heap.size w w' := by
  have cT := take_ok k n w.heap.size A c l w hk hln hkl hc hm (Nat.le_refl _) hA
  have hdl : (l.drop k).length = n - k := by rw [List.length_drop, hln]
  have cC := fun (W : World) (A' : Option Addr) (c' : Nat) (hs : Sl W w.heap.size A' (l.drop k)) => clone_any A' c' w.heap.size (n - k) (l.drop k) W hdl hs (by omega)
  unfold Took at cT
  unfold Got
  rw [hln] at cT
  generalize num (l.take k) = x at *
  generalize l.drop k = r at *
  clear hA hdl
  go_enter Tryz.func89, Tryz.ntmps89
  go_wp2_with (first
    | (go_at_call 103; (with_reducible refine cT.mono ?_); rintro e w1 ⟨⟨b', off', c', rfl, hs1, -, -⟩, hb1⟩)
    | (go_at_call 104; (with_reducible refine (cC _ _ _ hs1).mono ?_); rintro e w2 ⟨⟨v2, rfl, hown2⟩, hb2⟩))
  go_ret3
  exact ⟨⟨_, rfl, hown2.less hb1.size⟩, bt hb1 hb2⟩
theorem part_ok (n : Nat) (A : Option Addr) (c : Nat) (l : List UInt8) (w : World) (hln : l.length = n) (hl : n ≤ 255) (hA : Sl w w.heap.size A l) :
    Calls Tryz.prog 98 #[.slice A n c] w fun e w' => Put w.heap.size (le 1 n ++ l) e w' ∧ Below w.heap.size w w' := by
  have cS : ∀ W, Calls Tryz.prog 115 #[.int .i64 n, .int .i64 1] W fun e w' => e = .returned (.tuple #[box 1 n, .int .i64 0]) ∧ W = w' := fun W => sized_ok 1 n W (.inl rfl) (by omega)
  obtain ⟨w1, hmk, hown1, hg1⟩ := make0 (1 + n) w.heap.size w (by omega) (Nat.le_refl _)
  have hb1 : Below w.heap.size w w1 := (Below.refl _ _).grown hg1 (Nat.le_refl _) (fun q hq => by cases hq)
  have hb1s := hb1.size
  have cW := write_any 1 n w.heap.size _ _ w1 (.inl rfl) (by omega) hown1 hb1s (by simp)
  have hsrc : ∀ W, Below w.heap.size w W → Src Tryz.prog 1 49 (.slice A n c) l.length (cells8 l) W := fun W hW => by
    subst hln
    exact (hA.below hW).src Tryz.underlying49 c
  generalize box 1 n = x at *
  rw [show ((1 + n : Nat) : Int) = 1 + (n : Int) by omega] at hmk
  have hll : ([] ++ le 1 n).length + l.length ≤ 140737488355328 := by simp [le_length]; omega
  clear hA hln
  go_enter Tryz.func98, Tryz.ntmps98
  go_wp2_with (first
    | (go_at_call 115; (with_reducible refine (cS _).mono ?_); rintro e w2 ⟨rfl, rfl⟩)
    | (go_at_call 116; (with_reducible refine cW.mono ?_); rintro e w3 ⟨⟨v3, rfl, hown3⟩, hb3⟩; have hb13 := hb1.trans hb3)
    | (at_builtin
       refine wpList_app8 _ rfl (.tmp 19) (.tmp 20) _ _ rfl w.heap.size 5 t8 v3 _ rfl hown3 _ l rfl (hsrc _ hb13) hll hb13.size ?_
       intro v4 w4 hown4 hg4 hat4))
  go_ret2
  exact ⟨⟨_, rfl, hown4⟩, hb13.grown hg4 hb13.size (own_far hown3)⟩
def Parted (base : Nat) (l r : List UInt8) (e : Ending) (w' : World) : Prop := ∃ v u, e = .returned (.tuple #[v, u, .int .i64 0]) ∧ Own w' base 5 v l ∧ Own w' base 5 u r
theorem unpart_ok (n m : Nat) (A : Option Addr) (c : Nat) (l : List UInt8) (w : World) (hln : l.length = n) (h1 : 1 ≤ n) (hm : num (l.take 1) = m) (hmn : m ≤ n - 1) (hc : n ≤ c) (hx : c ≤ maxLen) (hl : n ≤ 4294967296) (hA : Sl w w.heap.size A l) :
    Calls Tryz.prog 107 #[.slice A n c] w fun e w' => Parted w.heap.size ((l.drop 1).take m) ((l.drop 1).drop m) e w' ∧ Below w.heap.size w w' := by
  have cT : Calls Tryz.prog 103 #[.slice A n c, .int .i64 1] w fun e w' => Took w.heap.size 1 l e w' ∧ Below w.heap.size w w' := take_ok 1 n w.heap.size A c l w (.inl rfl) hln h1 hc hx (Nat.le_refl _) hA
  have hrl : (l.drop 1).length = n - 1 := by rw [List.length_drop, hln]
  unfold Took at cT
  rw [hln, hm] at cT
  generalize l.drop 1 = r at *
  generalize hn1 : n - 1 = n1 at *
  have i1 : (0 : Int) ≤ (m : Int) := by omega
  have i2 : (m : Int) ≤ (n1 : Int) := by omega
  have i4 : ¬ (n1 : Int) < (m : Int) := by omega
  have cA := fun (W : World) (b off c' : Nat) (hs : Sl W w.heap.size (some ⟨b, off, none⟩) r) => clone_any (some ⟨b, off, none⟩) c' w.heap.size m (r.take m) W (by rw [List.length_take]; omega) (hs.take m) (by omega)
  have cB := fun (W : World) (b off c' : Nat) (hs : Sl W w.heap.size (some ⟨b, off, none⟩) r) => clone_any (some ⟨b, off + m, none⟩) c' w.heap.size (n1 - m) (r.drop m) W (by rw [List.length_drop]; omega) (hs.drop m) (by omega)
  have cC := fun (h : n1 = m) (W : World) (b off c' : Nat) => clone_any (some ⟨b, off, none⟩) c' w.heap.size 0 (r.drop m) W (by rw [List.length_drop]; omega) (by rw [List.drop_eq_nil_of_le (by omega)]; exact Sl.nil _ _ _) (by omega)
  clear hA hrl
  go_enter Tryz.func107, Tryz.ntmps107
  go_wp2_with (first
    | (go_at_call 103; (with_reducible refine cT.mono ?_); rintro e w1 ⟨⟨b', off', c', rfl, hs1, hx1, hx2⟩, hb1⟩; have i3 : (m : Int) ≤ (c' : Int) := by omega))
  have lw := hb1.size
  have hs : ∀ W, Below w1.heap.size w1 W → Sl W w.heap.size (some ⟨b', off', none⟩) r := fun W hW => hs1.below (hW.mono lw)
  by_cases hcm : c' = m
  · subst hcm
    obtain rfl : n1 = c' := by omega
    replace cC := cC rfl
    go_region_held3 (fun W => Below w1.heap.size w1 W)
      (first | assumption | exact Below.refl _ _ | exact (Below.refl _ _).drew | (exact bt (by assumption) (by assumption)) | exact below_dr (by assumption))
      (first
        | (go_at_call 104; (with_reducible refine (cA _ _ _ _ (hs _ (by assumption))).mono ?_); rintro e w2 ⟨⟨v2, rfl, hown2⟩, hb2⟩)
        | (go_at_call 104; (with_reducible refine (cC _ _ _ _).mono ?_); rintro e w3 ⟨⟨v3, rfl, hown3⟩, hb3⟩))
    all_goals
      have h12 : Below w1.heap.size w1 w2 := by first | assumption | exact (Below.refl _ _).drew.trans hb2 | exact bt (by assumption) (by assumption)
      have h13 : Below w1.heap.size w1 w3 := bt h12 hb3
      go_wp2
      go_ret3
      exact ⟨⟨v2, v3, rfl, (hown2.below hb3).less lw, hown3.less (Nat.le_trans lw h12.size)⟩, bt hb1 h13⟩
  · have i10 : ¬ (c' : Int) = (m : Int) := by omega
    go_region_held3 (fun W => Below w1.heap.size w1 W)
      (first | assumption | exact Below.refl _ _ | exact (Below.refl _ _).drew | (exact bt (by assumption) (by assumption)) | exact below_dr (by assumption))
      (first
        | (go_at_call 104; (with_reducible refine (cA _ _ _ _ (hs _ (by assumption))).mono ?_); rintro e w2 ⟨⟨v2, rfl, hown2⟩, hb2⟩)
        | (go_at_call 104; (with_reducible refine (cB _ _ _ _ (hs _ (by assumption))).mono ?_); rintro e w3 ⟨⟨v3, rfl, hown3⟩, hb3⟩))
    all_goals
      have h12 : Below w1.heap.size w1 w2 := by first | assumption | exact (Below.refl _ _).drew.trans hb2 | exact bt (by assumption) (by assumption)
      have h13 : Below w1.heap.size w1 w3 := bt h12 hb3
      go_wp2
      go_ret3
      exact ⟨⟨v2, v3, rfl, (hown2.below hb3).less lw, hown3.less (Nat.le_trans lw h12.size)⟩, bt hb1 h13⟩
theorem unpart_no (n : Nat) (A : Option Addr) (c : Nat) (l : List UInt8) (w : World) (hln : l.length = n) (h : n < 1 + num (l.take 1)) (hc : n ≤ c) (hx : c ≤ maxLen) (hA : Sl w w.heap.size A l) :
    Calls Tryz.prog 107 #[.slice A n c] w fun e w' => e = .returned (.tuple #[.slice none 0 0, .slice none 0 0, .int .i64 4]) ∧ Below w.heap.size w w' := by
  by_cases h0 : n = 0
  · subst h0
    have cT : Calls Tryz.prog 103 #[.slice A (0 : Nat) c, .int .i64 1] w fun e w' => e = .returned (.tuple #[.int .i64 0, .slice none 0 0, .int .i64 4]) ∧ w = w' := take_short 0 c 1 A w (.inl rfl) (by omega)
    clear h hA hln
    go_enter Tryz.func107, Tryz.ntmps107
    go_wp2_with (first
      | (go_at_call 103; (with_reducible refine cT.mono ?_); rintro e w1 ⟨rfl, rfl⟩))
    go_ret3
    exact ⟨rfl, Below.refl _ _⟩
  · have cT : Calls Tryz.prog 103 #[.slice A n c, .int .i64 1] w fun e w' => Took w.heap.size 1 l e w' ∧ Below w.heap.size w w' := take_ok 1 n w.heap.size A c l w (.inl rfl) hln (by omega) hc hx (Nat.le_refl _) hA
    unfold Took at cT
    rw [hln] at cT
    generalize num (l.take 1) = m at *
    have i1 : ((n - 1 : Nat) : Int) < (m : Int) := by omega
    clear hA hln
    generalize n - 1 = n1 at *
    go_enter Tryz.func107, Tryz.ntmps107
    go_wp2_with (first
      | (go_at_call 103; (with_reducible refine cT.mono ?_); rintro e w1 ⟨⟨b', off', c', rfl, hs1, hx1, hx2⟩, hb1⟩))
    go_ret3
    exact ⟨rfl, hb1⟩
end Go.Proofs.YtbfdpibjicjagaaGreatDoor.pck
namespace Go.Proofs.YtbfdpibjicjagaaGreatDoor.pck
open Go.RowKit Go.Lib
def AllFit (ps : List (Int × Int)) : Prop := ∀ p ∈ ps, Fits p.1 p.2
def bytesOf (ps : List (Int × Int)) : List UInt8 := ps.flatMap fun p => le p.2.toNat p.1.toNat
theorem bytesOf_append (a b : List (Int × Int)) : bytesOf (a ++ b) = bytesOf a ++ bytesOf b := by simp [bytesOf]
theorem bytesOf_le {ps : List (Int × Int)} (h : AllFit ps) : (bytesOf ps).length ≤ 4 * ps.length := by
  induction ps with
  | nil => simp [bytesOf]
  | cons p ps ih =>
    have h1 := ih fun q hq => h q (List.mem_cons_of_mem _ hq)
    obtain ⟨k, m, hs, -, hk, -⟩ := h p List.mem_cons_self
    have h2 : bytesOf (p :: ps) = le p.2.toNat p.1.toNat ++ bytesOf ps := by simp [bytesOf]
    rw [h2, List.length_append, le_length, hs, Int.toNat_natCast, List.length_cons]
    have := hk.le4
    omega
def Rowed (base : Nat) (ps : List (Int × Int)) (e : Ending) (w' : World) : Prop :=
  (AllFit ps ∧ Put base (bytesOf ps) e w') ∨ (¬ AllFit ps ∧ e = .returned (.tuple #[.slice none 0 0, .int .i64 1]))
theorem row_any (n : Nat) (A A' : Option Addr) (c c' : Nat) (ps : List (Int × Int)) (w : World) (hn : ps.length = n) (hl : n ≤ 1048576) (hA : SlV w w.heap.size A (ints (ps.map (·.1)))) (hA' : SlV w w.heap.size A' (ints (ps.map (·.2)))) :
    Calls Tryz.prog 96 #[.slice A n c, .slice A' n c'] w fun e w' => Rowed w.heap.size ps e w' ∧ Below w.heap.size w w' := by
  have n1 : ((n : Int) != (n : Int)) = false := bne_self_eq_false _
  go_enter Tryz.func96, Tryz.ntmps96
  go_wp2
  go_loopw [6, 7, 8, 9, 10, 18] (fun v _ _ _ _ i w' => ∃ k : Nat, k ≤ n ∧ i = .int .i64 k ∧ AllFit (ps.take k) ∧ Own w' w.heap.size 5 v (bytesOf (ps.take k)) ∧ Below w.heap.size w w') (fun _ _ _ _ _ i _ => n - (RowKit.intOf i).toNat)
  case atStart => exact ⟨0, by omega, rfl, fun p hp => by simp at hp, own_nil _ _ _, Below.refl _ _⟩
  case round =>
    rename_i wr
    obtain ⟨k, hk, rfl, hf, hown, hbr⟩ := hrel
    by_cases hlt : k < n
    · obtain ⟨b1, off, rfl, hb, hc⟩ := (hA.below hbr) (by rw [ints_length, List.length_map]; omega)
      obtain ⟨b2, off', rfl, hb', hc'⟩ := (hA'.below hbr) (by rw [ints_length, List.length_map]; omega)
      have g := hc k (by rw [ints_length, List.length_map]; omega)
      have g' := hc' k (by rw [ints_length, List.length_map]; omega)
      rw [ints_get, List.getElem_map] at g g'
      have i1 : (k : Int) < (n : Int) := by omega
      have hkp : k < ps.length := by omega
      have ht := List.take_succ_eq_append_getElem hkp
      have hmem : ps[k] ∈ ps := List.getElem_mem hkp
      have hle := bytesOf_le hf
      rw [List.length_take] at hle
      generalize ps[k] = p at *
      obtain ⟨x, y⟩ := p
      by_cases hfit : Fits x y
      · have H : Hid (AllFit (ps.take (k + 1)) ∧ bytesOf (ps.take (k + 1)) = bytesOf (ps.take k) ++ le y.toNat x.toNat) := by
          refine ⟨?_, ?_⟩
          · rw [ht]
            intro q hq
            rcases List.mem_append.1 hq with hq | hq
            · exact hf q hq
            · rw [List.mem_singleton] at hq
              subst hq
              exact hfit
          · rw [ht, bytesOf_append]
            simp [bytesOf]
        obtain ⟨s, m, hs, hx, hk4, hm⟩ := hfit
        subst hs hx
        have cS := fun W => sized_ok s m W hk4 hm
        have cW := fun (W : World) (hW : Below wr.heap.size wr W) => write_any s m w.heap.size _ _ W hk4 hm (hown.below hW) (by have := hbr.size; have := hW.size; omega) (by omega)
        generalize box s m = z at *
        generalize bytesOf (ps.take k) = bs at *
        clear hc hc' hA hA' ht hmem hf hn
        go_wp2_with (first
          | (go_at_call 115; (with_reducible refine (cS _).mono ?_); rintro e w1 ⟨rfl, rfl⟩)
          | (go_at_call 116; (with_reducible refine (cW _ (Below.refl _ _)).mono ?_); rintro e w2 ⟨⟨v2, rfl, hown2⟩, hb2⟩))
        go_roundw
        case rel => exact ⟨k + 1, by omega, by go_num, H.out.1, by rw [H.out.2]; exact hown2, hbr.trans hb2⟩
        case measure => simp [RowKit.intOf]; omega
      · have H : Hid (¬ AllFit ps) := fun h => hfit (h _ hmem)
        have cS := fun W => sized_no x y W hfit
        clear hc hc' hA hA' ht hmem hf hn hfit
        go_wp2_with (first
          | (go_at_call 115; (with_reducible refine (cS _).mono ?_); rintro e w1 ⟨rfl, rfl⟩))
        go_ret2
        exact ⟨.inr ⟨H.out, rfl⟩, hbr⟩
    · rw [List.take_of_length_le (by omega)] at hf hown
      go_wp2
      go_ret2
      exact ⟨.inl ⟨hf, _, rfl, hown⟩, hbr⟩
def unrow : List Int → List UInt8 → Except Int (List Int × List UInt8)
  | [], b => .ok ([], b)
  | s :: ss, b =>
    if s = 1 ∨ s = 2 ∨ s = 4 then
      if b.length < s.toNat then .error 4
      else match unrow ss (b.drop s.toNat) with
        | .ok (l, r) => .ok ((num (b.take s.toNat) : Int) :: l, r)
        | .error x => .error x
    else .error 1
def behind (l : List Int) : Except Int (List Int × List UInt8) → Except Int (List Int × List UInt8)
  | .ok (t, r) => .ok (l ++ t, r)
  | .error x => .error x
theorem behind_nil (r : Except Int (List Int × List UInt8)) : behind [] r = r := by
  cases r with
  | ok p => rfl
  | error x => rfl
theorem behind_next {l : List Int} {s : Int} {ss : List Int} {b : List UInt8} (hs : s = 1 ∨ s = 2 ∨ s = 4) (hb : ¬ b.length < s.toNat) :
    behind l (unrow (s :: ss) b) = behind (l ++ [(num (b.take s.toNat) : Int)]) (unrow ss (b.drop s.toNat)) := by
  rw [unrow, if_pos hs, if_neg hb]
  cases unrow ss (b.drop s.toNat) with
  | ok p => simp [behind]
  | error x => rfl
def Unrowed (base : Nat) (r : Except Int (List Int × List UInt8)) (e : Ending) (w' : World) : Prop :=
  match r with
  | .ok (l, b) => ∃ v u, e = .returned (.tuple #[v, u, .int .i64 0]) ∧ OwnV w' base 3 v (ints l) ∧ Own w' base 5 u b
  | .error x => e = .returned (.tuple #[.slice none 0 0, .slice none 0 0, .int .i64 x])
theorem unrow_any (n m : Nat) (A A' : Option Addr) (c c' : Nat) (l : List UInt8) (ss : List Int) (w : World) (hn : l.length = n) (hm : ss.length = m) (hl : m ≤ 1048576) (hc : n ≤ c) (hx : c ≤ maxLen) (hl2 : n ≤ 4294967296) (hA : Sl w w.heap.size A l) (hA' : SlV w w.heap.size A' (ints ss)) :
    Calls Tryz.prog 108 #[.slice A n c, .slice A' m c'] w fun e w' => Unrowed w.heap.size (unrow ss l) e w' ∧ Below w.heap.size w w' := by
  have HU : Hid (behind [] (unrow (ss.drop 0) l) = unrow ss l) := by
    show _ = _
    rw [behind_nil, List.drop_zero]
  generalize unrow ss l = res at *
  go_enter Tryz.func108, Tryz.ntmps108
  go_wp2
  go_loopw [4, 5, 6, 8, 9, 13] (fun v u q _ _ i w' => ∃ (k : Nat) (d : List Int) (r : List UInt8) (X : Option Addr) (x : Nat), k ≤ m ∧ i = .int .i64 k ∧ q = .int .i64 0 ∧ d.length = k ∧ Hid (behind d (unrow (ss.drop k) r) = res) ∧ OwnV w' w.heap.size 3 v (ints d) ∧ u = .slice X r.length x ∧ r.length ≤ n ∧ r.length ≤ x ∧ x ≤ maxLen ∧ Sl w' w.heap.size X r ∧ Below w.heap.size w w') (fun _ _ _ _ _ i _ => m - (RowKit.intOf i).toNat)
  case atStart => exact ⟨0, [], l, A, c, by omega, rfl, rfl, rfl, HU, ownV_nil _ _ _, by rw [hn], by omega, by omega, hx, hA, Below.refl _ _⟩
  case round =>
    clear HU hA hc hx
    rename_i wr
    obtain ⟨k, d, r, X, x, hk, rfl, rfl, hd, H, hown, rfl, hr1, hr2, hx, hs, hbr⟩ := hrel
    have lw := hbr.size
    by_cases hlt : k < m
    · obtain ⟨b2, off', rfl, hb', hc'⟩ := (hA'.below hbr) (by rw [ints_length]; omega)
      have g' := hc' k (by rw [ints_length]; omega)
      rw [ints_get] at g'
      have i1 : (k : Int) < (m : Int) := by omega
      have hkp : k < ss.length := by omega
      have ht : ss.drop k = ss[k] :: ss.drop (k + 1) := List.drop_eq_getElem_cons hkp
      generalize ss[k] = s at *
      by_cases hsz : s = 1 ∨ s = 2 ∨ s = 4
      · obtain ⟨z, rfl⟩ : ∃ z : Nat, s = z := ⟨s.toNat, by omega⟩
        have hz : Sz z := by unfold Sz; omega
        by_cases hsh : r.length < z
        · have cT := fun W => take_short r.length x z X W hz hsh
          have HR : Hid (res = .error 4) := by
            show res = _
            rw [← H.out, ht, unrow, if_pos hsz, if_pos (by rw [Int.toNat_natCast]; exact hsh)]
            rfl
          clear hc' hA' ht hs hsh hsz H hn hm
          go_wp2_with (first
            | (go_at_call 103; (with_reducible refine (cT _).mono ?_); rintro e w1 ⟨rfl, rfl⟩))
          go_ret3
          exact ⟨by rw [HR.out]; rfl, hbr⟩
        · have cT := take_ok z r.length w.heap.size X x r wr hz rfl (by omega) hr2 hx lw hs
          have HR : Hid (behind (d ++ [(num (r.take z) : Int)]) (unrow (ss.drop (k + 1)) (r.drop z)) = res) := by
            show _ = res
            rw [← H.out, ht, behind_next hsz (by rw [Int.toNat_natCast]; exact hsh), Int.toNat_natCast]
          have hrl : (r.drop z).length = r.length - z := List.length_drop
          unfold Took at cT
          generalize num (r.take z) = y at *
          generalize r.drop z = r' at *
          clear hc' hA' ht hs hsh hsz H hn hm
          go_wp2_with (first
            | (go_at_call 103; (with_reducible refine cT.mono ?_); rintro e w1 ⟨⟨b', o', x', rfl, hs1, hx1, hx2⟩, hb1⟩)
            | (at_builtin
               refine wpList_appV _ rfl (.tmp 27) (.tmp 29) _ _ rfl w.heap.size 3 tvI _ (ints d) rfl ((hown.below hb1).alloc _) _ [.int .i64 y] rfl ((SlV.of_block (vs := [.int .i64 (y : Int)]) (heap_alloc_new _ _) rfl (Nat.lt_succ_self _)).src (ints_one [(y : Int)]) Tryz.underlying43 1) ?_ ?_ ?_ ?_
               · rw [ints_length]; unfold maxLen; simp; omega
               · rw [ints_length]; simp; omega
               · have := hb1.size; simp; omega
               intro v2 w2 hown2 hg2 hat2))
          have hb2 : Below w.heap.size w w2 := ((bt hbr hb1).alloc (Nat.le_trans lw hb1.size) _).grown hg2 (by have := hb1.size; simp; omega) (fun q hq => (World.ownsRow.lt hown q hq).1)
          have hs2 : Sl w2 w.heap.size (some ⟨b', o', none⟩) r' := by
            have h1 : Below w.heap.size w1 w2 := (((Below.refl _ _).alloc (Nat.le_trans lw hb1.size) _).grown hg2 (by have := hb1.size; simp; omega) (fun q hq => (World.ownsRow.lt hown q hq).1))
            exact hs1.below h1
          go_roundw
          case rel => exact ⟨k + 1, d ++ [(y : Int)], r', _, _, by omega, by go_num, rfl, by simp; omega, HR, by rw [ints_append]; exact hown2, by rw [hrl], by omega, by omega, hx2, hs2, hb2⟩
          case measure => simp [RowKit.intOf]; omega
      · have cT := fun W => take_arg r.length x s X W hsz
        have HR : Hid (res = .error 1) := by
          show res = _
          rw [← H.out, ht, unrow, if_neg hsz]
          rfl
        clear hc' hA' ht hs hsz H hn hm
        go_wp2_with (first
          | (go_at_call 103; (with_reducible refine (cT _).mono ?_); rintro e w1 ⟨rfl, rfl⟩))
        go_ret3
        exact ⟨by rw [HR.out]; rfl, hbr⟩
    · have cC := clone_any X x w.heap.size r.length r wr rfl hs (by omega)
      have HR : Hid (res = .ok (d, r)) := by
        show res = _
        rw [← H.out, List.drop_eq_nil_of_le (by omega)]
        simp [unrow, behind]
      clear hA' H hn hm
      go_wp2_with (first
        | (go_at_call 104; (with_reducible refine cC.mono ?_); rintro e w1 ⟨⟨v1, rfl, hown1⟩, hb1⟩))
      go_ret3
      exact ⟨by rw [HR.out]; exact ⟨_, _, rfl, hown.below hb1, hown1.less lw⟩, bt hbr hb1⟩
end Go.Proofs.YtbfdpibjicjagaaGreatDoor.pck
namespace Go.Proofs.YtbfdpibjicjagaaGreatDoor.pck
open Go.RowKit Go.Lib
theorem le_next (k m : Nat) : le (k + 1) m = le k m ++ [UInt8.ofNat (m / 256 ^ k % 256)] := by
  induction k generalizing m with
  | zero => simp [le]
  | succ k ih =>
    rw [le, ih]
    simp only [le, List.cons_append, Nat.div_div_eq_div_mul, Nat.pow_succ]
    rw [Nat.mul_comm 256 (256 ^ k)]
theorem src_one' (w : World) (n : Nat) (t : TypeId) : Src Tryz.prog 1 49 (.slice (some ⟨w.heap.size, 0, none⟩) 1 1) [UInt8.ofNat (n % 256)].length (cells8 [UInt8.ofNat (n % 256)]) (w.alloc (.cells #[.int .u8 ((n : Int) % 256)] t)) :=
  src_new (l := [UInt8.ofNat (n % 256)]) (cs := #[.int .u8 ((n : Int) % 256)]) 1 (heap_alloc_new _ _) (by simp only [cells8, List.map_cons, List.map_nil, by8, byte_toNat]; rfl)
theorem ref_put (k m n : Nat) (A : Option Addr) (c : Nat) (l : List UInt8) (w : World) (hk : k ≤ 8) (hm : m < 4294967296) (hln : l.length = n) (hl : n ≤ 1048576) (hA : Sl w w.heap.size A l) :
    Calls Tryz.prog 58 #[.slice A n c, .int .i64 m, .int .i64 k] w fun e w' => One w.heap.size (l ++ le k m) e w' ∧ Below w.heap.size w w' := by
  have cT : Calls Tryz.prog 23 #[.slice A n c] w fun e w' => One w.heap.size l e w' ∧ Below w.heap.size w w' := by
    have := twin_any A c _ l w hA (by omega)
    rwa [hln] at this
  clear hA
  go_enter Tryz.func58, Tryz.ntmps58
  go_wp2_with (go_at_call 23; (with_reducible refine cT.mono ?_); rintro e w1 ⟨⟨v1, rfl, hown1⟩, hb1⟩)
  go_loopw [1, 7, 8] (fun x v i w' => ∃ j : Nat, j ≤ k ∧ i = .int .i64 j ∧ x = .int .i64 (m / 256 ^ j : Nat) ∧ Own w' w.heap.size 5 v (l ++ le j m) ∧ Below w.heap.size w w') (fun _ _ i _ => k - (RowKit.intOf i).toNat)
  case atStart => exact ⟨0, by omega, rfl, by simp, by simpa [le] using hown1, hb1⟩
  case round =>
    clear cT hown1 hb1
    rename_i wr
    obtain ⟨j, hj, rfl, rfl, hown, hbr⟩ := hrel
    have lw := hbr.size
    by_cases hlt : j < k
    · have i1 : (j : Int) < (k : Int) := by omega
      have hd : m / 256 ^ j ≤ m := Nat.div_le_self _ _
      have HN : Hid (le (j + 1) m = le j m ++ [UInt8.ofNat (m / 256 ^ j % 256)] ∧ m / 256 ^ (j + 1) = m / 256 ^ j / 256) := ⟨le_next j m, by rw [Nat.pow_succ, Nat.div_div_eq_div_mul]⟩
      have hlen : (l ++ le j m).length = n + j := by rw [List.length_append, le_length, hln]
      generalize m / 256 ^ j = y at *
      have i2 : (y : Int) < 4294967296 := by omega
      have i3 : (0 : Int) ≤ (y : Int) := by omega
      have hs := fun (W : World) => src_one' W y 5
      clear hd hln
      go_wp2_with (first
        | (at_builtin
           refine wpList_app8 _ rfl (.tmp 16) (.tmp 19) _ _ rfl w.heap.size 5 t8 _ _ rfl (hown.alloc _) _ [UInt8.ofNat (y % 256)] rfl (hs wr) ?_ ?_ ?_
           · rw [hlen]; simp; omega
           · simp; omega
           intro v2 w2 hown2 hg2 hat2))
      have hb2 := (hbr.alloc lw (.cells #[.int .u8 ((y : Int) % 256)] 5)).grown hg2 (by simp; omega) (own_far hown)
      go_roundw
      case rel => exact ⟨j + 1, by omega, by go_num, by rw [HN.out.2]; go_num, by rw [HN.out.1, ← List.append_assoc]; exact hown2, hb2⟩
      case measure => simp [RowKit.intOf]; omega
    · obtain rfl : j = k := by omega
      go_wp2
      go_ret
      exact ⟨⟨_, rfl, hown⟩, hbr⟩
theorem ref_part (n : Nat) (A : Option Addr) (c : Nat) (l : List UInt8) (w : World) (hln : l.length = n) (hl : n ≤ 255) (hA : Sl w w.heap.size A l) :
    Calls Tryz.prog 73 #[.slice A n c] w fun e w' => One w.heap.size (le 1 n ++ l) e w' ∧ Below w.heap.size w w' := by
  have hown : Own (w.alloc (.cells #[.int .u8 (n : Int)] 5)) w.heap.size 5 (.slice (some ⟨w.heap.size, 0, none⟩) 1 1) (le 1 n) := by
    have := World.ownsRow_lit (base := w.heap.size) (e := 5) (size := 1) w #[.int .u8 (n : Int)] 1 (Nat.le_refl _) (by decide) rfl
    unfold Own
    rw [← cells_one n (by omega)]
    exact this
  have hb1 : Below w.heap.size w (w.alloc (.cells #[.int .u8 (n : Int)] 5)) := (Below.refl _ _).alloc (Nat.le_refl _) _
  have hsrc : Src Tryz.prog 1 49 (.slice A n c) l.length (cells8 l) (w.alloc (.cells #[.int .u8 (n : Int)] 5)) := by
    subst hln
    exact (hA.below hb1).src Tryz.underlying49 c
  have i1 : (n : Int) < 256 := by omega
  have hll : (le 1 n).length + l.length ≤ 140737488355328 := by rw [le_length]; omega
  clear hA hln
  go_enter Tryz.func73, Tryz.ntmps73
  go_wp2_with (first
    | (at_builtin
       refine wpList_app8 _ rfl (.tmp 6) (.tmp 7) _ _ rfl w.heap.size 5 t8 _ (le 1 n) rfl hown _ l rfl hsrc hll hb1.size ?_
       intro v2 w2 hown2 hg2 hat2))
  go_ret
  exact ⟨⟨_, rfl, hown2⟩, hb1.grown hg2 hb1.size (own_far hown)⟩
end Go.Proofs.YtbfdpibjicjagaaGreatDoor.pck
