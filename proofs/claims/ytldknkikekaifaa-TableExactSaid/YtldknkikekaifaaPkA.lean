/-
  The program's inner functions for numbers as bytes, each by its contract. Conditions: slices shorter than 2^40.
-/
import Derived.Test.YtldknkikekaifaaKeep
import Derived.Test.YtldknkikekaifaaPkMath
import Derived.Laws.BitsAllLaws
import Derived.Deep.RegionHeld3
import Derived.Lib.Hide
namespace Go.Proofs.Ytldknkikekaifaa.pck
open Go.RowKit Go.Lib

/-- A number that has a size, as an interface value. -/
def box (k n : Nat) : Value := if k = 1 then .iface 5 (.int .u8 n) else if k = 2 then .iface 94 (.int .u16 n) else .iface 73 (.int .u32 n)
theorem box_one (n : Nat) : box 1 n = .iface 5 (.int .u8 n) := rfl
theorem box_two (n : Nat) : box 2 n = .iface 94 (.int .u16 n) := rfl
theorem box_four (n : Nat) : box 4 n = .iface 73 (.int .u32 n) := rfl

theorem as_11 (v : Value) (W : World) : (Instr.typeAssert (.iface 5 v) 20 5 true).run Try.prog W = .ok (.tuple #[v, .bool true]) W := by kernel_rfl
theorem as_21 (v : Value) (W : World) : (Instr.typeAssert (.iface 94 v) 20 5 true).run Try.prog W = .ok (.tuple #[.int .u8 0, .bool false]) W := by kernel_rfl
theorem as_22 (v : Value) (W : World) : (Instr.typeAssert (.iface 94 v) 20 94 true).run Try.prog W = .ok (.tuple #[v, .bool true]) W := by kernel_rfl
theorem as_41 (v : Value) (W : World) : (Instr.typeAssert (.iface 73 v) 20 5 true).run Try.prog W = .ok (.tuple #[.int .u8 0, .bool false]) W := by kernel_rfl
theorem as_42 (v : Value) (W : World) : (Instr.typeAssert (.iface 73 v) 20 94 true).run Try.prog W = .ok (.tuple #[.int .u16 0, .bool false]) W := by kernel_rfl
theorem as_44 (v : Value) (W : World) : (Instr.typeAssert (.iface 73 v) 20 73 false).run Try.prog W = .ok v W := by kernel_rfl
set_option maxRecDepth 100000 in
theorem value_any (k n : Nat) (w : World) (hk : Sz k) (hn : n < 256 ^ k) :
    Calls Try.prog 55 #[box k n] w fun e w' => e = .returned (.int .i64 n) ∧ w = w' := by
  rcases hk with rfl | rfl | rfl
  · rw [box_one]
    have a1 := as_11
    have hn' : (n : Int) < 256 := by omega
    clear hn
    go_enter Try.func55, Try.ntmps55
    go_wp2
    go_ret
    exact ⟨rfl, rfl⟩
  · rw [box_two]
    have a1 := as_21
    have a2 := as_22
    have hn' : (n : Int) < 65536 := by omega
    clear hn
    go_enter Try.func55, Try.ntmps55
    go_wp2
    go_ret
    exact ⟨rfl, rfl⟩
  · rw [box_four]
    have a1 := as_41
    have a2 := as_42
    have a3 := as_44
    have hn' : (n : Int) < 4294967296 := by omega
    clear hn
    go_enter Try.func55, Try.ntmps55
    go_wp2
    go_ret
    exact ⟨rfl, rfl⟩

theorem cells_one (n : Nat) (h : n < 256) : (#[Value.int .u8 (n : Int)]).toList = cells8 (le 1 n) := by
  simp only [le_one, cells8, List.map_cons, List.map_nil, by8, byte_toNat]
  rw [Nat.mod_eq_of_lt h]
theorem cells_two (n : Nat) (h : n < 65536) : (#[Value.int .u8 ((n : Int) % 256), .int .u8 ((n : Int) / 256)]).toList = cells8 (le 2 n) := by
  simp only [le_two, cells8, List.map_cons, List.map_nil, by8, byte_toNat]
  rw [Nat.mod_eq_of_lt (show n / 256 < 256 by omega)]
  rfl
theorem cells_four (n : Nat) (h : n < 4294967296) : (#[Value.int .u8 ((n : Int) % 256), .int .u8 ((n : Int) / 256 % 256), .int .u8 ((n : Int) / 65536 % 256), .int .u8 ((n : Int) / 16777216)]).toList = cells8 (le 4 n) := by
  simp only [le_four, cells8, List.map_cons, List.map_nil, by8, byte_toNat]
  rw [Nat.mod_eq_of_lt (show n / 16777216 < 256 by omega)]
  rfl
theorem src_new {W : World} {g : Nat} {t : TypeId} {fr : Nat × Nat} {cs : Array Value} {l : List UInt8} (c : Nat) (hg : W.heap[g]? = some (.cells cs t fr)) (hcs : cs.toList = cells8 l) : Src Try.prog 1 27 (.slice (some ⟨g, 0, none⟩) l.length c) l.length (cells8 l) W :=
  (Sl.of_block hg hcs (Nat.lt_succ_self g)).src Try.underlying27 c

set_option maxRecDepth 100000 in
theorem write_any (k n base : Nat) (v : Value) (l : List UInt8) (w : World) (hk : Sz k) (hn : n < 256 ^ k) (hown : Own w base 5 v l) (hb : base ≤ w.heap.size) (hl : l.length ≤ 1099511627776) :
    Calls Try.prog 46 #[v, box k n] w fun e w' => One base (l ++ le k n) e w' ∧ Below base w w' := by
  have hfar : ∀ q, v.ownBlock = some q → base ≤ q := fun q hq => (World.ownsRow.lt hown q hq).1
  rcases hk with rfl | rfl | rfl
  · rw [box_one]
    have a1 := as_11
    have hs := cells_one n (by omega)
    have hn' : (n : Int) < 256 := by omega
    clear hn
    go_enter Try.func46, Try.ntmps46
    go_wp2_with (first
      | (at_builtin
         refine wpList_app8 _ rfl (.tmp 16) (.tmp 18) _ _ rfl base 5 t8 v l rfl (hown.alloc _) _ (le 1 n) rfl (src_new 1 (heap_alloc_new _ _) hs) ?_ ?_ ?_
         · simp only [le_length]; omega
         · simp; omega
         intro v2 w2 hown2 hg2 hat2))
    go_ret
    exact ⟨⟨v2, rfl, hown2⟩, ((Below.refl _ _).alloc hb _).grown hg2 (by simp; omega) hfar⟩
  · rw [box_two]
    have a1 := as_21
    have a2 := as_22
    have hs := cells_two n (by omega)
    have hn' : (n : Int) < 65536 := by omega
    clear hn
    go_enter Try.func46, Try.ntmps46
    go_wp2_with (first
      | (at_builtin
         refine wpList_app8 _ rfl (.tmp 26) (.tmp 32) _ _ rfl base 5 t8 v l rfl (hown.alloc _) _ (le 2 n) rfl (src_new 2 (heap_alloc_new _ _) hs) ?_ ?_ ?_
         · simp only [le_length]; omega
         · simp; omega
         intro v2 w2 hown2 hg2 hat2))
    go_ret
    exact ⟨⟨v2, rfl, hown2⟩, ((Below.refl _ _).alloc hb _).grown hg2 (by simp; omega) hfar⟩
  · rw [box_four]
    have a1 := as_41
    have a2 := as_42
    have a3 := as_44
    have hs := cells_four n (by omega)
    have hn' : (n : Int) < 4294967296 := by omega
    clear hn
    go_enter Try.func46, Try.ntmps46
    go_wp2_with (first
      | (at_builtin
         refine wpList_app8 _ rfl (.tmp 36) (.tmp 48) _ _ rfl base 5 t8 v l rfl (hown.alloc _) _ (le 4 n) rfl (src_new 4 (heap_alloc_new _ _) hs) ?_ ?_ ?_
         · simp only [le_length]; omega
         · simp; omega
         intro v2 w2 hown2 hg2 hat2))
    go_ret
    exact ⟨⟨v2, rfl, hown2⟩, ((Below.refl _ _).alloc hb _).grown hg2 (by simp; omega) hfar⟩

theorem or_step (a b k : Nat) (ha : a < 2 ^ k) (hb : b * 2 ^ k < 4294967296) (hs : a < 4294967296) : bits .or .u32 (a : Int) ((b * 2 ^ k : Nat) : Int) = ((a + b * 2 ^ k : Nat) : Int) := by
  rw [u32_or_nat a (b * 2 ^ k) hs hb, or_bytes a b k ha]
theorem or_four (a a1 a2 a3 : Nat) (x0 : a < 256) (x1 : a1 < 256) (x2 : a2 < 256) (x3 : a3 < 256) :
    bits .or .u32 (bits .or .u32 (bits .or .u32 (a : Int) ((a1 : Int) * 256)) ((a2 : Int) * 65536)) ((a3 : Int) * 16777216) = ((a + 256 * a1 + 65536 * a2 + 16777216 * a3 : Nat) : Int) := by
  have e1 := or_step a a1 8 (by omega) (by omega) (by omega)
  have e2 := or_step (a + a1 * 2 ^ 8) a2 16 (by omega) (by omega) (by omega)
  have e3 := or_step (a + a1 * 2 ^ 8 + a2 * 2 ^ 16) a3 24 (by omega) (by omega) (by omega)
  rw [show ((a1 : Int) * 256) = ((a1 * 2 ^ 8 : Nat) : Int) by omega, show ((a2 : Int) * 65536) = ((a2 * 2 ^ 16 : Nat) : Int) by omega, show ((a3 : Int) * 16777216) = ((a3 * 2 ^ 24 : Nat) : Int) by omega, e1, e2, e3]
  congr 1
  omega
theorem ret_box {a b : Int} (h : a = b) : Ending.returned (.iface 73 (.int .u32 a)) = .returned (.iface 73 (.int .u32 b)) := by rw [h]
set_option maxRecDepth 100000 in
theorem read_any (k : Nat) (A : Option Addr) (c B : Nat) (l : List UInt8) (w : World) (hk : Sz k) (hl : l.length = k) (hA : Sl w B A l) :
    Calls Try.prog 60 #[.slice A k c] w fun e w' => e = .returned (box k (num l)) ∧ Below w.heap.size w w' := by
  rcases hk with rfl | rfl | rfl
  · rw [num_one l hl, box_one]
    obtain ⟨b, off, rfl, hb, hc⟩ := hA (by omega)
    have g0 := hc 0 (by omega)
    unfold by8 at g0
    rw [Nat.add_zero] at g0
    have x0 := l[0].toNat_lt
    generalize l[0].toNat = a at *
    clear hc hA hl
    go_enter Try.func60, Try.ntmps60
    go_wp2
    go_ret
    exact ⟨rfl, Below.refl _ _⟩
  · rw [num_two l hl, box_two]
    obtain ⟨b, off, rfl, hb, hc⟩ := hA (by omega)
    have g0 := hc 0 (by omega)
    have g1 := hc 1 (by omega)
    unfold by8 at g0 g1
    rw [Nat.add_zero] at g0
    have x0 := l[0].toNat_lt
    have x1 := l[1].toNat_lt
    generalize l[0].toNat = a at *
    generalize l[1].toNat = a1 at *
    have o1 : bits .or .u16 (a : Int) ((a1 : Int) * 256) = ((a + 256 * a1 : Nat) : Int) := by
      have := u16_or_nat a (a1 * 2 ^ 8) (by omega) (by omega)
      rw [or_bytes a a1 8 (by omega)] at this
      rw [show ((a1 : Int) * 256) = ((a1 * 2 ^ 8 : Nat) : Int) by omega, this]
      congr 1
      omega
    clear hc hA hl
    go_enter Try.func60, Try.ntmps60
    go_wp2
    go_quiet (fail)
    go_wp2
    go_ret
    exact ⟨rfl, below_dn (Below.refl _ _) _⟩
  · rw [num_four l hl, box_four]
    obtain ⟨b, off, rfl, hb, hc⟩ := hA (by omega)
    have g0 := hc 0 (by omega)
    have g1 := hc 1 (by omega)
    have g2 := hc 2 (by omega)
    have g3 := hc 3 (by omega)
    unfold by8 at g0 g1 g2 g3
    rw [Nat.add_zero] at g0
    have x0 := l[0].toNat_lt
    have x1 := l[1].toNat_lt
    have x2 := l[2].toNat_lt
    have x3 := l[3].toNat_lt
    generalize l[0].toNat = a at *
    generalize l[1].toNat = a1 at *
    generalize l[2].toNat = a2 at *
    generalize l[3].toNat = a3 at *
    clear hc hA hl
    go_enter Try.func60, Try.ntmps60
    go_wp2
    go_quiet (fail)
    go_wp2
    go_ret
    exact ⟨ret_box (or_four a a1 a2 a3 x0 x1 x2 x3), below_dn (Below.refl _ _) _⟩

set_option maxRecDepth 100000 in
/-- What fits in a size is boxed. -/
theorem sized_ok (k n : Nat) (w : World) (hk : Sz k) (hn : n < 256 ^ k) :
    Calls Try.prog 45 #[.int .i64 n, .int .i64 k] w fun e w' => e = .returned (.tuple #[box k n, .int .i64 0]) ∧ w = w' := by
  have cV := value_any k n w hk hn
  rcases hk with rfl | rfl | rfl
  · rw [box_one] at *
    have hn' : (n : Int) < 256 := by omega
    have n1 : ((n : Int) != (n : Int)) = false := bne_self_eq_false _
    clear hn
    go_enter Try.func45, Try.ntmps45
    go_wp2_with (go_at_call 55; (with_reducible refine cV.mono ?_); rintro e w' ⟨rfl, rfl⟩)
    go_ret2
    exact ⟨rfl, rfl⟩
  · rw [box_two] at *
    have hn' : (n : Int) < 65536 := by omega
    have n1 : ((n : Int) != (n : Int)) = false := bne_self_eq_false _
    clear hn
    go_enter Try.func45, Try.ntmps45
    go_wp2_with (go_at_call 55; (with_reducible refine cV.mono ?_); rintro e w' ⟨rfl, rfl⟩)
    go_ret2
    exact ⟨rfl, rfl⟩
  · rw [box_four] at *
    have hn' : (n : Int) < 4294967296 := by omega
    have n1 : ((n : Int) != (n : Int)) = false := bne_self_eq_false _
    clear hn
    go_enter Try.func45, Try.ntmps45
    go_wp2_with (go_at_call 55; (with_reducible refine cV.mono ?_); rintro e w' ⟨rfl, rfl⟩)
    go_ret2
    exact ⟨rfl, rfl⟩
set_option maxRecDepth 100000 in
/-- No such size. -/
theorem sized_not (n s : Int) (w : World) (h : ¬ (s = 1 ∨ s = 2 ∨ s = 4)) :
    Calls Try.prog 45 #[.int .i64 n, .int .i64 s] w fun e w' => e = .returned (.tuple #[.nilIface, .int .i64 1]) ∧ w = w' := by
  have n1 : (s == 1) = false := beq_eq_false_iff_ne.2 fun k => h (.inl k)
  have n2 : (s == 2) = false := beq_eq_false_iff_ne.2 fun k => h (.inr (.inl k))
  have n3 : (s == 4) = false := beq_eq_false_iff_ne.2 fun k => h (.inr (.inr k))
  clear h
  go_enter Try.func45, Try.ntmps45
  go_wp2
  go_ret2
  exact ⟨rfl, rfl⟩
set_option maxRecDepth 100000 in
/-- A number that does not fit. -/
theorem sized_big (k : Nat) (n : Int) (w : World) (hk : Sz k) (hn : n < 0 ∨ 256 ^ k ≤ n) :
    Calls Try.prog 45 #[.int .i64 n, .int .i64 k] w fun e w' => e = .returned (.tuple #[.nilIface, .int .i64 1]) ∧ w = w' := by
  rcases hk with rfl | rfl | rfl
  · have hm : (n % 256) ≠ n := by omega
    obtain ⟨m, hm2⟩ : ∃ m : Nat, n % 256 = m := ⟨(n % 256).toNat, by omega⟩
    have cV := value_any 1 m w (.inl rfl) (by omega)
    rw [box_one, ← hm2] at cV
    have n1 : ((n % 256) != n) = true := bne_iff_ne.2 hm
    have n2 : ((n % 256) == n) = false := beq_eq_false_iff_ne.2 hm
    clear hn hm hm2
    go_enter Try.func45, Try.ntmps45
    go_wp2_with (go_at_call 55; (with_reducible refine cV.mono ?_); rintro e w' ⟨rfl, rfl⟩)
    go_ret2
    exact ⟨rfl, rfl⟩
  · have hx : IntKind.u16.wrap n = n % 65536 := by simp [IntKind.wrap, IntKind.bits, IntKind.signed]
    have hm : IntKind.u16.wrap n ≠ n := by omega
    obtain ⟨m, hm2⟩ : ∃ m : Nat, IntKind.u16.wrap n = m := ⟨(n % 65536).toNat, by omega⟩
    have cV := value_any 2 m w (.inr (.inl rfl)) (by omega)
    rw [box_two, ← hm2] at cV
    have n1 : (IntKind.u16.wrap n != n) = true := bne_iff_ne.2 hm
    have n2 : (IntKind.u16.wrap n == n) = false := beq_eq_false_iff_ne.2 hm
    clear hx
    clear hn hm hm2
    go_enter Try.func45, Try.ntmps45
    go_wp2_with (go_at_call 55; (with_reducible refine cV.mono ?_); rintro e w' ⟨rfl, rfl⟩)
    go_ret2
    exact ⟨rfl, rfl⟩
  · have hm : (n % 4294967296) ≠ n := by omega
    obtain ⟨m, hm2⟩ : ∃ m : Nat, n % 4294967296 = m := ⟨(n % 4294967296).toNat, by omega⟩
    have cV := value_any 4 m w (.inr (.inr rfl)) (by omega)
    rw [box_four, ← hm2] at cV
    have n1 : ((n % 4294967296) != n) = true := bne_iff_ne.2 hm
    have n2 : ((n % 4294967296) == n) = false := beq_eq_false_iff_ne.2 hm
    clear hn hm hm2
    go_enter Try.func45, Try.ntmps45
    go_wp2_with (go_at_call 55; (with_reducible refine cV.mono ?_); rintro e w' ⟨rfl, rfl⟩)
    go_ret2
    exact ⟨rfl, rfl⟩
theorem not_fits {n s : Int} (h : ¬ Fits n s) : ¬ (s = 1 ∨ s = 2 ∨ s = 4) ∨ ∃ k : Nat, s = k ∧ Sz k ∧ (n < 0 ∨ 256 ^ k ≤ n) := by
  by_cases hs : s = 1 ∨ s = 2 ∨ s = 4
  · refine .inr ⟨s.toNat, by omega, by unfold Sz; omega, ?_⟩
    by_cases h0 : n < 0
    · exact .inl h0
    · refine .inr ?_
      by_cases h1 : 256 ^ s.toNat ≤ n
      · exact h1
      · refine absurd ⟨s.toNat, n.toNat, by omega, by omega, by unfold Sz; omega, ?_⟩ h
        have : ((256 ^ s.toNat : Nat) : Int) = 256 ^ s.toNat := by simp
        omega
  · exact .inl hs
theorem sized_no (n s : Int) (w : World) (h : ¬ Fits n s) :
    Calls Try.prog 45 #[.int .i64 n, .int .i64 s] w fun e w' => e = .returned (.tuple #[.nilIface, .int .i64 1]) ∧ w = w' := by
  rcases not_fits h with h | ⟨k, rfl, hk, hn⟩
  · exact sized_not n s w h
  · exact sized_big k n w hk hn
end Go.Proofs.Ytldknkikekaifaa.pck
