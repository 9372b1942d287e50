/-
  The laws SumTables and SumFour, walked: each returns true for every input. No condition.
-/
import Derived.Test.YtehbecpijomhcaaSumC
namespace Go.Proofs.Ytehbecpijomhcaa.crc
open Go.RowKit Go.Lib

theorem wrap_mod (i : Int) (m : Nat) (hm : 0 < m) : ∃ a : Nat, a < m ∧ (IntKind.u64.wrap i).tmod (m : Int) = (a : Int) := by
  have h0 := wrap_nonneg i
  generalize IntKind.u64.wrap i = y at *
  rw [Int.tmod_eq_emod_of_nonneg h0]
  have h1 := Int.emod_nonneg y (show (m : Int) ≠ 0 by omega)
  have h2 := Int.emod_lt_of_pos y (show (0 : Int) < (m : Int) by omega)
  exact ⟨(y % (m : Int)).toNat, by omega, by omega⟩

theorem tables_go (i k : Int) (a b : Nat) (w : World) (ha : a < 256) (hb : b < 256) (hi : (IntKind.u64.wrap i).tmod 256 = (a : Int)) (hk : (IntKind.u64.wrap k).tmod 256 = (b : Int)) :
    Calls Try.prog 8 #[.int .i64 i, .int .i64 k] w fun e w' => e = .returned (.bool true) ∧ Below w.heap.size w w' := by
  have c1 := fun W => table_any a W ha
  have c2 := fun W => table_any b W hb
  have c3 := fun W => table_any (a ^^^ b) W (Nat.xor_lt_two_pow (n := 8) ha hb)
  have cW := wakes_any w
  have hxy : downs 8 a = downs 8 b ↔ a = b := ⟨fun h => downs_inj 8 (by omega) (by omega) h, fun h => by rw [h]⟩
  simp only [downs_xor] at c3
  have hx := downs_lt 8 (r := a) (by omega)
  have hy := downs_lt 8 (r := b) (by omega)
  generalize downs 8 a = x at *
  generalize downs 8 b = y at *
  have e1 : bits .xor .i64 (a : Int) (b : Int) = ((a ^^^ b : Nat) : Int) := bits_xor_i64 a b (by omega) (by omega)
  have e2 : bits .xor .i64 (x : Int) (y : Int) = ((x ^^^ y : Nat) : Int) := bits_xor_i64 x y (by omega) (by omega)
  have i1 : (0 : Int) ≤ (x : Int) := by omega
  have i2 : (x : Int) ≤ 4294967295 := by omega
  have q : ((x : Int) == (y : Int)) = ((a : Int) == (b : Int)) := by
    by_cases h : a = b
    · rw [hxy.2 h, h]; simp
    · rw [beq_eq_false_iff_ne.2 (show (x : Int) ≠ y from fun k => h (hxy.1 (by omega))), beq_eq_false_iff_ne.2 (show (a : Int) ≠ b by omega)]
  clear hxy
  go_enter Try.func8, Try.ntmps8
  go_wp2_with (first
    | (go_at_call 12; (with_reducible refine (c1 _).mono ?_); rintro e w1 ⟨rfl, rfl⟩)
    | (go_at_call 12; (with_reducible refine (c2 _).mono ?_); rintro e w1 ⟨rfl, rfl⟩)
    | (go_at_call 12; (with_reducible refine (c3 _).mono ?_); rintro e w1 ⟨rfl, rfl⟩)
    | (go_at_call 18; (with_reducible refine cW.mono ?_); rintro e w2 ⟨rfl, hb2⟩))
  go_ret
  exact ⟨rfl, hb2⟩
theorem sumTables_law (i k : Int) (w : World) :
    Calls Try.prog 8 #[.int .i64 i, .int .i64 k] w fun e w' => e = .returned (.bool true) ∧ Below w.heap.size w w' := by
  obtain ⟨a, ha, hi⟩ := wrap_mod i 256 (by omega)
  obtain ⟨b, hb, hk⟩ := wrap_mod k 256 (by omega)
  exact tables_go i k a b w ha hb hi hk

theorem heap1 (w : World) (o o' : Obj) : ((w.alloc o).alloc o').heap[w.heap.size]? = some o := by
  rw [heap_alloc_old (w.alloc o) o' (by simp)]
  exact heap_alloc_new w o
set_option maxHeartbeats 1000000 in
theorem sumFour_law (a b c d e f g h : UInt8) (w : World) :
    Calls Try.prog 6 #[.int .u8 a.toNat, .int .u8 b.toNat, .int .u8 c.toNat, .int .u8 d.toNat, .int .u8 e.toNat, .int .u8 f.toNat, .int .u8 g.toNat, .int .u8 h.toNat] w fun e w' => e = .returned (.bool true) ∧ Below w.heap.size w w' := by
  have sX : ∀ (W : World) (g' B : Nat) (t : TypeId) (fr : Nat × Nat), W.heap[g']? = some (.cells #[.int .u8 a.toNat, .int .u8 b.toNat, .int .u8 c.toNat, .int .u8 d.toNat] t fr) → g' < B → Sl W B (some ⟨g', 0, none⟩) [a, b, c, d] := fun W g' B t fr hg hB => Sl.of_block hg rfl hB
  have sY : ∀ (W : World) (g' B : Nat) (t : TypeId) (fr : Nat × Nat), W.heap[g']? = some (.cells #[.int .u8 e.toNat, .int .u8 f.toNat, .int .u8 g.toNat, .int .u8 h.toNat] t fr) → g' < B → Sl W B (some ⟨g', 0, none⟩) [e, f, g, h] := fun W g' B t fr hg hB => Sl.of_block hg rfl hB
  have cX : ∀ (W : World) (g' B : Nat), Sl W B (some ⟨g', 0, none⟩) [a, b, c, d] → Calls Try.prog 15 #[.slice (some ⟨g', 0, none⟩) 4 4] W fun e w' => e = .returned (.int .i64 (sum [a, b, c, d])) ∧ W = w' := fun W g' B hs => of_any _ 4 B _ W hs (by simp [maxLen])
  have cY : ∀ (W : World) (g' B : Nat), Sl W B (some ⟨g', 0, none⟩) [e, f, g, h] → Calls Try.prog 15 #[.slice (some ⟨g', 0, none⟩) 4 4] W fun e' w' => e' = .returned (.int .i64 (sum [e, f, g, h])) ∧ W = w' := fun W g' B hs => of_any _ 4 B _ W hs (by simp [maxLen])
  have cK : ∀ (W : World) (g1 g2 : Nat), Sl W W.heap.size (some ⟨g1, 0, none⟩) [a, b, c, d] → Sl W W.heap.size (some ⟨g2, 0, none⟩) [e, f, g, h] → Calls Try.prog 17 #[.slice (some ⟨g1, 0, none⟩) 4 4, .slice (some ⟨g2, 0, none⟩) 4 4] W fun e' w' => e' = .returned (.bool (decide ([a, b, c, d] = [e, f, g, h]))) ∧ Below W.heap.size W w' := fun W g1 g2 h1 h2 => keep_any _ _ 4 4 _ _ _ _ W h1 h2 (Nat.le_refl _) (Nat.le_refl _) (by simp)
  have hq : ((sum [a, b, c, d] : Int) == (sum [e, f, g, h] : Int)) = decide ([a, b, c, d] = [e, f, g, h]) := by
    by_cases hh : [a, b, c, d] = [e, f, g, h]
    · rw [hh, decide_eq_true rfl]; simp
    · rw [decide_eq_false hh]
      exact beq_eq_false_iff_ne.2 fun k => hh (sum_four rfl rfl (by omega))
  generalize sum [a, b, c, d] = x at cX hq
  generalize sum [e, f, g, h] = y at cY hq
  generalize decide ([a, b, c, d] = [e, f, g, h]) = z at cK hq
  cases z
  all_goals
    go_enter Try.func6, Try.ntmps6
    go_wp2_with (first
      | (go_at_call 15
         (with_reducible refine (cX _ _ _ (sX _ _ (w.heap.size + 2) _ _ (heap1 _ _ _) (by omega))).mono ?_)
         rintro e w1 ⟨rfl, rfl⟩)
      | (go_at_call 15
         (with_reducible refine (cY _ _ _ (sY _ _ (w.heap.size + 2) _ _ (heap2 _ _ _) (by omega))).mono ?_)
         rintro e w1 ⟨rfl, rfl⟩)
      | (go_at_call 17
         (with_reducible refine (cK _ _ _ (sX _ _ _ _ _ (heap1 _ _ _) (by simp; omega)) (sY _ _ _ _ _ (heap2 _ _ _) (by simp))).mono ?_)
         rintro e w3 ⟨rfl, hb3⟩
         have hb4 := bt (((Below.refl w.heap.size w).alloc (Nat.le_refl _) _).alloc (by simp) _) hb3)
      | (go_at_call 18; (with_reducible refine (wakes_any _).mono ?_); rintro e w5 ⟨rfl, hb5⟩; have hb6 := bt hb4 hb5))
    go_ret
    exact ⟨rfl, hb6⟩
end Go.Proofs.Ytehbecpijomhcaa.crc
