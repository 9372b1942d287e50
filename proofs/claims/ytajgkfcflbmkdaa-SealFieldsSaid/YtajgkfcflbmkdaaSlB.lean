/-
  Package seal's Make, by its contract. Conditions: payloads shorter than 2^20.
-/
import Derived.Test.YtajgkfcflbmkdaaSlA
namespace Go.Proofs.Ytajgkfcflbmkdaa.sel
open Go.RowKit Go.Lib
open Go.Proofs.Ytajgkfcflbmkdaa.pck (Put AllFit Rowed bytesOf le le_length row_any part_ok part_long put_ok Fits own_far)
open Go.Proofs.Ytajgkfcflbmkdaa.crc (sum sum_lt of_any)

/-- A sector's value. -/
def secV (a s : Int) (A : Option Addr) (n c : Nat) : Value := .agg #[.int .i64 a, .int .i64 s, .slice A n c]
/-- What Make answers. -/
def Made (base : Nat) (r : Mk) (e : Ending) (w' : World) : Prop := ∃ v, e = .returned (.tuple #[v, .int .i64 r.err]) ∧ Own w' base 5 v r.bytes

theorem two_fit {a s : Int} : AllFit [(a, 2), (s, 4)] ↔ OkS a s := by
  constructor
  · intro h
    obtain ⟨k, m, hs, hn, hk, hm⟩ := h (a, 2) (by simp)
    obtain ⟨k', m', hs', hn', hk', hm'⟩ := h (s, 4) (by simp)
    simp only at hs hn hs' hn'
    obtain rfl : k = 2 := by omega
    obtain rfl : k' = 4 := by omega
    refine ⟨by omega, by omega, by omega, by omega⟩
  · rintro ⟨h1, h2, h3, h4⟩ p hp
    simp only [List.mem_cons, List.not_mem_nil, or_false] at hp
    rcases hp with rfl | rfl
    · exact ⟨2, a.toNat, rfl, by simp only; omega, .inr (.inl rfl), by omega⟩
    · exact ⟨4, s.toNat, rfl, by simp only; omega, .inr (.inr rfl), by omega⟩
theorem two_bytes (a s : Int) : bytesOf [(a, 2), (s, 4)] = le 2 a.toNat ++ le 4 s.toNat := by simp [bytesOf]
theorem row_two (a s : Int) (W : World) (g1 g2 c1 c2 : Nat) (t1 t2 : TypeId) (f1 f2 : Nat × Nat) (h1 : W.heap[g1]? = some (.cells #[.int .i64 a, .int .i64 s] t1 f1)) (h2 : W.heap[g2]? = some (.cells #[.int .i64 2, .int .i64 4] t2 f2)) :
    Calls Try.prog 23 #[.slice (some ⟨g1, 0, none⟩) 2 c1, .slice (some ⟨g2, 0, none⟩) 2 c2] W fun e w' => Rowed W.heap.size [(a, 2), (s, 4)] e w' ∧ Below W.heap.size W w' := by
  have l1 : g1 < W.heap.size := by
    rcases Nat.lt_or_ge g1 W.heap.size with k | k
    · exact k
    · rw [Array.getElem?_eq_none k] at h1; cases h1
  have l2 : g2 < W.heap.size := by
    rcases Nat.lt_or_ge g2 W.heap.size with k | k
    · exact k
    · rw [Array.getElem?_eq_none k] at h2; cases h2
  exact row_any 2 (some ⟨g1, 0, none⟩) (some ⟨g2, 0, none⟩) c1 c2 [(a, 2), (s, 4)] W rfl (by omega) (SlV.of_block h1 rfl l1) (SlV.of_block h2 rfl l2)
theorem row_two_no (a s : Int) (ho : ¬ OkS a s) (W : World) (g1 g2 c1 c2 : Nat) (t1 t2 : TypeId) (f1 f2 : Nat × Nat) (h1 : W.heap[g1]? = some (.cells #[.int .i64 a, .int .i64 s] t1 f1)) (h2 : W.heap[g2]? = some (.cells #[.int .i64 2, .int .i64 4] t2 f2)) :
    Calls Try.prog 23 #[.slice (some ⟨g1, 0, none⟩) 2 c1, .slice (some ⟨g2, 0, none⟩) 2 c2] W fun e w' => e = .returned (.tuple #[.slice none 0 0, .int .i64 1]) ∧ Below W.heap.size W w' := by
  refine (row_two a s W g1 g2 c1 c2 t1 t2 f1 f2 h1 h2).mono ?_
  rintro e w' ⟨h | h, hb⟩
  · exact absurd (two_fit.1 h.1) ho
  · exact ⟨h.2, hb⟩
theorem row_two_ok (a s : Int) (ho : OkS a s) (W : World) (g1 g2 c1 c2 : Nat) (t1 t2 : TypeId) (f1 f2 : Nat × Nat) (h1 : W.heap[g1]? = some (.cells #[.int .i64 a, .int .i64 s] t1 f1)) (h2 : W.heap[g2]? = some (.cells #[.int .i64 2, .int .i64 4] t2 f2)) :
    Calls Try.prog 23 #[.slice (some ⟨g1, 0, none⟩) 2 c1, .slice (some ⟨g2, 0, none⟩) 2 c2] W fun e w' => (∃ X x, e = .returned (.tuple #[.slice X 6 x, .int .i64 0]) ∧ 6 ≤ x ∧ x ≤ maxLen ∧ Sl w' w'.heap.size X (le 2 a.toNat ++ le 4 s.toNat)) ∧ Below W.heap.size W w' := by
  refine (row_two a s W g1 g2 c1 c2 t1 t2 f1 f2 h1 h2).mono ?_
  rintro e w' ⟨h | h, hb⟩
  · obtain ⟨-, v, rfl, ho⟩ := h
    rw [two_bytes] at ho
    obtain ⟨X, x, hv, h6, hm, hs, -⟩ := ho.form
    have hl : (le 2 a.toNat ++ le 4 s.toNat).length = 6 := by rw [List.length_append, le_length, le_length]
    rw [hl] at hv h6
    subst hv
    exact ⟨⟨X, x, rfl, h6, hm, hs⟩, hb⟩
  · exact absurd (two_fit.2 ho) h.1
theorem kal {a W : World} (h : Below a.heap.size a W) (o : Obj) : Below a.heap.size a (W.alloc o) := h.alloc h.size o
theorem old_new (w : World) (o o' : Obj) : ((w.alloc o).alloc o').heap[w.heap.size]? = some o := (heap_alloc_old _ _ (by simp)).trans (heap_alloc_new w o)
theorem new_new (w : World) (o o' : Obj) : ((w.alloc o).alloc o').heap[w.heap.size + 1]? = some o' := by
  have := heap_alloc_new (w.alloc o) o'
  rwa [show (w.alloc o).heap.size = w.heap.size + 1 by simp] at this
theorem kst {a W : World} (h : Below a.heap.size a W) {b o : Nat} {v : Value} (hb : b < a.heap.size) (hv : a.cell? ⟨b, o, none⟩ = some v) : W.cell? ⟨b, o, none⟩ = some v := (h.cell (p := ⟨b, o, none⟩) hb).trans hv
/-- Numbers ahead of sizes, or behind them. -/
theorem row_orders {Q : Ending → World → Prop} {a s : Int} (w0 : World)
    (h : ∀ (W : World) (g1 g2 c1 c2 : Nat) (t1 t2 : TypeId) (f1 f2 : Nat × Nat), W.heap[g1]? = some (.cells #[.int .i64 a, .int .i64 s] t1 f1) → W.heap[g2]? = some (.cells #[.int .i64 2, .int .i64 4] t2 f2) →
      Calls Try.prog 23 #[.slice (some ⟨g1, 0, none⟩) 2 c1, .slice (some ⟨g2, 0, none⟩) 2 c2] W fun e w' => Q e w' ∧ Below W.heap.size W w') :
    Calls Try.prog 23 #[.slice (some ⟨w0.heap.size, 0, none⟩) 2 2, .slice (some ⟨w0.heap.size + 1, 0, none⟩) 2 2] ((w0.alloc (.cells #[.int .i64 a, .int .i64 s] 3)).alloc (.cells #[.int .i64 2, .int .i64 4] 3)).drew (fun e w' => Q e w' ∧ Below w0.heap.size w0 w') ∧
    Calls Try.prog 23 #[.slice (some ⟨w0.heap.size + 1, 0, none⟩) 2 2, .slice (some ⟨w0.heap.size, 0, none⟩) 2 2] ((w0.alloc (.cells #[.int .i64 2, .int .i64 4] 3)).alloc (.cells #[.int .i64 a, .int .i64 s] 3)).drew (fun e w' => Q e w' ∧ Below w0.heap.size w0 w') := by
  have h1 := h ((w0.alloc (.cells #[.int .i64 a, .int .i64 s] 3)).alloc (.cells #[.int .i64 2, .int .i64 4] 3)).drew w0.heap.size (w0.heap.size + 1) 2 2 3 3 (0, 0) (0, 0) (old_new w0 _ _) (new_new w0 _ _)
  have h2 := h ((w0.alloc (.cells #[.int .i64 2, .int .i64 4] 3)).alloc (.cells #[.int .i64 a, .int .i64 s] 3)).drew (w0.heap.size + 1) w0.heap.size 2 2 3 3 (0, 0) (0, 0) (new_new w0 _ _) (old_new w0 _ _)
  refine ⟨h1.mono ?_, h2.mono ?_⟩
  · rintro e w' ⟨hq, hb⟩
    exact ⟨hq, bt (below_dr (kal (kal (Below.refl _ _) _) _)) hb⟩
  · rintro e w' ⟨hq, hb⟩
    exact ⟨hq, bt (below_dr (kal (kal (Below.refl _ _) _) _)) hb⟩

set_option maxHeartbeats 1000000 in
theorem make_arg (a s : Int) (A : Option Addr) (n c : Nat) (w : World) (ho : ¬ OkS a s) :
    Calls Try.prog 11 #[.agg #[.int .i64 a, .int .i64 s, .slice A n c]] w fun e w' => e = .returned (.tuple #[.slice none 0 0, .int .i64 1]) ∧ Below w.heap.size w w' := by
  have cR := row_two_no a s ho
  have hb0 := bl w (.cells #[.int .i64 a, .int .i64 s, .slice A n c] 24)
  have g0 : (w.alloc (.cells #[.int .i64 a, .int .i64 s, .slice A n c] 24)).cell? ⟨w.heap.size, 0, none⟩ = some (.int .i64 a) := by rw [cell_of_row _ _ 0 _ _ _ (heap_alloc_new w _)]; rfl
  have g1 : (w.alloc (.cells #[.int .i64 a, .int .i64 s, .slice A n c] 24)).cell? ⟨w.heap.size, 1, none⟩ = some (.int .i64 s) := by rw [cell_of_row _ _ 1 _ _ _ (heap_alloc_new w _)]; rfl
  have hl : w.heap.size < (w.alloc (.cells #[.int .i64 a, .int .i64 s, .slice A n c] 24)).heap.size := by simp
  clear ho
  go_enter Try.func11, Try.ntmps11
  go_wp2
  generalize w.alloc (.cells #[.int .i64 a, .int .i64 s, .slice A n c] 24) = w0 at *
  have HR := row_orders w0 cR
  have H1 := Lib.hid HR.1
  have H2 := Lib.hid HR.2
  clear cR HR
  go_region_held3 (fun W => W.cell? ⟨w.heap.size, 0, none⟩ = some (.int .i64 a) ∧ W.cell? ⟨w.heap.size, 1, none⟩ = some (.int .i64 s) ∧ Below w0.heap.size w0 W)
    ((go_split_ands; refine ⟨?_, ?_, ?_⟩ <;> (first
      | assumption | exact below_dr (Below.refl _ _) | exact below_dr (kal (Below.refl _ _) _) | exact below_dr (kal (kal (Below.refl _ _) _) _)
      | exact kst (below_dr (Below.refl _ _)) hl (by assumption) | exact kst (below_dr (kal (Below.refl _ _) _)) hl (by assumption) | exact kst (below_dr (kal (kal (Below.refl _ _) _) _)) hl (by assumption) | exact kst (by assumption) hl (by assumption) | fail)))
    (first
      | (go_at_call 24; (with_reducible refine (sizes_any _).mono ?_); rintro e w1 ⟨rfl, rfl⟩)
      | (go_at_call 23; (with_reducible refine H1.out.mono ?_); rintro e w1 ⟨rfl, hb1⟩)
      | (go_at_call 23; (with_reducible refine H2.out.mono ?_); rintro e w1 ⟨rfl, hb1⟩))
  all_goals
    go_wp2
    go_ret2
    exact ⟨rfl, bt hb0 hb1⟩

/-- A slice that an answer bears: its bytes, somewhere. -/
def Lies (w' : World) (X : Option Addr) (x : Nat) (l : List UInt8) : Prop := l.length ≤ x ∧ x ≤ maxLen ∧ Sl w' w'.heap.size X l
theorem part_form (n : Nat) (A : Option Addr) (c : Nat) (l : List UInt8) (w : World) (hln : l.length = n) (hl : n ≤ 255) (hA : Sl w w.heap.size A l) :
    Calls Try.prog 25 #[.slice A n c] w fun e w' => (∃ X x, e = .returned (.tuple #[.slice X (n + 1) x, .int .i64 0]) ∧ Lies w' X x (le 1 n ++ l)) ∧ Below w.heap.size w w' := by
  refine (part_ok n A c l w hln hl hA).mono ?_
  rintro e w' ⟨⟨v, rfl, ho⟩, hb⟩
  obtain ⟨X, x, hv, hx, hm, hs, -⟩ := ho.form
  have : (le 1 n ++ l).length = n + 1 := by rw [List.length_append, le_length]; omega
  rw [this] at hv
  subst hv
  exact ⟨⟨X, x, rfl, hx, hm, hs⟩, hb⟩
theorem concat_two (X1 X2 : Option Addr) (x1 x2 n1 n2 : Nat) (l1 l2 : List UInt8) (W : World) (h1 : l1.length = n1) (h2 : l2.length = n2) (hb : n1 + n2 ≤ 1048576) (s1 : Sl W W.heap.size X1 l1) (s2 : Sl W W.heap.size X2 l2) :
    Calls Try.prog 26 #[.slice (some ⟨W.heap.size, 0, none⟩) 2 2] (W.alloc (.cells #[.slice X1 n1 x1, .slice X2 n2 x2] 22)) fun e w' => (∃ X x, e = .returned (.slice X (n1 + n2) x) ∧ Lies w' X x (l1 ++ l2)) ∧ Below W.heap.size W w' := by
  subst h1 h2
  have hB := bl W (.cells #[.slice X1 l1.length x1, .slice X2 l2.length x2] 22)
  have hf : flats [⟨X1, x1, l1⟩, ⟨X2, x2, l2⟩] = l1 ++ l2 := by simp [flats]
  have hc := concat_any (some ⟨W.heap.size, 0, none⟩) 2 _ 2 [⟨X1, x1, l1⟩, ⟨X2, x2, l2⟩] (W.alloc (.cells #[.slice X1 l1.length x1, .slice X2 l2.length x2] 22)) rfl (SlV.of_block (heap_alloc_new W _) rfl (by simp))
    (fun r hr => by
      simp only [List.mem_cons, List.not_mem_nil, or_false] at hr
      rcases hr with rfl | rfl
      · exact (s1.below hB).more hB.size
      · exact (s2.below hB).more hB.size) (Nat.le_refl _) (by omega) (by rw [hf, List.length_append]; exact hb)
  rw [hf] at hc
  refine hc.mono ?_
  rintro e w' ⟨⟨v, rfl, ho⟩, hb'⟩
  obtain ⟨X, x, hv, hx, hm, hs, -⟩ := ho.form
  rw [List.length_append] at hv
  subst hv
  exact ⟨⟨X, x, rfl, hx, hm, hs⟩, bt hB hb'⟩
set_option maxHeartbeats 1000000 in
theorem make_long (a s : Int) (A : Option Addr) (n c : Nat) (w : World) (ho : OkS a s) (hn : 255 < n) :
    Calls Try.prog 11 #[.agg #[.int .i64 a, .int .i64 s, .slice A n c]] w fun e w' => e = .returned (.tuple #[.slice none 0 0, .int .i64 2]) ∧ Below w.heap.size w w' := by
  have cR := row_two_ok a s ho
  have cP := fun W => part_long n c A W hn
  have hb0 := bl w (.cells #[.int .i64 a, .int .i64 s, .slice A n c] 24)
  have g0 : (w.alloc (.cells #[.int .i64 a, .int .i64 s, .slice A n c] 24)).cell? ⟨w.heap.size, 0, none⟩ = some (.int .i64 a) := by rw [cell_of_row _ _ 0 _ _ _ (heap_alloc_new w _)]; rfl
  have g1 : (w.alloc (.cells #[.int .i64 a, .int .i64 s, .slice A n c] 24)).cell? ⟨w.heap.size, 1, none⟩ = some (.int .i64 s) := by rw [cell_of_row _ _ 1 _ _ _ (heap_alloc_new w _)]; rfl
  have g2 : (w.alloc (.cells #[.int .i64 a, .int .i64 s, .slice A n c] 24)).cell? ⟨w.heap.size, 2, none⟩ = some (.slice A n c) := by rw [cell_of_row _ _ 2 _ _ _ (heap_alloc_new w _)]; rfl
  have hl : w.heap.size < (w.alloc (.cells #[.int .i64 a, .int .i64 s, .slice A n c] 24)).heap.size := by simp
  clear ho
  go_enter Try.func11, Try.ntmps11
  go_wp2
  generalize w.alloc (.cells #[.int .i64 a, .int .i64 s, .slice A n c] 24) = w0 at *
  have HR := row_orders w0 cR
  have H1 := Lib.hid HR.1
  have H2 := Lib.hid HR.2
  clear cR HR
  go_region_held3 (fun W => W.cell? ⟨w.heap.size, 0, none⟩ = some (.int .i64 a) ∧ W.cell? ⟨w.heap.size, 1, none⟩ = some (.int .i64 s) ∧ Below w0.heap.size w0 W)
    ((go_split_ands; refine ⟨?_, ?_, ?_⟩ <;> (first
      | assumption | exact below_dr (Below.refl _ _) | exact below_dr (kal (Below.refl _ _) _) | exact below_dr (kal (kal (Below.refl _ _) _) _)
      | exact kst (below_dr (Below.refl _ _)) hl (by assumption) | exact kst (below_dr (kal (Below.refl _ _) _)) hl (by assumption) | exact kst (below_dr (kal (kal (Below.refl _ _) _) _)) hl (by assumption) | exact kst (by assumption) hl (by assumption) | fail)))
    (first
      | (go_at_call 24; (with_reducible refine (sizes_any _).mono ?_); rintro e w1 ⟨rfl, rfl⟩)
      | (go_at_call 23; (with_reducible refine H1.out.mono ?_); rintro e w1 ⟨⟨X1, x1, rfl, hx1, hx1m, hs1⟩, hb1⟩)
      | (go_at_call 23; (with_reducible refine H2.out.mono ?_); rintro e w1 ⟨⟨X1, x1, rfl, hx1, hx1m, hs1⟩, hb1⟩))
  all_goals
    have k2 := kst hb1 hl g2
    clear H1 H2 g0 g1 g2
    go_wp2_with (first
      | (go_at_call 25; (with_reducible refine (cP _).mono ?_); rintro e w2 ⟨rfl, rfl⟩))
    go_ret2
    exact ⟨rfl, bt hb0 hb1⟩

set_option maxHeartbeats 1000000 in
theorem make_big (a s : Int) (A : Option Addr) (n c : Nat) (w : World) (l : List UInt8) (ho : OkS a s) (hln : l.length = n) (hn : 96 < n) (hn2 : n ≤ 255) (hA : Sl w w.heap.size A l) :
    Calls Try.prog 11 #[.agg #[.int .i64 a, .int .i64 s, .slice A n c]] w fun e w' => e = .returned (.tuple #[.slice none 0 0, .int .i64 2]) ∧ Below w.heap.size w w' := by
  have cR := row_two_ok a s ho
  have hb0 := bl w (.cells #[.int .i64 a, .int .i64 s, .slice A n c] 24)
  have g0 : (w.alloc (.cells #[.int .i64 a, .int .i64 s, .slice A n c] 24)).cell? ⟨w.heap.size, 0, none⟩ = some (.int .i64 a) := by rw [cell_of_row _ _ 0 _ _ _ (heap_alloc_new w _)]; rfl
  have g1 : (w.alloc (.cells #[.int .i64 a, .int .i64 s, .slice A n c] 24)).cell? ⟨w.heap.size, 1, none⟩ = some (.int .i64 s) := by rw [cell_of_row _ _ 1 _ _ _ (heap_alloc_new w _)]; rfl
  have g2 : (w.alloc (.cells #[.int .i64 a, .int .i64 s, .slice A n c] 24)).cell? ⟨w.heap.size, 2, none⟩ = some (.slice A n c) := by rw [cell_of_row _ _ 2 _ _ _ (heap_alloc_new w _)]; rfl
  have hl : w.heap.size < (w.alloc (.cells #[.int .i64 a, .int .i64 s, .slice A n c] 24)).heap.size := by simp
  clear ho
  have i1 : (96 : Int) < (n : Int) := by omega
  go_enter Try.func11, Try.ntmps11
  go_wp2
  generalize w.alloc (.cells #[.int .i64 a, .int .i64 s, .slice A n c] 24) = w0 at *
  have HR := row_orders w0 cR
  have H1 := Lib.hid HR.1
  have H2 := Lib.hid HR.2
  clear cR HR
  go_region_held3 (fun W => W.cell? ⟨w.heap.size, 0, none⟩ = some (.int .i64 a) ∧ W.cell? ⟨w.heap.size, 1, none⟩ = some (.int .i64 s) ∧ Below w0.heap.size w0 W)
    ((go_split_ands; refine ⟨?_, ?_, ?_⟩ <;> (first
      | assumption | exact below_dr (Below.refl _ _) | exact below_dr (kal (Below.refl _ _) _) | exact below_dr (kal (kal (Below.refl _ _) _) _)
      | exact kst (below_dr (Below.refl _ _)) hl (by assumption) | exact kst (below_dr (kal (Below.refl _ _) _)) hl (by assumption) | exact kst (below_dr (kal (kal (Below.refl _ _) _) _)) hl (by assumption) | exact kst (by assumption) hl (by assumption) | fail)))
    (first
      | (go_at_call 24; (with_reducible refine (sizes_any _).mono ?_); rintro e w1 ⟨rfl, rfl⟩)
      | (go_at_call 23; (with_reducible refine H1.out.mono ?_); rintro e w1 ⟨⟨X1, x1, rfl, hx1, hx1m, hs1⟩, hb1⟩)
      | (go_at_call 23; (with_reducible refine H2.out.mono ?_); rintro e w1 ⟨⟨X1, x1, rfl, hx1, hx1m, hs1⟩, hb1⟩))
  all_goals
    have hb01 := bt hb0 hb1
    have k2 := kst hb1 hl g2
    have cP := part_form n A c l w1 hln hn2 ((hA.below hb01).more hb01.size)
    clear H1 H2 g0 g1 hA
    go_wp2_with (first
      | (go_at_call 25; (with_reducible refine cP.mono ?_); rintro e w2 ⟨⟨X2, x2, rfl, hs2⟩, hb2⟩; have k3 := kst (bt hb1 hb2) hl g2))
    go_ret2
    exact ⟨rfl, bt hb01 hb2⟩

set_option maxHeartbeats 1000000 in
theorem make_ok' (a s : Int) (A : Option Addr) (n c q : Nat) (w : World) (l L1 L2 L : List UInt8) (e1 : le 1 n ++ l = L1) (e2 : le 2 a.toNat ++ le 4 s.toNat = L2) (e3 : L1 ++ L2 = L) (e4 : sum L = q) (ho : OkS a s) (hln : l.length = n) (hn : n ≤ 96) (hA : Sl w w.heap.size A l) :
    Calls Try.prog 11 #[.agg #[.int .i64 a, .int .i64 s, .slice A n c]] w fun e w' => Put w.heap.size (L ++ le 4 q) e w' ∧ Below w.heap.size w w' := by
  have cR := row_two_ok a s ho
  have f1 : L1.length = n + 1 := by rw [← e1, List.length_append, le_length]; omega
  have f2 : L2.length = 6 := by rw [← e2, List.length_append, le_length, le_length]
  have f3 : L.length = n + 1 + 6 := by rw [← e3, List.length_append]; omega
  have hsl : q < 256 ^ 4 := by rw [← e4]; exact sum_lt L
  rw [e2] at cR
  have E1 := Lib.hid e1
  have E3 := Lib.hid e3
  have E4 := Lib.hid e4
  have F1 := Lib.hid f1
  have F2 := Lib.hid f2
  have F3 := Lib.hid f3
  clear e1 e2 e3 e4 f1 f2 f3
  have hb0 := bl w (.cells #[.int .i64 a, .int .i64 s, .slice A n c] 24)
  have g0 : (w.alloc (.cells #[.int .i64 a, .int .i64 s, .slice A n c] 24)).cell? ⟨w.heap.size, 0, none⟩ = some (.int .i64 a) := by rw [cell_of_row _ _ 0 _ _ _ (heap_alloc_new w _)]; rfl
  have g1 : (w.alloc (.cells #[.int .i64 a, .int .i64 s, .slice A n c] 24)).cell? ⟨w.heap.size, 1, none⟩ = some (.int .i64 s) := by rw [cell_of_row _ _ 1 _ _ _ (heap_alloc_new w _)]; rfl
  have g2 : (w.alloc (.cells #[.int .i64 a, .int .i64 s, .slice A n c] 24)).cell? ⟨w.heap.size, 2, none⟩ = some (.slice A n c) := by rw [cell_of_row _ _ 2 _ _ _ (heap_alloc_new w _)]; rfl
  have hl : w.heap.size < (w.alloc (.cells #[.int .i64 a, .int .i64 s, .slice A n c] 24)).heap.size := by simp
  clear ho
  have i1 : ¬ (96 : Int) < (n : Int) := by omega
  go_enter Try.func11, Try.ntmps11
  go_wp2
  generalize w.alloc (.cells #[.int .i64 a, .int .i64 s, .slice A n c] 24) = w0 at *
  have HR := row_orders w0 cR
  have H1 := Lib.hid HR.1
  have H2 := Lib.hid HR.2
  clear cR HR
  go_region_held3 (fun W => W.cell? ⟨w.heap.size, 0, none⟩ = some (.int .i64 a) ∧ W.cell? ⟨w.heap.size, 1, none⟩ = some (.int .i64 s) ∧ Below w0.heap.size w0 W)
    ((go_split_ands; refine ⟨?_, ?_, ?_⟩ <;> (first
      | assumption | exact below_dr (Below.refl _ _) | exact below_dr (kal (Below.refl _ _) _) | exact below_dr (kal (kal (Below.refl _ _) _) _)
      | exact kst (below_dr (Below.refl _ _)) hl (by assumption) | exact kst (below_dr (kal (Below.refl _ _) _)) hl (by assumption) | exact kst (below_dr (kal (kal (Below.refl _ _) _) _)) hl (by assumption) | exact kst (by assumption) hl (by assumption) | fail)))
    (first
      | (go_at_call 24; (with_reducible refine (sizes_any _).mono ?_); rintro e w1 ⟨rfl, rfl⟩)
      | (go_at_call 23; (with_reducible refine H1.out.mono ?_); rintro e w1 ⟨⟨X1, x1, rfl, hx1, hx1m, hs1⟩, hb1⟩)
      | (go_at_call 23; (with_reducible refine H2.out.mono ?_); rintro e w1 ⟨⟨X1, x1, rfl, hx1, hx1m, hs1⟩, hb1⟩))
  all_goals
    have hb01 := bt hb0 hb1
    have k2 := kst hb1 hl g2
    have cP := part_form n A c l w1 hln (by omega) ((hA.below hb01).more hb01.size)
    have cC := fun (W : World) (X2 : Option Addr) (x2 : Nat) (h : Below w1.heap.size w1 W) (h2 : Lies W X2 x2 L1) => concat_two X2 X1 x2 x1 (n + 1) 6 L1 L2 W F1.out F2.out (by omega) h2.2.2 ((hs1.below h).more h.size)
    have cS := fun (W : World) (X : Option Addr) (x : Nat) (h : Lies W X x L) => of_any X x _ L W h.2.2 (by rw [F3.out]; unfold maxLen; omega)
    have cU : ∀ (W : World) (X : Option Addr) (x : Nat), Lies W X x L → Calls Try.prog 27 #[.slice X (n + 1 + 6) x, .int .i64 q, .int .i64 4] W fun e w' => Put W.heap.size (L ++ le 4 q) e w' ∧ Below W.heap.size W w' := fun (W : World) (X : Option Addr) (x : Nat) (h : Lies W X x L) => put_ok 4 q (n + 1 + 6) X x L W (.inr (.inr rfl)) hsl F3.out (by omega) h.2.2
    rw [E1.out] at cP
    rw [E3.out] at cC
    rw [E4.out, F3.out] at cS
    have HP := Lib.hid cP
    have HC := Lib.hid cC
    have HS := Lib.hid cS
    have HU := Lib.hid cU
    clear H1 H2 g0 g1 hA cP cC cS cU hln
    go_wp2_with (first
      | (go_at_call 25; (with_reducible refine HP.out.mono ?_); rintro e w2 ⟨⟨X2, x2, rfl, hs2⟩, hb2⟩; have k3 := kst (bt hb1 hb2) hl g2)
      | (go_at_call 26; (with_reducible refine (HC.out _ _ _ hb2 hs2).mono ?_); rintro e w3 ⟨⟨X3, x3, rfl, hs3⟩, hb3⟩)
      | (go_at_call 28; (with_reducible refine (HS.out _ _ _ hs3).mono ?_); rintro e w4 ⟨rfl, rfl⟩)
      | (go_at_call 27; (with_reducible refine (HU.out _ _ _ hs3).mono ?_); rintro e w5 ⟨⟨v5, rfl, hown5⟩, hb5⟩))
    have hb05 := bt hb01 (bt hb2 hb3)
    go_ret2
    exact ⟨⟨v5, rfl, hown5.less hb05.size⟩, bt hb05 hb5⟩

theorem make_ok (a s : Int) (A : Option Addr) (n c : Nat) (w : World) (l : List UInt8) (ho : OkS a s) (hln : l.length = n) (hn : n ≤ 96) (hA : Sl w w.heap.size A l) :
    Calls Try.prog 11 #[.agg #[.int .i64 a, .int .i64 s, .slice A n c]] w fun e w' => Put w.heap.size (enc a.toNat s.toNat l) e w' ∧ Below w.heap.size w w' := by
  have := make_ok' a s A n c _ w l _ _ _ rfl rfl rfl rfl ho hln hn hA
  subst hln
  exact this
/-- Make, whatever the sector. -/
theorem make_any (a s : Int) (A : Option Addr) (n c : Nat) (l : List UInt8) (w : World) (hln : l.length = n) (hA : Sl w w.heap.size A l) :
    Calls Try.prog 11 #[.agg #[.int .i64 a, .int .i64 s, .slice A n c]] w fun e w' => Made w.heap.size (made a s l) e w' ∧ Below w.heap.size w w' := by
  unfold made
  by_cases ho : OkS a s
  · rw [if_pos ho]
    by_cases h : 96 < l.length
    · rw [if_pos h]
      by_cases h2 : 255 < n
      · refine (make_long a s A n c w ho h2).mono ?_
        rintro e w' ⟨rfl, hb⟩
        exact ⟨⟨_, rfl, own_nil _ _ _⟩, hb⟩
      · refine (make_big a s A n c w l ho hln (by omega) (by omega) hA).mono ?_
        rintro e w' ⟨rfl, hb⟩
        exact ⟨⟨_, rfl, own_nil _ _ _⟩, hb⟩
    · rw [if_neg h]
      refine (make_ok a s A n c w l ho hln (by omega) hA).mono ?_
      rintro e w' ⟨⟨v, rfl, hv⟩, hb⟩
      exact ⟨⟨v, rfl, hv⟩, hb⟩
  · rw [if_neg ho]
    refine (make_arg a s A n c w ho).mono ?_
    rintro e w' ⟨rfl, hb⟩
    exact ⟨⟨_, rfl, own_nil _ _ _⟩, hb⟩
end Go.Proofs.Ytajgkfcflbmkdaa.sel
