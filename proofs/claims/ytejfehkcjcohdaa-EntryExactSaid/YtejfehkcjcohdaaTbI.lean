/-
  Package table: what parse comes to. Conditions: rows shorter than 2^20.
-/
import Derived.Test.YtejfehkcjcohdaaTbH
namespace Go.Proofs.Ytejfehkcjcohdaa.tbl
open Go.RowKit Go.Shelf Go.Lib
open Go.Proofs.Ytejfehkcjcohdaa.gmt (Ok)
open Go.Proofs.Ytejfehkcjcohdaa.anc (flat_get flat_len slv_cell bl kal kst ks bm ka row_form row_below)
open Go.Proofs.Ytejfehkcjcohdaa.pck (le le_length num unrow behind behind_nil behind_next Unrowed unrow_any)
attribute [local go_sem] Oper.semAt_some

theorem behind_ok (l t : List Int) (r : List UInt8) : behind l (.ok (t, r)) = .ok (l ++ t, r) := rfl
theorem behind_err (l : List Int) (x : Int) : behind l (.error x) = .error x := rfl
theorem unrow_step (k : Nat) (s : Int) (ss : List Int) (b : List UInt8) (hs : s = 1 ∨ s = 2 ∨ s = 4) (hk : s = k) :
    unrow (s :: ss) b = if b.length < k then .error 4 else behind [(num (b.take k) : Int)] (unrow ss (b.drop k)) := by
  subst hk
  by_cases h : b.length < k
  · rw [unrow, if_pos hs, if_pos (by rw [Int.toNat_natCast]; exact h), if_pos h]
  · rw [if_neg h]
    have := behind_next (l := []) (ss := ss) (b := b) hs (by rw [Int.toNat_natCast]; exact h)
    rw [behind_nil, Int.toNat_natCast] at this
    exact this
theorem behind_two (a b : List Int) (r : Except Int (List Int × List UInt8)) : behind a (behind b r) = behind (a ++ b) r := by
  cases r with
  | ok p => simp [behind]
  | error x => rfl
/-- The three numbers of an entry's bytes. -/
def trip (r : List UInt8) : List Int := [(entN r).st, (entN r).sm, (lostAt r 0 : Int)]
def sizesL (k : Nat) : List Int := (List.replicate k [4, 4, 1]).flatten
theorem sizes_reps (k : Nat) : ints (sizesL k) = reps row41 k := by
  induction k with
  | zero => rfl
  | succ k ih =>
    unfold sizesL reps at *
    rw [List.replicate_succ, List.replicate_succ, List.flatten_cons, List.flatten_cons, ints_append, ih]
    rfl
theorem sizes_length (k : Nat) : (sizesL k).length = k * 3 := by
  have h := congrArg List.length (sizes_reps k)
  rw [ints_length, reps_length rfl] at h
  exact h
theorem unrow_trip (ss : List Int) (b : List UInt8) : unrow (4 :: 4 :: 1 :: ss) b = if b.length < 9 then .error 4 else behind (trip b) (unrow ss (b.drop 9)) := by
  have h4 : (4 : Int) = 1 ∨ (4 : Int) = 2 ∨ (4 : Int) = 4 := .inr (.inr rfl)
  rw [unrow_step 4 4 _ _ h4 rfl, unrow_step 4 4 _ _ h4 rfl, unrow_step 1 1 _ _ (.inl rfl) rfl]
  simp only [List.drop_drop, List.length_drop, Nat.reduceAdd]
  by_cases h : b.length < 9
  · rw [if_pos h]
    by_cases g1 : b.length < 4
    · rw [if_pos g1]
    · rw [if_neg g1]
      by_cases g2 : b.length - 4 < 4
      · rw [if_pos g2]; rfl
      · rw [if_neg g2, if_pos (by omega)]; rfl
  · rw [if_neg h, if_neg (by omega), if_neg (by omega), if_neg (by omega), behind_two, behind_two]
    rfl
/-- The numbers of the first k entries. -/
def numL (b : List UInt8) (k : Nat) : List Int := (List.range k).flatMap fun j => trip (b.drop (j * 9))
theorem numL_next (b : List UInt8) (k : Nat) : numL b (k + 1) = trip b ++ numL (b.drop 9) k := by
  unfold numL
  rw [List.range_succ_eq_map, List.flatMap_cons, List.flatMap_map]
  simp only [Nat.zero_mul, List.drop_zero, List.drop_drop]
  congr 1
  refine congrArg (fun f => List.flatMap f (List.range k)) (funext fun j => ?_)
  show trip (b.drop ((j + 1) * 9)) = _
  rw [show (j + 1) * 9 = 9 + j * 9 by omega]
theorem unrow_all : ∀ (k : Nat) (b : List UInt8), unrow (sizesL k) b = if b.length < k * 9 then .error 4 else .ok (numL b k, b.drop (k * 9))
  | 0, b => by simp [sizesL, unrow, numL]
  | k + 1, b => by
    rw [show sizesL (k + 1) = 4 :: 4 :: 1 :: sizesL k by unfold sizesL; rw [List.replicate_succ, List.flatten_cons]; rfl, unrow_trip, unrow_all k]
    by_cases h : b.length < 9
    · rw [if_pos h, if_pos (by omega)]
    · rw [if_neg h]
      by_cases h2 : b.length < (k + 1) * 9
      · rw [if_pos h2, if_pos (by rw [List.length_drop]; omega), behind_err]
      · rw [if_neg h2, if_neg (by rw [List.length_drop]; omega), behind_ok, ← numL_next, List.drop_drop, show (k + 1) * 9 = 9 + k * 9 by omega]
theorem numL_length (b : List UInt8) (k : Nat) : (numL b k).length = k * 3 := by
  unfold numL
  rw [List.length_flatMap, show (fun j => (trip (b.drop (j * 9))).length) = fun _ => 3 from rfl, List.map_const', List.sum_replicate_nat, List.length_range]
theorem numL_at (b : List UInt8) (k x i : Nat) (hx : x < k) (hi : i < 3) : (numL b k)[x * 3 + i]? = (trip (b.drop (x * 9)))[i]? := by
  have h := flat_get (fun j => trip (b.drop (j * 9))) 3 (fun _ => rfl) (List.range k) x i hi
  rw [List.getElem?_range hx] at h
  exact h
/-- What Unrow answers of a table's bytes. -/
theorem unrow_tab (k n : Nat) (A A' : Option Addr) (c c' : Nat) (b : List UInt8) (w : World) (hn : b.length = n) (hk : k ≤ 5) (hc : n ≤ c) (hx : c ≤ maxLen) (hl : n ≤ 1048576) (hA : Sl w w.heap.size A b) (hA' : SlV w w.heap.size A' (reps row41 k)) :
    Calls Try.prog 59 #[.slice A n c, .slice A' (k * 3 : Nat) c'] w fun e w' => Unrowed w.heap.size (if n < k * 9 then .error 4 else .ok (numL b k, b.drop (k * 9))) e w' ∧ Below w.heap.size w w' := by
  have h := unrow_any n (k * 3) A A' c c' b (sizesL k) w hn (sizes_length k) (by omega) hc hx (by omega) hA (by rw [sizes_reps]; exact hA')
  rw [unrow_all, hn] at h
  exact h
def PrsNo (e : Ending) : Prop := e = .returned (.tuple #[.agg #[.slice none 0 0], .slice none 0 0, .int .i64 4])
theorem four_new (w : World) (a b c d : Obj) : ((((w.alloc a).alloc b).alloc c).alloc d).heap[w.heap.size]? = some a ∧ ((((w.alloc a).alloc b).alloc c).alloc d).heap[w.heap.size + 1]? = some b ∧
    ((((w.alloc a).alloc b).alloc c).alloc d).heap[w.heap.size + 1 + 1]? = some c ∧ ((((w.alloc a).alloc b).alloc c).alloc d).heap[w.heap.size + 1 + 1 + 1]? = some d := by
  have go : ∀ (W : World) (o : Obj) (k : Nat) (x : Obj), W.heap[k]? = some x → (W.alloc o).heap[k]? = some x := fun W o k x h => ((bl W o).block k (Array.getElem?_eq_some_iff.1 h).1).trans h
  have h0 := heap_alloc_new w a
  have h1 := heap_alloc_new (w.alloc a) b
  have h2 := heap_alloc_new ((w.alloc a).alloc b) c
  have h3 := heap_alloc_new (((w.alloc a).alloc b).alloc c) d
  simp only [World.size_alloc] at h1 h2 h3
  exact ⟨go _ _ _ _ (go _ _ _ _ (go _ _ _ _ h0)), go _ _ _ _ (go _ _ _ _ h1), go _ _ _ _ h2, h3⟩
theorem boxed_below {W W' : World} {b : Nat} {t : TypeId} {v : Value} (h : Boxed W b t v) (hb : Below W.heap.size W W') : Boxed W' b t v := (hb.block b h.lt).trans h
theorem g5_of {W : World} {g : Nat} {z d s l a : Int} (h : W.heap[g]? = some (.cells #[.int .i64 z, .int .i64 d, .int .i64 s, .int .i64 l, .int .i64 a] 23)) : G5 W g z d s l a := by
  constructor <;> (rw [cell_of_row _ _ _ _ _ _ h]; rfl)
set_option maxRecDepth 100000 in
set_option maxHeartbeats 4000000 in
theorem parse_short (z s l a : Int) (D : Nat) (A : Option Addr) (n c : Nat) (b : List UInt8) (w : World) (h1 : 1 ≤ D) (h2 : D ≤ 4) (hn : b.length = n) (hc : n ≤ c) (hx : c ≤ maxLen) (hl : n ≤ 1048576) (hA : Sl w w.heap.size A b) (hs : n < (D + 1) * 9) :
    CallsIn Fence.wide 9 Try.prog 48 #[.agg #[.int .i64 z, .int .i64 D, .int .i64 s, .int .i64 l, .int .i64 a], .slice A n c] w fun e w' => PrsNo e ∧ Below w.heap.size w w' := by
  have hro : Fence.wide.round = none := rfl
  have hfn : ∀ k, Fence.wide.fn k := fun _ => trivial
  have cT := fun W => tableSizes_at z s l a D W h1 h2
  obtain ⟨a0, a1, a2, a3⟩ := @four_new w (.cells #[.int .i64 z, .int .i64 D, .int .i64 s, .int .i64 l, .int .i64 a] 23) (.cells #[.slice none 0 0] 36) (.cells #[.slice none 0 0] 25) (.cells #[.int .i64 0] 24)
  have hB0 := kal (kal (kal (bl w (.cells #[.int .i64 z, .int .i64 D, .int .i64 s, .int .i64 l, .int .i64 a] 23)) (.cells #[.slice none 0 0] 36)) (.cells #[.slice none 0 0] 25)) (.cells #[.int .i64 0] 24)
  have hsz : ((((w.alloc (.cells #[.int .i64 z, .int .i64 D, .int .i64 s, .int .i64 l, .int .i64 a] 23)).alloc (.cells #[.slice none 0 0] 36)).alloc (.cells #[.slice none 0 0] 25)).alloc (.cells #[.int .i64 0] 24)).heap.size = w.heap.size + 4 := by simp
  have HU := Lib.hid (show ∀ (W : World) (A' : Option Addr) (c' : Nat), Below w.heap.size w W → SlV W W.heap.size A' (reps row41 (D + 1)) → Calls Try.prog 59 #[.slice A n c, .slice A' ((D + 1) * 3 : Nat) c'] W fun e w' => e = .returned (.tuple #[.slice none 0 0, .slice none 0 0, .int .i64 4]) ∧ Below W.heap.size W w' from fun W A' c' hW hA' => by
    have h9 := unrow_tab (D + 1) n A A' c c' b W hn (by omega) hc hx hl (hA.next hW) hA'
    rw [if_pos hs] at h9
    exact h9)
  clear hA hs hn
  refine callsIn_of_wp_marks Try.func48 rfl (hfn _) ?_ hro
  simp only [Try.ntmps48, List.size_toArray, List.length_cons, List.length_nil, Nat.reduceAdd, Nat.reduceSub, Array.replicate_succ, Array.replicate_zero, List.push_toArray, List.append_toArray, List.nil_append, List.cons_append]
  refine wpIn_wide.2 ?_
  go_upto_region 1 with fail
  generalize ((((w.alloc (.cells #[.int .i64 z, .int .i64 D, .int .i64 s, .int .i64 l, .int .i64 a] 23)).alloc (.cells #[.slice none 0 0] 36)).alloc (.cells #[.slice none 0 0] 25)).alloc (.cells #[.int .i64 0] 24)) = w0 at *
  have bT : Boxed w0 (w.heap.size + 1) 36 (.slice none 0 0) := a1
  have bR : Boxed w0 (w.heap.size + 1 + 1) 25 (.slice none 0 0) := a2
  have bE : Boxed w0 (w.heap.size + 1 + 1 + 1) 24 (.int .i64 0) := a3
  obtain ⟨g0, g1, g2, g3, g4⟩ := g5_of a0
  have HBT := Lib.hid bT
  have HBR := Lib.hid bR
  have HBE := Lib.hid bE
  clear a0 a1 a2 a3 bT bR bE
  go_wp2_with (first
    | (go_at_call 60; (with_reducible refine (cT _).mono ?_); rintro e w2 ⟨⟨A3, c3, rfl, o3⟩, hb2⟩; have sl3 := owns_sl o3)
    | (go_at_call 59; (with_reducible refine (HU.out _ _ _ (bt hB0 hb2) sl3).mono ?_); rintro e w3 ⟨rfl, hb3⟩; have hb23 := bt hb2 hb3; have bT := boxed_below HBT.out hb23; have bR := boxed_below HBR.out hb23; have bE := boxed_below HBE.out hb23; have t0 := bT.cell; have t1 := bT.frozen; have r0 := bR.cell; have r1 := bR.frozen; have e0 := bE.cell; have e1 := bE.frozen))
  have n1 : w.heap.size + 1 + 1 ≠ w.heap.size + 1 := by omega
  have n2 : w.heap.size + 1 + 1 + 1 ≠ w.heap.size + 1 := by omega
  have n3 : w.heap.size + 1 + 1 + 1 ≠ w.heap.size + 1 + 1 := by omega
  have bT5 := ((((bT.other n1.symm (.slice none 0 0)).other n2.symm (.int .i64 4)).set (.slice none 0 0)).other n1.symm (.slice none 0 0)).other n2.symm (.int .i64 4)
  have bR5 := ((((bR.set (.slice none 0 0)).other n3.symm (.int .i64 4)).other n1 (.slice none 0 0)).set (.slice none 0 0)).other n3.symm (.int .i64 4)
  have bE5 := ((((bE.other n3 (.slice none 0 0)).set (.int .i64 4)).other n2 (.slice none 0 0)).other n3 (.slice none 0 0)).set (.int .i64 4)
  have hb5 := (((((bt hB0 hb23).setCell (p := ⟨w.heap.size + 1 + 1, 0, none⟩) (show w.heap.size ≤ w.heap.size + 1 + 1 by omega) (.slice none 0 0)).setCell (p := ⟨w.heap.size + 1 + 1 + 1, 0, none⟩) (show w.heap.size ≤ w.heap.size + 1 + 1 + 1 by omega) (.int .i64 4)).setCell (p := ⟨w.heap.size + 1, 0, none⟩) (show w.heap.size ≤ w.heap.size + 1 by omega) (.slice none 0 0)).setCell (p := ⟨w.heap.size + 1 + 1, 0, none⟩) (show w.heap.size ≤ w.heap.size + 1 + 1 by omega) (.slice none 0 0)).setCell (p := ⟨w.heap.size + 1 + 1 + 1, 0, none⟩) (show w.heap.size ≤ w.heap.size + 1 + 1 + 1 by omega) (.int .i64 4)
  refine ⟨.tuple #[.agg #[.slice none 0 0], .slice none 0 0, .int .i64 4], ?_, rfl, hb5⟩
  have q0 := bT5.cell
  have q1 := bR5.cell
  have q2 := bE5.cell
  simp [results, Try.f48, go_sem, q0, q1, q2]
end Go.Proofs.Ytejfehkcjcohdaa.tbl
