/-
  bits.Mul and slices.Repeat as package table calls them. Conditions: up to five times.
-/
import Derived.Test.YtejfehkcjcohdaaTbA
import Derived.Laws.CopyOwn
import Derived.Laws.MakeOwn
import Derived.Laws.BitsAllLaws
import Derived.StillTailTactics
import Derived.LoopN
namespace Go.Proofs.Ytejfehkcjcohdaa.tbl
open Go.RowKit Go.Lib
open Go.Proofs.Ytejfehkcjcohdaa.gmt (Ok five_new)
open Go.Proofs.Ytejfehkcjcohdaa.anc (flat_get flat_len slv_cell bl kal kst ks bm ka row_form row_below)

section
variable {P : Program}
theorem run_copy_n (w : World) (dT sT ty elem : TypeId) (sz k g o dLen dCap : Nat) (a : Addr) (sLen sCap : Nat) (cur : Array Value) (t : TypeId) (cs : List Value)
    (hu : P.underlying dT = some (.slice elem)) (hs : (P.info? elem).map (·.size) = some sz)
    (hg : w.heap[g]? = some (.cells cur t (0, 0))) (hk : k = Nat.min sLen dLen) (hn : cs.length = k * sz)
    (hsrc : ∀ j v, cs[j]? = some v → w.cell? (a.add j) = some v) (hfit : o + cs.length ≤ cur.size) (h1 : ∀ v ∈ cs, v.oneCell' = true) :
    (Builtin.copy_ #[dT, sT] ty #[.slice (some ⟨g, o, none⟩) dLen dCap, .slice (some a) sLen sCap]).run P w =
      .ok (goInt k) (w.setRow g (cur.toList.take o ++ cs ++ cur.toList.drop (o + cs.length)).toArray) := by
  have hl := run_loadCells_list (P := P) w a cs hsrc
  have hst := run_storeCells_at P g o t cs 0 cur w hg (by simpa using hfit) h1
  rw [hn] at hl
  cases hq : P.info? elem with
  | none => simp [hq] at hs
  | some i =>
    have hi : i.size = sz := by simpa [hq] using hs
    simp [Builtin.copy_, run_underlying hu, Builtin.lenOf, Builtin.firstCells, sizeOf, typeInfo, hq, hi, ← hk, hl, hst]
theorem wpList_copy_n {w : World} {ops : Array Oper} {rest : List Oper} {o : Oper} {a : Act} {Q : Exit → Act → World → Prop} (hgd : o.guard = none) (d s : Operand) (dT sT : TypeId)
    (ho : o.op = .call { callee := .builtin .copy, args := #[d, s], argTypes := #[dT, sT] }) (elem : TypeId) (sz k : Nat) (hu : P.underlying dT = some (.slice elem)) (hsz : (P.info? elem).map (·.size) = some sz)
    (g off dLen dCap : Nat) (ad : Addr) (sLen sCap : Nat) (hd : a.eval d = .slice (some ⟨g, off, none⟩) dLen dCap) (hs : a.eval s = .slice (some ad) sLen sCap)
    (cur : List Value) (t : TypeId) (hg : w.heap[g]? = some (.cells cur.toArray t (0, 0))) (cs : List Value) (hk : k = Nat.min sLen dLen) (hn : cs.length = k * sz)
    (hsrc : ∀ j v, cs[j]? = some v → w.cell? (ad.add j) = some v) (hfit : off + cs.length ≤ cur.length) (h1 : ∀ v ∈ cs, v.oneCell' = true) (B : Nat) (w0 : World) (hb : Below B w0 w) (hBg : B ≤ g)
    (h : ∀ w', Hid (w'.heap[g]? = some (.cells (splice cur off cs).toArray t (0, 0))) → Below B w0 w' → wpList P ops Q rest (a.put o.dst (goInt k)) w') : wpList P ops Q (o :: rest) a w := by
  refine wpList_plain hgd fun K hK => ?_
  have hrun := run_copy_n (P := P) w dT sT o.type elem sz k g off dLen dCap ad sLen sCap cur.toArray t cs hu hsz hg hk hn hsrc (by simpa using hfit) h1
  unfold Oper.wp
  simp [execOp, ho, resolve, invoke, builtin, hd, hs, hrun, Result.andThen]
  exact hK _ _ (h _ (show _ = _ by simpa [splice] using setRow_heap w g _ _ t _ hg) (below_setRow hb hBg _))
theorem step_copy_n {ops : Array Oper} {o : Oper} {a : Act} {w : World} {K : Act → World → Prop} {Q : Exit → Act → World → Prop} {E : Prop} (hgd : o.guard = none) (d s : Operand) (dT sT : TypeId)
    (ho : o.op = .call { callee := .builtin .copy, args := #[d, s], argTypes := #[dT, sT] }) (elem : TypeId) (sz k : Nat) (hu : P.underlying dT = some (.slice elem)) (hsz : (P.info? elem).map (·.size) = some sz)
    (g off dLen dCap : Nat) (ad : Addr) (sLen sCap : Nat) (hd : a.eval d = .slice (some ⟨g, off, none⟩) dLen dCap) (hs : a.eval s = .slice (some ad) sLen sCap)
    (cur : List Value) (t : TypeId) (hg : w.heap[g]? = some (.cells cur.toArray t (0, 0))) (cs : List Value) (hk : k = Nat.min sLen dLen) (hn : cs.length = k * sz)
    (hsrc : ∀ j v, cs[j]? = some v → w.cell? (ad.add j) = some v) (hfit : off + cs.length ≤ cur.length) (h1 : ∀ v ∈ cs, v.oneCell' = true) (B : Nat) (w0 : World) (hb : Below B w0 w) (hBg : B ≤ g)
    (h : ∀ w', Hid (w'.heap[g]? = some (.cells (splice cur off cs).toArray t (0, 0))) → Below B w0 w' → K (a.put o.dst (goInt k)) w') :
    if Region.wanted o (yielded ops a.tmps) = true then Oper.wp P o a w K Q else E := by
  have hw : Region.wanted o (yielded ops a.tmps) = true := by simp [Region.wanted, hgd]
  rw [if_pos hw]
  have hrun := run_copy_n (P := P) w dT sT o.type elem sz k g off dLen dCap ad sLen sCap cur.toArray t cs hu hsz hg hk hn hsrc (by simpa using hfit) h1
  unfold Oper.wp
  simp [execOp, ho, resolve, invoke, builtin, hd, hs, hrun, Result.andThen]
  exact h _ (show _ = _ by simpa [splice] using setRow_heap w g _ _ t _ hg) (below_setRow hb hBg _)
end
/-- A row of one's own of which all is shown: its block is known whole, and back. -/
theorem owns_whole {w : World} {base g k sz : Nat} {e : TypeId} {xs : List Value} (h : w.ownsRow base e sz (.slice (some ⟨g, 0, none⟩) k k) k xs) : w.heap[g]? = some (.cells xs.toArray e (0, 0)) := by
  rcases h.2 with ⟨h1, -⟩ | ⟨g', cap, cur, hv, -, hg, -, -, hs, ht⟩
  · cases h1
  · simp only [Value.slice.injEq, Option.some.injEq, Addr.mk.injEq, and_true] at hv
    obtain ⟨rfl, -, rfl⟩ := hv
    rw [hg, ← ht, List.take_of_length_le (by rw [Array.length_toList, hs]; omega)]
theorem whole_owns {w : World} {base g k sz : Nat} {e : TypeId} {xs : List Value} (hg : w.heap[g]? = some (.cells xs.toArray e (0, 0))) (hb : base ≤ g) (hx : xs.length = k * sz) (hm : k ≤ maxLen) : w.ownsRow base e sz (.slice (some ⟨g, 0, none⟩) k k) k xs :=
  ⟨hx, .inr ⟨g, k, xs.toArray, rfl, hb, hg, Nat.le_refl _, hm, by simp [hx], by rw [List.toList_toArray, List.take_of_length_le (by omega)]⟩⟩
/-- A thing of three cells q times, then another one r times. -/
def reps (p : List Value) (q : Nat) : List Value := (List.replicate q p).flatten
def pats (p z : List Value) (q r : Nat) : List Value := reps p q ++ reps z r
theorem reps_length {p : List Value} (hp : p.length = 3) : ∀ q, (reps p q).length = q * 3
  | 0 => rfl
  | q + 1 => by
    have := reps_length hp q
    unfold reps at *
    rw [List.replicate_succ, List.flatten_cons, List.length_append, this, hp]
    omega
theorem reps_add (p : List Value) (q r : Nat) : reps p (q + r) = reps p q ++ reps p r := by
  unfold reps
  rw [← List.flatten_append, List.replicate_append_replicate]
theorem reps_one {p : List Value} (h : ∀ u ∈ p, u.oneCell' = true) (q : Nat) : ∀ u ∈ reps p q, u.oneCell' = true := by
  intro u hu
  obtain ⟨l, hl, h2⟩ := List.mem_flatten.1 hu
  rw [List.eq_of_mem_replicate hl] at h2
  exact h u h2
theorem pats_length {p z : List Value} (hp : p.length = 3) (hz : z.length = 3) (q r : Nat) : (pats p z q r).length = (q + r) * 3 := by
  unfold pats
  rw [List.length_append, reps_length hp, reps_length hz]
  omega
theorem pats_splice {p z : List Value} (hp : p.length = 3) (hz : z.length = 3) (q r c n : Nat) (hc : c ≤ r) (hn : n = q * 3) : splice (pats p z q r) n (reps p c) = pats p z (q + c) (r - c) := by
  obtain ⟨s, rfl⟩ : ∃ s, r = c + s := ⟨r - c, by omega⟩
  unfold splice pats
  rw [hn, List.take_left' (by rw [reps_length hp]), ← List.drop_drop, List.drop_left' (by rw [reps_length hp]), reps_add z c s, List.drop_left' (by rw [reps_length hz, reps_length hp]), reps_add p q c, List.append_assoc, show c + s - c = s by omega]
theorem pats_get {p z : List Value} {q r c j : Nat} {v : Value} (hc : c ≤ q) (h : (reps p c)[j]? = some v) : (pats p z q r)[j]? = some v := by
  obtain ⟨s, rfl⟩ : ∃ s, q = c + s := ⟨q - c, by omega⟩
  unfold pats
  rw [reps_add p c s, List.append_assoc, List.getElem?_append_left (List.getElem?_eq_some_iff.1 h).1]
  exact h
theorem pats_all (p z : List Value) (q : Nat) : pats p z q 0 = reps p q := by simp [pats, reps]
theorem pats_none (p z : List Value) (r : Nat) : pats p z 0 r = reps z r := by simp [pats, reps]
theorem reps_once (p : List Value) : reps p 1 = p := by simp [reps]
set_option maxRecDepth 100000 in
theorem mul64_1_2 (w : World) : Calls Try.prog 76 #[.int .u64 1, .int .u64 2] w fun e w' => e = .returned (.tuple #[.int .u64 0, .int .u64 2]) ∧ w = w' := by
  go_enter Try.func76, Try.ntmps76
  go_wp2
  go_ret2
  exact ⟨rfl, rfl⟩
set_option maxRecDepth 100000 in
theorem mul_1_2 (w : World) : Calls Try.prog 74 #[.int .u64 1, .int .u64 2] w fun e w' => e = .returned (.tuple #[.int .u64 0, .int .u64 2]) ∧ w = w' := by
  go_enter Try.func74, Try.ntmps74
  go_wp2_with (go_at_call 76; (with_reducible refine (mul64_1_2 _).mono ?_); rintro e w' ⟨rfl, rfl⟩)
  go_ret2
  exact ⟨rfl, rfl⟩
set_option maxRecDepth 100000 in
theorem mul64_1_3 (w : World) : Calls Try.prog 76 #[.int .u64 1, .int .u64 3] w fun e w' => e = .returned (.tuple #[.int .u64 0, .int .u64 3]) ∧ w = w' := by
  go_enter Try.func76, Try.ntmps76
  go_wp2
  go_ret2
  exact ⟨rfl, rfl⟩
set_option maxRecDepth 100000 in
theorem mul_1_3 (w : World) : Calls Try.prog 74 #[.int .u64 1, .int .u64 3] w fun e w' => e = .returned (.tuple #[.int .u64 0, .int .u64 3]) ∧ w = w' := by
  go_enter Try.func74, Try.ntmps74
  go_wp2_with (go_at_call 76; (with_reducible refine (mul64_1_3 _).mono ?_); rintro e w' ⟨rfl, rfl⟩)
  go_ret2
  exact ⟨rfl, rfl⟩
set_option maxRecDepth 100000 in
theorem mul64_1_4 (w : World) : Calls Try.prog 76 #[.int .u64 1, .int .u64 4] w fun e w' => e = .returned (.tuple #[.int .u64 0, .int .u64 4]) ∧ w = w' := by
  go_enter Try.func76, Try.ntmps76
  go_wp2
  go_ret2
  exact ⟨rfl, rfl⟩
set_option maxRecDepth 100000 in
theorem mul_1_4 (w : World) : Calls Try.prog 74 #[.int .u64 1, .int .u64 4] w fun e w' => e = .returned (.tuple #[.int .u64 0, .int .u64 4]) ∧ w = w' := by
  go_enter Try.func74, Try.ntmps74
  go_wp2_with (go_at_call 76; (with_reducible refine (mul64_1_4 _).mono ?_); rintro e w' ⟨rfl, rfl⟩)
  go_ret2
  exact ⟨rfl, rfl⟩
set_option maxRecDepth 100000 in
theorem mul64_1_5 (w : World) : Calls Try.prog 76 #[.int .u64 1, .int .u64 5] w fun e w' => e = .returned (.tuple #[.int .u64 0, .int .u64 5]) ∧ w = w' := by
  go_enter Try.func76, Try.ntmps76
  go_wp2
  go_ret2
  exact ⟨rfl, rfl⟩
set_option maxRecDepth 100000 in
theorem mul_1_5 (w : World) : Calls Try.prog 74 #[.int .u64 1, .int .u64 5] w fun e w' => e = .returned (.tuple #[.int .u64 0, .int .u64 5]) ∧ w = w' := by
  go_enter Try.func74, Try.ntmps74
  go_wp2_with (go_at_call 76; (with_reducible refine (mul64_1_5 _).mono ?_); rintro e w' ⟨rfl, rfl⟩)
  go_ret2
  exact ⟨rfl, rfl⟩
set_option maxRecDepth 100000 in
theorem mul64_3_2 (w : World) : Calls Try.prog 76 #[.int .u64 3, .int .u64 2] w fun e w' => e = .returned (.tuple #[.int .u64 0, .int .u64 6]) ∧ w = w' := by
  go_enter Try.func76, Try.ntmps76
  go_wp2
  go_ret2
  exact ⟨rfl, rfl⟩
set_option maxRecDepth 100000 in
theorem mul_3_2 (w : World) : Calls Try.prog 74 #[.int .u64 3, .int .u64 2] w fun e w' => e = .returned (.tuple #[.int .u64 0, .int .u64 6]) ∧ w = w' := by
  go_enter Try.func74, Try.ntmps74
  go_wp2_with (go_at_call 76; (with_reducible refine (mul64_3_2 _).mono ?_); rintro e w' ⟨rfl, rfl⟩)
  go_ret2
  exact ⟨rfl, rfl⟩
set_option maxRecDepth 100000 in
theorem mul64_3_3 (w : World) : Calls Try.prog 76 #[.int .u64 3, .int .u64 3] w fun e w' => e = .returned (.tuple #[.int .u64 0, .int .u64 9]) ∧ w = w' := by
  go_enter Try.func76, Try.ntmps76
  go_wp2
  go_ret2
  exact ⟨rfl, rfl⟩
set_option maxRecDepth 100000 in
theorem mul_3_3 (w : World) : Calls Try.prog 74 #[.int .u64 3, .int .u64 3] w fun e w' => e = .returned (.tuple #[.int .u64 0, .int .u64 9]) ∧ w = w' := by
  go_enter Try.func74, Try.ntmps74
  go_wp2_with (go_at_call 76; (with_reducible refine (mul64_3_3 _).mono ?_); rintro e w' ⟨rfl, rfl⟩)
  go_ret2
  exact ⟨rfl, rfl⟩
set_option maxRecDepth 100000 in
theorem mul64_3_4 (w : World) : Calls Try.prog 76 #[.int .u64 3, .int .u64 4] w fun e w' => e = .returned (.tuple #[.int .u64 0, .int .u64 12]) ∧ w = w' := by
  go_enter Try.func76, Try.ntmps76
  go_wp2
  go_ret2
  exact ⟨rfl, rfl⟩
set_option maxRecDepth 100000 in
theorem mul_3_4 (w : World) : Calls Try.prog 74 #[.int .u64 3, .int .u64 4] w fun e w' => e = .returned (.tuple #[.int .u64 0, .int .u64 12]) ∧ w = w' := by
  go_enter Try.func74, Try.ntmps74
  go_wp2_with (go_at_call 76; (with_reducible refine (mul64_3_4 _).mono ?_); rintro e w' ⟨rfl, rfl⟩)
  go_ret2
  exact ⟨rfl, rfl⟩
set_option maxRecDepth 100000 in
theorem mul64_3_5 (w : World) : Calls Try.prog 76 #[.int .u64 3, .int .u64 5] w fun e w' => e = .returned (.tuple #[.int .u64 0, .int .u64 15]) ∧ w = w' := by
  go_enter Try.func76, Try.ntmps76
  go_wp2
  go_ret2
  exact ⟨rfl, rfl⟩
set_option maxRecDepth 100000 in
theorem mul_3_5 (w : World) : Calls Try.prog 74 #[.int .u64 3, .int .u64 5] w fun e w' => e = .returned (.tuple #[.int .u64 0, .int .u64 15]) ∧ w = w' := by
  go_enter Try.func74, Try.ntmps74
  go_wp2_with (go_at_call 76; (with_reducible refine (mul64_3_5 _).mono ?_); rintro e w' ⟨rfl, rfl⟩)
  go_ret2
  exact ⟨rfl, rfl⟩
/-- Zeros made. -/
def zE : List Value := [.int .i64 0, .int .i64 0, .bool false]
theorem zE_cells (k : Nat) (hk : k ≤ 5) : (madeCells (Value.agg #[.int .i64 0, .int .i64 0, .bool false]).cells (k * 3)).toList = reps zE k := by
  rcases (show k = 0 ∨ k = 1 ∨ k = 2 ∨ k = 3 ∨ k = 4 ∨ k = 5 by omega) with rfl | rfl | rfl | rfl | rfl | rfl <;> kernel_rfl
theorem makeE (n k base : Nat) (W : World) (hk : k ≤ 5) (hn : n = k * 1) (hb : base ≤ W.heap.size) :
    ∃ w', (Instr.makeSlice 34 (.int .i64 (n : Int)) (.int .i64 (n : Int))).run Try.prog W = .ok (.slice (some ⟨W.heap.size, 0, none⟩) n n) w' ∧
      w'.heap[W.heap.size]? = some (.cells (pats [] zE 0 k).toArray 29 (0, 0)) ∧ W.grownBy w' none := by
  obtain ⟨i, hi, hz, h1, hb8⟩ : ∃ i, Try.prog.info? 29 = some i ∧ i.zero = some (.agg #[.int .i64 0, .int .i64 0, .bool false]) ∧ i.size = 3 ∧ i.bytes = 24 := by
    have h9 := e_info
    cases hq : Try.prog.info? 29 with
    | none => rw [hq] at h9; cases h9
    | some i =>
      rw [hq] at h9
      simp only [Option.map_some, Option.some.injEq, Prod.mk.injEq] at h9
      exact ⟨i, rfl, h9.1, h9.2.1, h9.2.2⟩
  have ht := Try.underlying34
  obtain ⟨w', hr, ho, hg⟩ := run_makeSlice_full (P := Try.prog) (w := W) base 34 29 i (.agg #[.int .i64 0, .int .i64 0, .bool false]) 3 ht hi hz h1 .i64 .i64 n (by omega) (by rw [hb8]; omega) (by unfold maxLen; omega) hb
  refine ⟨w', hr, ?_, hg⟩
  have h9 := owns_whole ho
  rw [show n * 3 = k * 3 by omega, zE_cells k hk] at h9
  rw [pats_none]
  exact h9
/-- What Repeat answers. -/
def RepE (base n : Nat) (l : List Value) (e : Ending) (w' : World) : Prop := ∃ A c, e = .returned (.slice A n c) ∧ w'.ownsRow base 29 3 (.slice A n c) n l
/-- Zeros made. -/
def zI : List Value := [.int .i64 0, .int .i64 0, .int .i64 0]
theorem zI_cells (k : Nat) (hk : k ≤ 5) : (madeCells (Value.int .i64 0).cells (k * 3)).toList = reps zI k := by
  rcases (show k = 0 ∨ k = 1 ∨ k = 2 ∨ k = 3 ∨ k = 4 ∨ k = 5 by omega) with rfl | rfl | rfl | rfl | rfl | rfl <;> kernel_rfl
theorem makeI (n k base : Nat) (W : World) (hk : k ≤ 5) (hn : n = k * 3) (hb : base ≤ W.heap.size) :
    ∃ w', (Instr.makeSlice 69 (.int .i64 (n : Int)) (.int .i64 (n : Int))).run Try.prog W = .ok (.slice (some ⟨W.heap.size, 0, none⟩) n n) w' ∧
      w'.heap[W.heap.size]? = some (.cells (pats [] zI 0 k).toArray 3 (0, 0)) ∧ W.grownBy w' none := by
  obtain ⟨ht, _, i, hi, hz, h1, hb8⟩ := tvI
  obtain ⟨w', hr, ho, hg⟩ := run_makeSlice_full (P := Try.prog) (w := W) base 69 3 i (.int .i64 0) 1 ht hi hz h1 .i64 .i64 n (by omega) (by rw [hb8]; omega) (by unfold maxLen; omega) hb
  refine ⟨w', hr, ?_, hg⟩
  have h9 := owns_whole ho
  rw [show n * 1 = k * 3 by omega, zI_cells k hk] at h9
  rw [pats_none]
  exact h9
/-- What Repeat answers. -/
def RepI (base n : Nat) (l : List Value) (e : Ending) (w' : World) : Prop := ∃ A c, e = .returned (.slice A n c) ∧ w'.ownsRow base 3 1 (.slice A n c) n l
set_option maxRecDepth 100000 in
set_option maxHeartbeats 2000000 in
theorem repI_any (n k : Nat) (a : Addr) (c B : Nat) (p : List Value) (w : World) (h1 : 1 ≤ k) (h2 : k ≤ 5) (hn : n = k * 3) (hp : p.length = 3) (hp1 : ∀ u ∈ p, u.oneCell' = true) (hA : SlV w B (some a) p) (hB : B ≤ w.heap.size)
    (cM : ∀ W, Calls Try.prog 74 #[.int .u64 3, .int .u64 k] W fun e w' => e = .returned (.tuple #[.int .u64 0, .int .u64 n]) ∧ W = w') :
    Calls Try.prog 71 #[.slice (some a) 3 c, .int .i64 k] w fun e w' => RepI w.heap.size n (reps p k) e w' ∧ Below w.heap.size w w' := by
  obtain ⟨w1, hmk, hw1, hg1⟩ := makeI n k w.heap.size w h2 hn (Nat.le_refl _)
  have hb1 : Below w.heap.size w w1 := (Below.refl _ _).grown hg1 (Nat.le_refl _) (fun k hk => by cases hk)
  have src := hA.below (hb1.mono hB)
  have i1 : (1 : Int) ≤ (k : Int) := by omega
  have i2 : (k : Int) ≤ 5 := by omega
  have i3 : (3 : Int) ≤ (n : Int) := by omega
  have i4 : (n : Int) ≤ 15 := by omega
  have hz3 : zI.length = 3 := rfl
  have hsz : (Try.prog.info? 3).map (·.size) = some 1 := by kernel_rfl
  have HS : Hid (∀ j v, p[j]? = some v → w1.cell? (a.add j) = some v) := Lib.hid fun j v hj => by
    obtain ⟨b, off, ha, -, hc⟩ := src (by omega)
    obtain rfl := Option.some.inj ha
    obtain ⟨hj1, rfl⟩ := List.getElem?_eq_some_iff.1 hj
    rw [Addr.add_lit]
    exact hc j hj1
  have HW := Lib.hid (show w1.heap[w.heap.size]? = some (.cells (pats p zI 0 k).toArray 3 (0, 0)) from hw1)
  have HU := Lib.hid (Try.underlying69)
  have HZ := Lib.hid hsz
  have HP := Lib.hid hp
  have HP1 := Lib.hid hp1
  have HN := Lib.hid hn
  have HZ3 := Lib.hid hz3
  clear hA src hw1 hg1 hsz hp hp1 hn hz3
  go_enter Try.func71, Try.ntmps71
  go_wp2_with (first
    | (go_at_call 74; (with_reducible refine (cM _).mono ?_); rintro e w' ⟨rfl, rfl⟩)
    | (refine wpList_copy_n (o := ⟨some 33, _, _, _, _, _⟩) rfl (.tmp 31) (.tmp 32) _ _ rfl 3 1 3 HU.out HZ.out w.heap.size 0 _ _ a _ _ rfl rfl (pats p zI 0 k) 3 HW.out p ?q1 HP.out HS.out ?q3 HP1.out w.heap.size w hb1 (Nat.le_refl _) ?_
       case q1 => show 3 = Nat.min 3 n; simp only [Nat.min_def]; split <;> omega
       case q3 => rw [pats_length HP.out HZ3.out, HP.out]; omega
       intro w2 HG2 hb2))
  have e1 : splice (pats p zI 0 k) 0 p = pats p zI 1 (k - 1) := by
    have h9 := pats_splice HP.out HZ3.out 0 k 1 0 h1 rfl
    rwa [reps_once] at h9
  rw [e1] at HG2
  clear e1 HW HS cM hmk hb1 w1
  go_loopw [8] (fun i w' => ∃ q e : Nat, 1 ≤ q ∧ q ≤ k ∧ Hid (e = q * 3) ∧ i = .int .i64 e ∧ Hid (w'.heap[w.heap.size]? = some (.cells (pats p zI q (k - q)).toArray 3 (0, 0))) ∧ Below w.heap.size w w') (fun i _ => n - (RowKit.intOf i).toNat)
  case atStart => exact ⟨1, 3, Nat.le_refl _, h1, Lib.hid rfl, rfl, HG2, hb2⟩
  case round =>
    clear HG2 hb2
    obtain ⟨w3, rfl⟩ : ∃ x, x = wr := ⟨wr, rfl⟩
    obtain ⟨q, e, hq1, hqk, HE, rfl, HG, hbr⟩ := hrel
    by_cases hlt : q < k
    · obtain ⟨m, hm⟩ : ∃ m, m = Nat.min q (k - q) := ⟨_, rfl⟩
      have hm1 : q + m ≤ k := by rw [hm]; simp only [Nat.min_def]; split <;> omega
      have hm2 : 1 ≤ m := by rw [hm]; simp only [Nat.min_def]; split <;> omega
      have hm3 : m ≤ q := by rw [hm]; exact Nat.min_le_left _ _
      have hm4 : m * 3 = Nat.min e (n - e) := by
        have := HE.out
        have := HN.out
        have := hm
        simp only [Nat.min_def] at *
        split at * <;> split <;> omega
      have hmx : m * 3 ≤ 15 := by omega
      have hex : e + m * 3 ≤ n := by have := HE.out; have := HN.out; omega
      obtain ⟨M, hM⟩ : ∃ M, M = m * 3 := ⟨_, rfl⟩
      rw [← hM] at hm4 hmx hex
      have HM := Lib.hid hm
      have HM4 := Lib.hid hm4
      have HMM := Lib.hid hM
      have j1 : (e : Int) < (n : Int) := by have := HE.out; have := HN.out; omega
      have j2 : (0 : Int) ≤ (e : Int) := by omega
      have j3 : (e : Int) ≤ (n : Int) := by omega
      have j4 : (n : Int) ≤ (n : Int) := by omega
      have hkn : ¬ n = e := by omega
      have k1 : IntKind.i64.wrap ((e : Int) + (M : Int)) = ((e + M : Nat) : Int) := by
        rw [← Int.natCast_add]
        exact IntWalk.i64_in _ (by omega)
      clear hm hm4 hM
      go_wp2_with fail
      go_region_held3 (fun _ => True) (exact trivial)
        (
            (refine step_copy_n rfl (.tmp 41) (.tmp 44) _ _ rfl 3 1 M HU.out HZ.out w.heap.size (e) _ _ ⟨w.heap.size, 0, none⟩ _ _ rfl rfl (pats p zI q (k - q)) 3 HG.out (reps p m) ?q1 ?q2 ?q3 ?q4 (reps_one HP1.out m) w.heap.size w (below_dr hbr) (Nat.le_refl _) ?_
             case q1 => exact HM4.out
             case q2 => rw [reps_length HP.out, HMM.out]; omega
             case q3 =>
               intro j v hj
               have hgd : w3.drew.heap[w.heap.size]? = some (.cells (pats p zI q (k - q)).toArray 3 (0, 0)) := HG.out
               rw [Addr.add_lit, cell_of_row _ _ _ _ _ _ hgd, Nat.zero_add]
               have := pats_get (z := zI) (r := k - q) hm3 hj
               simpa using this
             case q4 => rw [pats_length HP.out HZ3.out, reps_length HP.out]; have := HE.out; omega
             intro w4 HG4 hb4))
      rw [pats_splice HP.out HZ3.out q (k - q) m _ (by omega) (by have := HE.out; omega), show k - q - m = k - (q + m) by omega] at HG4
      clear hkn k1
      go_wp2_with fail
      go_roundw
      case rel => exact ⟨q + m, e + M, by omega, hm1, Lib.hid (by have := HE.out; have := HMM.out; omega), by go_num, HG4, hb4⟩
      case measure => have hmm := HMM.out; simp [RowKit.intOf]; omega
    · obtain rfl : q = k := by omega
      obtain rfl : e = n := by rw [HE.out, HN.out]
      have hgo := HG.out
      rw [Nat.sub_self, pats_all] at hgo
      have HO := Lib.hid (whole_owns (base := w.heap.size) (k := e) (sz := 1) hgo (Nat.le_refl _) (by rw [reps_length HP.out]; have := HN.out; omega) (by unfold maxLen; omega))
      clear hgo
      go_wp2_with fail
      go_ret
      exact ⟨⟨_, _, rfl, HO.out⟩, hbr⟩
end Go.Proofs.Ytejfehkcjcohdaa.tbl
