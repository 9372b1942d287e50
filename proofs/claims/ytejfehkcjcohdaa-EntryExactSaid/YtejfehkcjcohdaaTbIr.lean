/-
  A region that draws its order inside a round of a range over a function: from the plain walk; what a round of parse reads. Conditions: each law's own.
-/
import Derived.Test.YtejfehkcjcohdaaTbI
import Derived.Deep.RegionHeld3
import Derived.OrdersIn
namespace Go.Proofs.Ytejfehkcjcohdaa.tbl
open Go.RowKit Go.Shelf Go.Lib
open Go.Proofs.Ytejfehkcjcohdaa.anc (bl kal kst ks bm ka)
attribute [local go_sem] Oper.semAt_some

section
variable {P : Program} {ops : Array Oper} {Q : Exit → Act → World → Prop} {md : Region.Mode} {l n : Nat}
def noDefer (ops : Array Oper) : Bool := ops.all fun o => match o.op with | .defer _ => false | _ => true
theorem noDefer_at (h : noDefer ops = true) {i : Nat} {o : Oper} (hi : ops[i]? = some o) : ∀ c, o.op ≠ .defer c := by
  intro c hc
  obtain ⟨hlt, rfl⟩ := Array.getElem?_eq_some_iff.1 hi
  have := Array.all_eq_true.1 h i hlt
  rw [hc] at this
  cases this
theorem rows_in {row : String} {args : Array Value} {w : World} {R : Value → World → Prop} (h : Rows P row args w R) : RowsIn (Fence.wide.inRound l) n P row args w R :=
  fun c cs _ => let ⟨v, w', r, s⟩ := h c cs; ⟨v, w', r, stepsIn_wide.2 s⟩
theorem op_in (hd : noDefer ops = true) (hQ : ¬ LetsOut Q) {i : Nat} {K : Act → World → Prop} {a : Act} {w : World} (h : wpOp P ops Q i K a w) : wpOpIn (Fence.wide.inRound l) n P ops Q i K a w := by
  unfold wpOp at h
  unfold wpOpIn
  cases ho : ops[i]? with
  | none =>
    simp only [ho] at h ⊢
    exact h
  | some o =>
    simp only [ho] at h ⊢
    split
    · rename_i hw
      simp only [hw, if_true] at h
      have h := h.resolve_right fun k => hQ k.2
      refine ⟨fun f _ => trivial, ?_⟩
      rw [Oper.semAt_plain (Fence.wide.inRound l) a.eval o (noDefer_at hd ho)]
      unfold Oper.wp at h
      generalize (execOp a.eval o).run P w = r at h ⊢
      cases r with
      | ok x w' =>
        cases x with
        | value v => exact h
        | skip => exact h
        | defer d => exact h
        | enter f args => exact ⟨(fun k => by cases k), (CallsIn.inRound l (callsIn_wide.2 h)).mono (fun e w2 he => by cases e <;> exact he)⟩
        | row r args => exact ⟨(fun k => by cases k), rows_in h⟩
        | _ => exact False.elim h
      | halt x w' => cases x <;> exact h
    · rename_i hw
      simp only [hw] at h
      exact ⟨fun f _ => trivial, h⟩
theorem any_in (hd : noDefer ops = true) (hQ : ¬ LetsOut Q) : ∀ (fuel : Nat) (listed : Array Bool) (a : Act) (w : World), wpAny P md ops Q fuel listed a w → wpAnyIn (Fence.wide.inRound l) n P md ops Q fuel listed a w
  | 0, _, _, _, h => h
  | fuel + 1, _, _, _, h => ⟨h.1, fun i hi => op_in hd hQ (wpOp_mono (fun a' w' h' => any_in hd hQ fuel _ a' w' h') (h.2 i hi))⟩
/-- A region that draws, in a round: by the plain held walk of it. -/
theorem region_in {id : Nat} {a : Act} {w : World} {S : World → Prop} {K : Act → World → Prop} {Q' : Exit → Act → World → Prop} (hm : P.follows .mixedOrders = true) (hd : noDefer ops = true) (hS : S w.drew)
    (h : S w.drew → wpAnyH P .any ops (Exit.then K fun _ _ _ => False) S ops.size (Array.replicate ops.size false) a w.drew) : (Code.region id ops true).wpIn (Fence.wide.inRound l) n P (Exit.then K Q') a w := by
  have hQ : ¬ LetsOut (Exit.then K fun _ _ _ => False) := fun ⟨_, _, k⟩ => k
  refine wpIn_mono (wpIn_region_any hm (any_in hd hQ _ _ _ _ (wpAny_of_held _ _ _ _ (h hS)))) fun e a' w' hq => ?_
  cases e <;> first | exact hq | exact hq.elim
end
set_option maxRecDepth 100000 in
set_option maxHeartbeats 40000000 in
theorem reg6_in (l m nb o : Nat) (st sm th : Int) (ls : Bool) (t0 t1 t2 t3 t4 t5 t6 t7 t10 t11 t12 t13 t14 t15 t16 t17 t18 t19 t20 t21 t22 t23 t24 t25 u9 u26 u27 u28 u29 u30 u31 u32 u33 u34 u35 u36 u37 u38 u39 u40 u41 u42 u43 u44 u45 u46 u47 u48 u49 u50 u51 u52 : Value) (W : World) (K : Act → World → Prop) (Q' : Exit → Act → World → Prop)
    (c0 : W.cell? ⟨nb, o, none⟩ = some (.int .i64 st)) (c1 : W.cell? ⟨nb, o + 1, none⟩ = some (.int .i64 sm)) (c2 : W.cell? ⟨nb, o + 2, none⟩ = some (.int .i64 th)) (q1 : (th == 1) = ls) (hnb : nb < W.heap.size)
    (hK : ∀ (u26 u27 u28 u29 u30 u31 u32 u33 u34 u35 u36 : Value) (wc : World), wc.heap[W.heap.size]? = some (.cells #[.int .i64 st, .int .i64 sm, .bool ls] 29) → W.grownBy wc none → K { tmps := #[t0, t1, t2, t3, t4, t5, t6, t7, .slice (some ⟨nb, o, none⟩) 3 3, .pointer (some ⟨W.heap.size, 0, none⟩), t10, t11, t12, t13, t14, t15, t16, t17, t18, t19, t20, t21, t22, t23, t24, t25, u26, u27, u28, u29, u30, u31, u32, u33, u34, u35, u36, u37, u38, u39, u40, u41, u42, u43, u44, u45, u46, u47, u48, u49, u50, u51, u52], defers := [] } wc) :
    Code.wpIn (Fence.wide.inRound l) m Try.prog (Code.region 6 #[{ dst := some 26, op := Op.move (Operand.tmp 8), type := 69, pos := "table.go:117", after := #[], guard := none }, { dst := some 27, op := Op.indexAddr 69 (Operand.tmp 26) (Operand.const (Value.int IntKind.i64 0)), type := 0, pos := "table.go:117", after := #[{ on := 0, ground := Ground.data }], guard := none }, { dst := some 28, op := Op.load 3 (Operand.tmp 27), type := 3, pos := "table.go:117", after := #[{ on := 1, ground := Ground.data }], guard := none }, { dst := some 29, op := Op.move (Operand.tmp 8), type := 69, pos := "table.go:117", after := #[], guard := none }, { dst := some 30, op := Op.indexAddr 69 (Operand.tmp 29) (Operand.const (Value.int IntKind.i64 1)), type := 0, pos := "table.go:117", after := #[{ on := 3, ground := Ground.data }], guard := none }, { dst := some 31, op := Op.load 3 (Operand.tmp 30), type := 3, pos := "table.go:117", after := #[{ on := 4, ground := Ground.data }], guard := none }, { dst := some 32, op := Op.move (Operand.tmp 8), type := 69, pos := "table.go:117", after := #[], guard := none }, { dst := some 33, op := Op.indexAddr 69 (Operand.tmp 32) (Operand.const (Value.int IntKind.i64 2)), type := 0, pos := "table.go:117", after := #[{ on := 6, ground := Ground.data }], guard := none }, { dst := some 34, op := Op.load 3 (Operand.tmp 33), type := 3, pos := "table.go:117", after := #[{ on := 7, ground := Ground.data }], guard := none }, { dst := some 35, op := Op.binOp BinOp.eql 3 (Operand.tmp 34) (Operand.const (Value.int IntKind.i64 1)) 3, type := 4, pos := "table.go:117", after := #[{ on := 8, ground := Ground.data }], guard := none }, { dst := some 36, op := Op.build 29 #[(0, Operand.tmp 28), (1, Operand.tmp 31), (2, Operand.tmp 35)], type := 29, pos := "table.go:117", after := #[{ on := 2, ground := Ground.data }, { on := 5, ground := Ground.data }, { on := 9, ground := Ground.data }], guard := none }, { dst := some 9, op := Op.alloc 29, type := 0, pos := "table.go:117", after := #[], guard := none }, { dst := none, op := Op.store 29 (Operand.tmp 9) (Operand.tmp 36), type := 0, pos := "table.go:117", after := #[{ on := 11, ground := Ground.data }, { on := 10, ground := Ground.data }, { on := 0, ground := Ground.phase }, { on := 1, ground := Ground.phase }, { on := 2, ground := Ground.phase }, { on := 3, ground := Ground.phase }, { on := 4, ground := Ground.phase }, { on := 5, ground := Ground.phase }, { on := 6, ground := Ground.phase }, { on := 7, ground := Ground.phase }, { on := 8, ground := Ground.phase }, { on := 9, ground := Ground.phase }, { on := 10, ground := Ground.phase }, { on := 11, ground := Ground.phase }], guard := none }] true) (Exit.then K Q') { tmps := #[t0, t1, t2, t3, t4, t5, t6, t7, .slice (some ⟨nb, o, none⟩) 3 3, u9, t10, t11, t12, t13, t14, t15, t16, t17, t18, t19, t20, t21, t22, t23, t24, t25, u26, u27, u28, u29, u30, u31, u32, u33, u34, u35, u36, u37, u38, u39, u40, u41, u42, u43, u44, u45, u46, u47, u48, u49, u50, u51, u52], defers := [] } W := by
  have hmix : Try.prog.follows .mixedOrders = true := by kernel_rfl
  have HK := Lib.hid hK
  clear hK
  have HF := Lib.hid (show ∀ X, Below W.heap.size W X → X.cell? ⟨nb, o, none⟩ = some (.int .i64 st) ∧ X.cell? ⟨nb, o + 1, none⟩ = some (.int .i64 sm) ∧ X.cell? ⟨nb, o + 2, none⟩ = some (.int .i64 th) ∧ Below W.heap.size W X from fun X h => ⟨kst h hnb c0, kst h hnb c1, kst h hnb c2, h⟩)
  dsimp only
  refine region_in (S := fun X => X.cell? ⟨nb, o, none⟩ = some (.int .i64 st) ∧ X.cell? ⟨nb, o + 1, none⟩ = some (.int .i64 sm) ∧ X.cell? ⟨nb, o + 2, none⟩ = some (.int .i64 th) ∧ Below W.heap.size W X) hmix (by kernel_rfl) (HF.out _ (below_dr (Below.refl _ _))) (fun hHeld => ?_)
  (refine wpAnyH_take (i := 0) (v := ?_) rfl (by kernel_rfl) (by kernel_rfl) (by kernel_rfl) (fun _ _ _ h => h) (Or.inl ⟨by rfl, ?_⟩) (by assumption) ?_; rotate_left; (focus (intro w hSw; (try dsimp only at hSw); go_split_ands; go_simp <;> with_reducible rfl)); simp only [List.getElem_toArray, List.getElem_cons_zero, Act.put, List.setIfInBounds_toArray, List.set_cons_zero, List.set_cons_succ])
  (refine wpAnyH_take (i := 1) (v := ?_) rfl (by kernel_rfl) (by kernel_rfl) (by kernel_rfl) (fun _ _ _ h => h) (Or.inl ⟨by rfl, ?_⟩) (by assumption) ?_; rotate_left; (focus (intro w hSw; (try dsimp only at hSw); go_split_ands; go_simp <;> with_reducible rfl)); simp only [List.getElem_toArray, List.getElem_cons_zero, List.getElem_cons_succ, Act.put, List.setIfInBounds_toArray, List.set_cons_zero, List.set_cons_succ])
  (refine wpAnyH_take (i := 2) (v := ?_) rfl (by kernel_rfl) (by kernel_rfl) (by kernel_rfl) (fun _ _ _ h => h) (Or.inl ⟨by rfl, ?_⟩) (by assumption) ?_; rotate_left; (focus (intro w hSw; (try dsimp only at hSw); go_split_ands; go_simp <;> with_reducible rfl)); simp only [List.getElem_toArray, List.getElem_cons_zero, List.getElem_cons_succ, Act.put, List.setIfInBounds_toArray, List.set_cons_zero, List.set_cons_succ])
  (refine wpAnyH_take (i := 3) (v := ?_) rfl (by kernel_rfl) (by kernel_rfl) (by kernel_rfl) (fun _ _ _ h => h) (Or.inl ⟨by rfl, ?_⟩) (by assumption) ?_; rotate_left; (focus (intro w hSw; (try dsimp only at hSw); go_split_ands; go_simp <;> with_reducible rfl)); simp only [List.getElem_toArray, List.getElem_cons_zero, List.getElem_cons_succ, Act.put, List.setIfInBounds_toArray, List.set_cons_zero, List.set_cons_succ])
  (refine wpAnyH_take (i := 4) (v := ?_) rfl (by kernel_rfl) (by kernel_rfl) (by kernel_rfl) (fun _ _ _ h => h) (Or.inl ⟨by rfl, ?_⟩) (by assumption) ?_; rotate_left; (focus (intro w hSw; (try dsimp only at hSw); go_split_ands; go_simp <;> with_reducible rfl)); simp only [List.getElem_toArray, List.getElem_cons_zero, List.getElem_cons_succ, Act.put, List.setIfInBounds_toArray, List.set_cons_zero, List.set_cons_succ])
  (refine wpAnyH_take (i := 5) (v := ?_) rfl (by kernel_rfl) (by kernel_rfl) (by kernel_rfl) (fun _ _ _ h => h) (Or.inl ⟨by rfl, ?_⟩) (by assumption) ?_; rotate_left; (focus (intro w hSw; (try dsimp only at hSw); go_split_ands; go_simp <;> with_reducible rfl)); simp only [List.getElem_toArray, List.getElem_cons_zero, List.getElem_cons_succ, Act.put, List.setIfInBounds_toArray, List.set_cons_zero, List.set_cons_succ])
  (refine wpAnyH_take (i := 6) (v := ?_) rfl (by kernel_rfl) (by kernel_rfl) (by kernel_rfl) (fun _ _ _ h => h) (Or.inl ⟨by rfl, ?_⟩) (by assumption) ?_; rotate_left; (focus (intro w hSw; (try dsimp only at hSw); go_split_ands; go_simp <;> with_reducible rfl)); simp only [List.getElem_toArray, List.getElem_cons_zero, List.getElem_cons_succ, Act.put, List.setIfInBounds_toArray, List.set_cons_zero, List.set_cons_succ])
  (refine wpAnyH_take (i := 7) (v := ?_) rfl (by kernel_rfl) (by kernel_rfl) (by kernel_rfl) (fun _ _ _ h => h) (Or.inl ⟨by rfl, ?_⟩) (by assumption) ?_; rotate_left; (focus (intro w hSw; (try dsimp only at hSw); go_split_ands; go_simp <;> with_reducible rfl)); simp only [List.getElem_toArray, List.getElem_cons_zero, List.getElem_cons_succ, Act.put, List.setIfInBounds_toArray, List.set_cons_zero, List.set_cons_succ])
  (refine wpAnyH_take (i := 8) (v := ?_) rfl (by kernel_rfl) (by kernel_rfl) (by kernel_rfl) (fun _ _ _ h => h) (Or.inl ⟨by rfl, ?_⟩) (by assumption) ?_; rotate_left; (focus (intro w hSw; (try dsimp only at hSw); go_split_ands; go_simp <;> with_reducible rfl)); simp only [List.getElem_toArray, List.getElem_cons_zero, List.getElem_cons_succ, Act.put, List.setIfInBounds_toArray, List.set_cons_zero, List.set_cons_succ])
  (refine wpAnyH_take (i := 9) (v := ?_) rfl (by kernel_rfl) (by kernel_rfl) (by kernel_rfl) (fun _ _ _ h => h) (Or.inl ⟨by rfl, ?_⟩) (by assumption) ?_; rotate_left; (focus (intro w hSw; (try dsimp only at hSw); go_split_ands; go_simp <;> with_reducible rfl)); simp only [List.getElem_toArray, List.getElem_cons_zero, List.getElem_cons_succ, Act.put, List.setIfInBounds_toArray, List.set_cons_zero, List.set_cons_succ])
  (refine wpAnyH_take (i := 10) (v := ?_) rfl (by kernel_rfl) (by kernel_rfl) (by kernel_rfl) (fun _ _ _ h => h) (Or.inl ⟨by rfl, ?_⟩) (by assumption) ?_; rotate_left; (focus (intro w hSw; (try dsimp only at hSw); go_split_ands; go_simp <;> with_reducible rfl)); simp only [List.getElem_toArray, List.getElem_cons_zero, List.getElem_cons_succ, Act.put, List.setIfInBounds_toArray, List.set_cons_zero, List.set_cons_succ])
  refine wpAnyH_ready (rs := [11]) (by kernel_rfl) (by simp) ?_
  refine AllReadyH.cons rfl (fun K9 hK9 => ?_) AllReadyH.nil
  go_simp
  refine hK9.out _ _ (HF.out _ (by first | exact below_dr (bl W _) | exact kal (below_dr (Below.refl _ _)) _)) (fun hS2 => ?_)
  clear hK9 K9
  try simp only [Act.put, List.setIfInBounds_toArray, List.set_cons_zero, List.set_cons_succ]
  refine wpAnyH_ready (rs := [12]) (by kernel_rfl) (by simp) ?_
  refine AllReadyH.cons rfl (fun K9 hK9 => ?_) AllReadyH.nil
  go_simp
  refine hK9.out _ _ (HF.out _ (below_dr (bl W _))) (fun hS3 => ?_)
  clear hK9 K9
  refine wpAnyH_done (by kernel_rfl) ?_ _
  have g := World.grownBy_alloc W (.cells #[.int .i64 st, .int .i64 sm, .bool ls] 29) none
  exact HK.out _ _ _ _ _ _ _ _ _ _ _ _ (heap_alloc_new W _) ⟨g.os, g.tape, g.output, g.size, g.block⟩
set_option maxRecDepth 100000 in
set_option maxHeartbeats 40000000 in
theorem reg7_in (l m nb o gE : Nat) (hm : 1 ≤ m) (th fl : Int) (ls bad : Bool) (t0 t1 t2 t3 t4 t5 t6 t7 t10 t11 t12 t13 t14 t15 t16 t17 t18 t19 t20 t21 t22 t23 t24 t25 u26 u27 u28 u29 u30 u31 u32 u33 u34 u35 u36 u37 u38 u39 u40 u41 u42 u43 u44 u45 u46 u47 u48 u49 u50 u51 u52 : Value) (W : World) (K : Act → World → Prop) (Q' : Exit → Act → World → Prop)
    (c2 : W.cell? ⟨nb, o + 2, none⟩ = some (.int .i64 th)) (e2 : W.cell? ⟨gE, 2, none⟩ = some (.bool ls)) (q2 : (fl != th) = bad) (cF : ∀ W, Calls Try.prog 63 #[.bool ls] W fun e w' => e = .returned (.int .i64 fl) ∧ W = w')
    (hK : ∀ (u37 u38 u39 u40 u41 u42 : Value) (wc : World), W.grownBy wc none → K { tmps := #[t0, t1, t2, t3, t4, t5, t6, t7, .slice (some ⟨nb, o, none⟩) 3 3, .pointer (some ⟨gE, 0, none⟩), t10, t11, t12, t13, t14, t15, t16, t17, t18, t19, t20, t21, t22, t23, t24, t25, u26, u27, u28, u29, u30, u31, u32, u33, u34, u35, u36, u37, u38, u39, u40, u41, u42, .bool bad, u44, u45, u46, u47, u48, u49, u50, u51, u52], defers := [] } wc) :
    Code.wpIn (Fence.wide.inRound l) m Try.prog (Code.region 7 #[{ dst := some 37, op := Op.fieldAddr 29 (Operand.tmp 9) 2, type := 0, pos := "table.go:118", after := #[], guard := none }, { dst := some 38, op := Op.load 4 (Operand.tmp 37), type := 4, pos := "table.go:118", after := #[{ on := 0, ground := Ground.data }], guard := none }, { dst := some 39, op := Op.call { callee := Callee.value (Operand.func 63), args := #[Operand.tmp 38], argTypes := #[4] }, type := 3, pos := "table.go:118", after := #[{ on := 1, ground := Ground.data }], guard := none }, { dst := some 40, op := Op.move (Operand.tmp 8), type := 69, pos := "table.go:118", after := #[], guard := none }, { dst := some 41, op := Op.indexAddr 69 (Operand.tmp 40) (Operand.const (Value.int IntKind.i64 2)), type := 0, pos := "table.go:118", after := #[{ on := 3, ground := Ground.data }], guard := none }, { dst := some 42, op := Op.load 3 (Operand.tmp 41), type := 3, pos := "table.go:118", after := #[{ on := 4, ground := Ground.data }], guard := none }, { dst := some 43, op := Op.binOp BinOp.neq 3 (Operand.tmp 39) (Operand.tmp 42) 3, type := 4, pos := "table.go:118", after := #[{ on := 2, ground := Ground.data }, { on := 5, ground := Ground.data }], guard := none }] true) (Exit.then K Q') { tmps := #[t0, t1, t2, t3, t4, t5, t6, t7, .slice (some ⟨nb, o, none⟩) 3 3, .pointer (some ⟨gE, 0, none⟩), t10, t11, t12, t13, t14, t15, t16, t17, t18, t19, t20, t21, t22, t23, t24, t25, u26, u27, u28, u29, u30, u31, u32, u33, u34, u35, u36, u37, u38, u39, u40, u41, u42, u43, u44, u45, u46, u47, u48, u49, u50, u51, u52], defers := [] } W := by
  have hfn : ∀ k, Fence.wide.fn k := fun _ => trivial
  have hro : Fence.wide.round = none := rfl
  have hmix : Try.prog.follows .mixedOrders = true := by kernel_rfl
  have HK := Lib.hid hK
  clear hK
  dsimp only
  gi_region_with_o (gi_at_call 63; refine (CallsIn.inRound l (callsIn_wide.2 (cF _))).mono ?_; rintro e w' ⟨rfl, rfl⟩)
  all_goals exact HK.out _ _ _ _ _ _ _ ⟨rfl, rfl, rfl, Nat.le_refl _, fun _ _ _ => rfl⟩
end Go.Proofs.Ytejfehkcjcohdaa.tbl
