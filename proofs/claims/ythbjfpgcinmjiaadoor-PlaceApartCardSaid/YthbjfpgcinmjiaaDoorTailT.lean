/-
  A region whose last operation waits for all others, for some by way of others: all but the last by a walk that holds S; then the last. Conditions: no guards.
-/
import Derived.Test.YthbjfpgcinmjiaaDoorTail
import Derived.Deep.RegionHeld3
namespace Go.Proofs.YthbjfpgcinmjiaaDoor
open Go

section
variable {P : Program} {md : Region.Mode} {ops : Array Oper} {L : Oper} {Q : Exit → Act → World → Prop} {S : World → Prop}

/-- No guards, edges backwards only, the last waits for each, itself or by way of another. -/
def tailT (md : Region.Mode) (ops : Array Oper) (L : Oper) : Bool :=
  ((List.range ops.size).all fun i => match ops[i]? with | some o => o.guard.isNone && o.after.all fun e => decide (e.on < i) | none => false) &&
  (L.guard.isNone && (L.after.all (fun e => decide (e.on < ops.size)) && (List.range ops.size).all fun i => (L.after.any fun e => Region.binds md e && e.on == i) || (List.range ops.size).any fun k => match ops[k]? with | some o => o.after.any fun e => Region.binds md e && e.on == i | none => false))
structure TailOkT (md : Region.Mode) (ops : Array Oper) (L : Oper) : Prop where
  g : ∀ (i : Nat) (o : Oper), ops[i]? = some o → o.guard = none
  e : ∀ (i : Nat) (o : Oper), ops[i]? = some o → ∀ e ∈ o.after, e.on < i
  lg : L.guard = none
  le : ∀ e ∈ L.after, e.on < ops.size
  lw : ∀ i, i < ops.size → (∃ e ∈ L.after, Region.binds md e = true ∧ e.on = i) ∨ ∃ (k : Nat) (o : Oper), ops[k]? = some o ∧ ∃ e ∈ o.after, Region.binds md e = true ∧ e.on = i
theorem tailT_ok (h : tailT md ops L = true) : TailOkT md ops L := by
  simp only [tailT, Bool.and_eq_true] at h
  obtain ⟨h1, h2, h3, h4⟩ := h
  have key : ∀ (i : Nat) (o : Oper), ops[i]? = some o → o.guard = none ∧ ∀ e ∈ o.after, e.on < i := fun i o ho => by
    have hi : i < ops.size := (Array.getElem?_eq_some_iff.1 ho).1
    have := List.all_eq_true.1 h1 i (List.mem_range.2 hi)
    rw [ho] at this
    simp only [Bool.and_eq_true] at this
    refine ⟨by simpa using this.1, fun e he => ?_⟩
    have := Array.all_eq_true'.1 this.2 e he
    simpa using this
  refine ⟨fun i o ho => (key i o ho).1, fun i o ho => (key i o ho).2, by simpa using h2, fun e he => by simpa using Array.all_eq_true'.1 h3 e he, fun i hi => ?_⟩
  have := List.all_eq_true.1 h4 i (List.mem_range.2 hi)
  rcases Bool.or_eq_true_iff.1 this with h | h
  · obtain ⟨e, he, hb⟩ := Array.any_eq_true'.1 h
    simp only [Bool.and_eq_true, beq_iff_eq] at hb
    exact .inl ⟨e, he, hb.1, hb.2⟩
  · obtain ⟨k, -, hk⟩ := List.any_eq_true.1 h
    cases ho : ops[k]? with
    | none => rw [ho] at hk; cases hk
    | some o =>
      rw [ho] at hk
      obtain ⟨e, he, hb⟩ := Array.any_eq_true'.1 hk
      simp only [Bool.and_eq_true, beq_iff_eq] at hb
      exact .inr ⟨k, o, ho, e, he, hb.1, hb.2⟩
/-- What is listed has what it waits for listed. -/
def ShutT (md : Region.Mode) (ops : Array Oper) (listed : Array Bool) : Prop := ∀ (i : Nat) (o : Oper), ops[i]? = some o → listed.getD i false = true → ∀ e ∈ o.after, Region.binds md e = true → listed.getD e.on false = true
theorem shut_none (n : Nat) : ShutT md ops (Array.replicate n false) := fun i o _ h => by
  simp [Array.getD, Array.getElem_replicate] at h
theorem shut_set {listed : Array Bool} {i : Nat} (hs : ShutT md ops listed) (hi : i ∈ Region.ready md ops listed) : ShutT md ops (listed.setIfInBounds i true) := by
  intro j o ho hj e he hb
  by_cases hij : j = i
  · subst hij
    obtain ⟨_, o', ho', hall⟩ := mem_ready.1 hi
    obtain rfl : o = o' := Option.some.inj (ho.symm.trans ho')
    exact getD_set_true (hall e he hb)
  · refine getD_set_true (hs j o ho ?_ e he hb)
    rw [← hj, getD_set_ne false (by omega)]
/-- All are listed where nothing may come up. -/
theorem all_listedT (ht : TailOkT md ops L) {listed : Array Bool} (hs : listed.size = ops.size) (hr : Region.ready md ops listed = []) : ∀ i, i < ops.size → listed.getD i false = true := by
  intro i
  induction i using Nat.strongRecOn with
  | _ i ih =>
    intro hi
    cases hl : listed.getD i false with
    | true => rfl
    | false =>
      have : i ∈ Region.ready md ops listed := by
        refine mem_ready.2 ⟨by simp [hs, hi] at hl ⊢; exact hl, ops[i], Array.getElem?_eq_getElem hi, fun e he _ => ?_⟩
        have := ht.e i ops[i] (Array.getElem?_eq_getElem hi) e he
        exact ih e.on this (by omega)
      rw [hr] at this
      cases this
theorem ready_oldT (ht : TailOkT md ops L) {listed : Array Bool} (hs : listed.size = ops.size) {b : Bool} {i : Nat} (hi : i < ops.size) : i ∈ Region.ready md (ops.push L) (listed.push b) ↔ i ∈ Region.ready md ops listed := by
  rw [mem_ready, mem_ready, push_old (by omega)]
  have ho : (ops.push L)[i]? = ops[i]? := by simp [Array.getElem?_push, show i ≠ ops.size by omega]
  rw [ho]
  refine and_congr_right fun _ => ⟨fun ⟨o, h1, h2⟩ => ⟨o, h1, fun e he hb => ?_⟩, fun ⟨o, h1, h2⟩ => ⟨o, h1, fun e he hb => ?_⟩⟩
  · have := ht.e i o h1 e he
    rw [← h2 e he hb, push_old (by omega)]
  · have := ht.e i o h1 e he
    rw [push_old (by omega)]
    exact h2 e he hb
/-- The last does not come up as long as another may. -/
theorem ready_lastT (ht : TailOkT md ops L) {listed : Array Bool} (hs : listed.size = ops.size) (hsh : ShutT md ops listed) {b : Bool} (h : ops.size ∈ Region.ready md (ops.push L) (listed.push b)) : Region.ready md ops listed = [] := by
  obtain ⟨_, o, ho, hall⟩ := mem_ready.1 h
  obtain rfl : L = o := by simpa using ho
  have hd : ∀ n i, ops.size - i = n → i < ops.size → listed.getD i false = true := by
    intro n
    induction n using Nat.strongRecOn with
    | _ n ih =>
      intro i hn hi
      rcases ht.lw i hi with ⟨e, he, hb, rfl⟩ | ⟨k, o, hk, e, he, hb, rfl⟩
      · have := hall e he hb
        rwa [push_old (by omega)] at this
      · have h1 := ht.e k o hk e he
        have h2 := (Array.getElem?_eq_some_iff.1 hk).1
        exact hsh k o hk (ih (ops.size - k) (by omega) k rfl h2) e he hb
  refine List.eq_nil_iff_forall_not_mem.2 fun i hi => ?_
  obtain ⟨h0, oi, hoi, _⟩ := mem_ready.1 hi
  have hlt := (Array.getElem?_eq_some_iff.1 hoi).1
  have := hd _ i rfl hlt
  simp [hs, hlt] at h0 this
  rw [h0] at this
  cases this
theorem any_tailT (ht : TailOkT md ops L) : ∀ (fuel : Nat) (listed : Array Bool) (a : Act) (w : World), listed.size = ops.size → ShutT md ops listed → wpAnyH P md ops (tailQ P L Q) S fuel listed a w → wpAny P md (ops.push L) Q (fuel + 1) (listed.push false) a w := by
  have fin : ∀ (fuel : Nat) (listed : Array Bool) (a : Act) (w : World), listed.size = ops.size → Region.ready md ops listed = [] → tailQ P L Q .normal a w → wpAny P md (ops.push L) Q (fuel + 1) (listed.push false) a w := by
    intro fuel listed a w hs hr hq
    have hall := all_listedT ht hs hr
    have hin : ops.size ∈ Region.ready md (ops.push L) (listed.push false) := by
      refine mem_ready.2 ⟨by rw [← hs]; exact push_new, L, by simp, fun e he _ => ?_⟩
      have := ht.le e he
      rw [push_old (by omega)]
      exact hall _ this
    refine ⟨fun h0 => (by rw [h0] at hin; cases hin), fun i hi => ?_⟩
    rcases ready_lt hi with h | rfl
    · rw [ready_oldT ht hs h, hr] at hi
      cases hi
    · unfold wpOp
      rw [show (ops.push L)[ops.size]? = some L by simp]
      simp only [Region.wanted, ht.lg, if_true]
      refine .inl (Oper.wp_mono (fun a w hq => any_done ?_ hq fuel) hq)
      refine List.eq_nil_iff_forall_not_mem.2 fun j hj => ?_
      have h0 := (mem_ready.1 hj).1
      rcases ready_lt hj with h | rfl
      · rw [getD_set_ne true (by omega), push_old (by omega)] at h0
        have := hall j h
        simp [hs, h] at h0 this
        rw [h0] at this
        cases this
      · rw [← hs] at h0
        simp at h0
  intro fuel
  induction fuel with
  | zero => intro listed a w hs _ h; exact fin 0 listed a w hs h.1 h.2
  | succ fuel ih =>
    intro listed a w hs hsh h
    by_cases hr : Region.ready md ops listed = []
    · exact fin (fuel + 1) listed a w hs hr (h.1 hr)
    · refine ⟨fun h0 => ?_, fun i hi => ?_⟩
      · obtain ⟨i, hi⟩ := List.exists_mem_of_ne_nil _ hr
        have hlt := (Array.getElem?_eq_some_iff.1 (mem_ready.1 hi).2.choose_spec.1).1
        have := (ready_oldT (b := false) ht hs hlt).2 hi
        rw [h0] at this
        cases this
      · rcases ready_lt hi with hlt | rfl
        · have h1 := h.2 i ((ready_oldT ht hs hlt).1 hi)
          have ho : (ops.push L)[i]? = ops[i]? := by simp [Array.getElem?_push, show i ≠ ops.size by omega]
          unfold wpOp at *
          rw [ho]
          have hoi : ops[i]? = some ops[i] := Array.getElem?_eq_getElem hlt
          rw [hoi] at h1 ⊢
          have hg := ht.g i ops[i] hoi
          simp only [Region.wanted, hg, if_true] at h1 ⊢
          rcases h1 with h1 | ⟨h1, h3⟩
          case inr => exact .inr ⟨h1, h3⟩
          refine .inl (op_post (Q1 := tailQ P L Q) (fun _ _ _ h => h) (fun h => h) (Oper.wp_mono (fun a w hk => ?_) h1))
          rw [show (listed.push false).setIfInBounds i true = (listed.setIfInBounds i true).push false by
            apply Array.ext_getElem?
            intro j
            simp only [Array.getElem?_setIfInBounds, Array.getElem?_push, Array.size_push, Array.size_setIfInBounds]
            by_cases hij : i = j
            · subst hij; simp [hs, hlt, show i ≠ ops.size by omega, show i < ops.size + 1 by omega]
            · simp [hij]]
          exact ih _ a w (by simp [hs]) (shut_set hsh ((ready_oldT ht hs hlt).1 hi)) hk.2
        · exact absurd (ready_lastT ht hs hsh hi) hr
theorem wp_region_tailT {id : Nat} {a : Act} {w : World} {l : List Oper} (n : Nat) {L : Oper} (hl : l = l.take n ++ [L]) (hm : P.follows .mixedOrders = true) (hB : tailT .any (l.take n).toArray L = true) (hS : S w.drew)
    (hw : S w.drew → wpAnyH P .any (l.take n).toArray (tailQ P L Q) S n (Array.replicate n false) a w.drew) : (Code.region id l.toArray true).wp P Q a w := by
  have hn : (l.take n).length = n := by
    have := congrArg List.length hl
    rw [List.length_append, List.length_take] at this
    rw [List.length_take]
    simp at this
    omega
  refine wp_region_any hm ?_
  have := any_tailT (tailT_ok hB) _ _ a w.drew (by simp only [Array.size_replicate, List.size_toArray, hn]) (shut_none n) (hw hS)
  rw [show l.toArray = (l.take n).toArray.push L by rw [List.push_toArray, ← hl]]
  rw [Array.size_push, List.size_toArray, hn, Array.replicate_succ]
  exact this
end
end Go.Proofs.YthbjfpgcinmjiaaDoor
