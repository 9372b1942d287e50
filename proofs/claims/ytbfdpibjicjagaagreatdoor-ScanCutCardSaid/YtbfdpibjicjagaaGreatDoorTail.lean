/-
  A region that draws, whose last operation waits for all others and may write what the held condition S speaks of: it is carried out behind the walk. Conditions: no operation is guarded.
-/
import Derived.Deep.RegionHeld3
namespace Go.Proofs.YtbfdpibjicjagaaGreatDoor
open Go
section
variable {P : Program} {md : Region.Mode} {ops : Array Oper} {L : Oper} {Q : Exit → Act → World → Prop} {S : World → Prop}
def tailB (md : Region.Mode) (ops : Array Oper) (L : Oper) : Bool :=
 ((List.range ops.size).all fun i => match ops[i]? with | some o => o.guard.isNone && o.after.all fun e => decide (e.on < i) | none => false) &&
 (L.guard.isNone && (L.after.all (fun e => decide (e.on < ops.size)) && (List.range ops.size).all fun i => L.after.any fun e => Region.binds md e && e.on == i))
structure TailOk (md : Region.Mode) (ops : Array Oper) (L : Oper) : Prop where
 g : ∀ (i : Nat) (o : Oper), ops[i]? = some o → o.guard = none
 e : ∀ (i : Nat) (o : Oper), ops[i]? = some o → ∀ e ∈ o.after, e.on < i
 lg : L.guard = none
 le : ∀ e ∈ L.after, e.on < ops.size
 lw : ∀ i, i < ops.size → ∃ e ∈ L.after, Region.binds md e = true ∧ e.on = i
theorem tail_ok (h : tailB md ops L = true) : TailOk md ops L := by
 simp only [tailB, Bool.and_eq_true] at h
 obtain ⟨h1, h2, h3, h4⟩ := h
 have key : ∀ (i : Nat) (o : Oper), ops[i]? = some o → o.guard = none ∧ ∀ e ∈ o.after, e.on < i := fun i o ho => by
  have hi : i < ops.size := (Array.getElem?_eq_some_iff.1 ho).1
  have := List.all_eq_true.1 h1 i (List.mem_range.2 hi)
  rw [ho] at this
  simp only [Bool.and_eq_true] at this
  refine ⟨by simpa using this.1, fun e he => ?_⟩
  have := Array.all_eq_true'.1 this.2 e he
  simpa using this
 refine ⟨fun i o ho => (key i o ho).1, fun i o ho => (key i o ho).2, by simpa using h2, fun e he => by simpa using Array.all_eq_true'.1 h3 e he, fun i hi => ?_⟩
 have := List.all_eq_true.1 h4 i (List.mem_range.2 hi)
 obtain ⟨e, he, hb⟩ := Array.any_eq_true'.1 this
 simp only [Bool.and_eq_true, beq_iff_eq] at hb
 exact ⟨e, he, hb.1, hb.2⟩
def tailQ (P : Program) (L : Oper) (Q : Exit → Act → World → Prop) : Exit → Act → World → Prop
 | .normal, a, w => Oper.wp P L a w (fun a w => Q .normal a w) Q
 | e, a, w => Q e a w
theorem op_post {Q1 Q2 : Exit → Act → World → Prop} {o : Oper} {a : Act} {w : World} {K : Act → World → Prop} (h1 : ∀ c a w, Q1 (.panic c) a w → Q2 (.panic c) a w) (h2 : LetsOut Q1 → LetsOut Q2) (hh : o.wp P a w K Q1) : o.wp P a w K Q2 := by
 unfold Oper.wp at *
 generalize (execOp a.eval o).run P w = r at *
 cases r with
 | ok n w' =>
  cases n <;> simp only [Oper.upon] at hh ⊢ <;>
   first
    | exact hh
    | exact Calls.mono hh (fun e w'' he => by cases e <;> first | exact he | exact h1 _ _ _ he | exact h2 he)
 | halt x w' => cases x <;> simp only [Oper.upon] at hh ⊢ <;> first | exact hh | exact h1 _ _ _ hh
theorem push_old {listed : Array Bool} {i : Nat} {b d : Bool} (h : i < listed.size) : (listed.push b).getD i d = listed.getD i d := by
 simp [Array.getElem?_push, show i ≠ listed.size by omega]
theorem push_new {listed : Array Bool} {b d : Bool} : (listed.push b).getD listed.size d = b := by
 simp
theorem all_listed (ht : TailOk md ops L) {listed : Array Bool} (hs : listed.size = ops.size) (hr : Region.ready md ops listed = []) : ∀ i, i < ops.size → listed.getD i false = true := by
 intro i
 induction i using Nat.strongRecOn with
 | _ i ih =>
  intro hi
  cases hl : listed.getD i false with
  | true => rfl
  | false =>
   have : i ∈ Region.ready md ops listed := by
    refine mem_ready.2 ⟨by simp [hs, hi] at hl ⊢; exact hl, ops[i], Array.getElem?_eq_getElem hi, fun e he _ => ?_⟩
    have := ht.e i ops[i] (Array.getElem?_eq_getElem hi) e he
    exact ih e.on this (by omega)
   rw [hr] at this
   cases this
theorem ready_old (ht : TailOk md ops L) {listed : Array Bool} (hs : listed.size = ops.size) {b : Bool} {i : Nat} (hi : i < ops.size) : i ∈ Region.ready md (ops.push L) (listed.push b) ↔ i ∈ Region.ready md ops listed := by
 rw [mem_ready, mem_ready, push_old (by omega)]
 have ho : (ops.push L)[i]? = ops[i]? := by simp [Array.getElem?_push, show i ≠ ops.size by omega]
 rw [ho]
 refine and_congr_right fun _ => ⟨fun ⟨o, h1, h2⟩ => ⟨o, h1, fun e he hb => ?_⟩, fun ⟨o, h1, h2⟩ => ⟨o, h1, fun e he hb => ?_⟩⟩
 ·have := ht.e i o h1 e he
  rw [← h2 e he hb, push_old (by omega)]
 ·have := ht.e i o h1 e he
  rw [push_old (by omega)]
  exact h2 e he hb
theorem ready_lt {listed : Array Bool} {i : Nat} (h : i ∈ Region.ready md (ops.push L) listed) : i < ops.size ∨ i = ops.size := by
 obtain ⟨_, o, ho, _⟩ := mem_ready.1 h
 have := (Array.getElem?_eq_some_iff.1 ho).1
 simp at this
 omega
theorem ready_last (ht : TailOk md ops L) {listed : Array Bool} (hs : listed.size = ops.size) {b : Bool} (h : ops.size ∈ Region.ready md (ops.push L) (listed.push b)) : Region.ready md ops listed = [] := by
 obtain ⟨_, o, ho, hall⟩ := mem_ready.1 h
 obtain rfl : L = o := by simpa using ho
 refine List.eq_nil_iff_forall_not_mem.2 fun i hi => ?_
 obtain ⟨h0, oi, hoi, _⟩ := mem_ready.1 hi
 have hlt := (Array.getElem?_eq_some_iff.1 hoi).1
 obtain ⟨e, he, hb, rfl⟩ := ht.lw i hlt
 have := hall e he hb
 rw [push_old (by omega)] at this
 simp [hs, hlt] at h0 this
 rw [h0] at this
 cases this
theorem any_done {ops : Array Oper} {listed : Array Bool} {a : Act} {w : World} (hr : Region.ready md ops listed = []) (h : Q .normal a w) : ∀ fuel, wpAny P md ops Q fuel listed a w
 | 0 => ⟨hr, h⟩
 | _ + 1 => ⟨fun _ => h, by rw [hr]; simp⟩
theorem any_tail (ht : TailOk md ops L) : ∀ (fuel : Nat) (listed : Array Bool) (a : Act) (w : World), listed.size = ops.size → wpAnyH P md ops (tailQ P L Q) S fuel listed a w → wpAny P md (ops.push L) Q (fuel + 1) (listed.push false) a w := by
 have fin : ∀ (fuel : Nat) (listed : Array Bool) (a : Act) (w : World), listed.size = ops.size → Region.ready md ops listed = [] → tailQ P L Q .normal a w → wpAny P md (ops.push L) Q (fuel + 1) (listed.push false) a w := by
  intro fuel listed a w hs hr hq
  have hall := all_listed ht hs hr
  have hin : ops.size ∈ Region.ready md (ops.push L) (listed.push false) := by
   refine mem_ready.2 ⟨by rw [← hs]; exact push_new, L, by simp, fun e he _ => ?_⟩
   have := ht.le e he
   rw [push_old (by omega)]
   exact hall _ this
  refine ⟨fun h0 => (by rw [h0] at hin; cases hin), fun i hi => ?_⟩
  rcases ready_lt hi with h | rfl
  ·rw [ready_old ht hs h, hr] at hi
   cases hi
  ·unfold wpOp
   rw [show (ops.push L)[ops.size]? = some L by simp]
   simp only [Region.wanted, ht.lg, if_true]
   refine .inl (Oper.wp_mono (fun a w hq => any_done ?_ hq fuel) hq)
   refine List.eq_nil_iff_forall_not_mem.2 fun j hj => ?_
   have h0 := (mem_ready.1 hj).1
   rcases ready_lt hj with h | rfl
   ·rw [getD_set_ne true (by omega), push_old (by omega)] at h0
    have := hall j h
    simp [hs, h] at h0 this
    rw [h0] at this
    cases this
   ·rw [← hs] at h0
    simp at h0
 intro fuel
 induction fuel with
 | zero => intro listed a w hs h; exact fin 0 listed a w hs h.1 h.2
 | succ fuel ih =>
  intro listed a w hs h
  by_cases hr : Region.ready md ops listed = []
  ·exact fin (fuel + 1) listed a w hs hr (h.1 hr)
  ·refine ⟨fun h0 => ?_, fun i hi => ?_⟩
   ·obtain ⟨i, hi⟩ := List.exists_mem_of_ne_nil _ hr
    have hlt := (Array.getElem?_eq_some_iff.1 (mem_ready.1 hi).2.choose_spec.1).1
    have := (ready_old (b := false) ht hs hlt).2 hi
    rw [h0] at this
    cases this
   ·rcases ready_lt hi with hlt | rfl
    ·have h1 := h.2 i ((ready_old ht hs hlt).1 hi)
     have ho : (ops.push L)[i]? = ops[i]? := by simp [Array.getElem?_push, show i ≠ ops.size by omega]
     unfold wpOp at *
     rw [ho]
     have hoi : ops[i]? = some ops[i] := Array.getElem?_eq_getElem hlt
     rw [hoi] at h1 ⊢
     have hg := ht.g i ops[i] hoi
     simp only [Region.wanted, hg, if_true] at h1 ⊢
     rcases h1 with h1 | ⟨h1, h3⟩
     case inr => exact .inr ⟨h1, h3⟩
     refine .inl (op_post (Q1 := tailQ P L Q) (fun _ _ _ h => h) (fun h => h) (Oper.wp_mono (fun a w hk => ?_) h1))
     rw [show (listed.push false).setIfInBounds i true = (listed.setIfInBounds i true).push false by
      apply Array.ext_getElem?
      intro j
      simp only [Array.getElem?_setIfInBounds, Array.getElem?_push, Array.size_push, Array.size_setIfInBounds]
      by_cases hij : i = j
      ·subst hij; simp [hs, hlt, show i ≠ ops.size by omega, show i < ops.size + 1 by omega]
      ·simp [hij]]
     exact ih _ a w (by simp [hs]) hk.2
    ·exact absurd (ready_last ht hs hi) hr
theorem wp_region_tail {id : Nat} {a : Act} {w : World} {l : List Oper} (n : Nat) {L : Oper} (hl : l = l.take n ++ [L]) (hm : P.follows .mixedOrders = true) (hB : tailB .any (l.take n).toArray L = true) (hS : S w.drew)
  (hw : S w.drew → wpAnyH P .any (l.take n).toArray (tailQ P L Q) S n (Array.replicate n false) a w.drew) : (Code.region id l.toArray true).wp P Q a w := by
 have hn : (l.take n).length = n := by
  have := congrArg List.length hl
  rw [List.length_append, List.length_take] at this
  rw [List.length_take]
  simp at this
  omega
 refine wp_region_any hm ?_
 have := any_tail (tail_ok hB) _ _ a w.drew (by simp only [Array.size_replicate, List.size_toArray, hn]) (hw hS)
 rw [show l.toArray = (l.take n).toArray.push L by rw [List.push_toArray, ← hl]]
 rw [Array.size_push, List.size_toArray, hn, Array.replicate_succ]
 exact this
end
end Go.Proofs.YtbfdpibjicjagaaGreatDoor
