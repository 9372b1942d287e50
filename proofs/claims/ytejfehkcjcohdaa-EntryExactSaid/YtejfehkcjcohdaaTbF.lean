/-
  Package table: Bytes, Lost. Conditions: rows shorter than 2^20.
-/
import Derived.Test.YtejfehkcjcohdaaTbC
import Derived.Test.YtejfehkcjcohdaaGPk
import Derived.Deep.RegionHeld3
namespace Go.Proofs.Ytejfehkcjcohdaa.tbl
open Go.RowKit Go.Lib
open Go.Proofs.Ytejfehkcjcohdaa.gmt (Ok five_new check_ok check_no)
open Go.Proofs.Ytejfehkcjcohdaa.anc (flat_get flat_len slv_cell bl kal kst ks bm ka row_form row_below)
open Go.Proofs.Ytejfehkcjcohdaa.pck (le le_length AllFit Fits Sz bytesOf Rowed row_any)

theorem tcheck_not (z d s l a : Int) (x : TV) (w : World) (hno : ¬ (Ok z d s l a ∧ Good d x.es)) (hx : x.In w w.heap.size) (hn : x.es.length ≤ 1048576) :
    Calls Try.prog 49 #[.agg #[.int .i64 z, .int .i64 d, .int .i64 s, .int .i64 l, .int .i64 a], x.v] w fun e w' => e = .returned (.int .i64 1) ∧ Below w.heap.size w w' := by
  by_cases ho : Ok z d s l a
  · obtain ⟨D, rfl⟩ : ∃ D : Nat, d = D := ⟨d.toNat, by have := ho.2.1; omega⟩
    exact tcheck_any false z s l a D x w ho hx hn (iff_of_false Bool.false_ne_true fun h => hno ⟨ho, h⟩)
  · exact tcheck_no z d s l a x w ho
theorem tcheck_yes (z d s l a : Int) (x : TV) (w : World) (ho : Ok z d s l a) (hg : Good d x.es) (hx : x.In w w.heap.size) :
    Calls Try.prog 49 #[.agg #[.int .i64 z, .int .i64 d, .int .i64 s, .int .i64 l, .int .i64 a], x.v] w fun e w' => e = .returned (.int .i64 0) ∧ Below w.heap.size w w' := by
  obtain ⟨D, rfl⟩ : ∃ D : Nat, d = D := ⟨d.toNat, by have := ho.2.1; omega⟩
  exact tcheck_any true z s l a D x w ho hx (by have := hg.1; have := ho.2.1; omega) (iff_of_true rfl hg)
/-- A table's numbers, each with its size. -/
def entP (e : Ent) : List (Int × Int) := [(e.st, 4), (e.sm, 4), (((lsN e.ls : Nat) : Int), 1)]
def prs (es : List Ent) : List (Int × Int) := es.flatMap entP
def entNs (e : Ent) : List Int := [e.st, e.sm, ((lsN e.ls : Nat) : Int)]
def nums (es : List Ent) : List Int := es.flatMap entNs
theorem nums_length : ∀ es : List Ent, (nums es).length = es.length * 3
  | [] => rfl
  | e :: es => by
    have h : nums (e :: es) = entNs e ++ nums es := by simp [nums]
    rw [h, List.length_append, nums_length es, List.length_cons, show (entNs e).length = 3 from rfl]
    omega
theorem nums_next {es : List Ent} {k : Nat} {e : Ent} (h : es[k]? = some e) : nums (es.take (k + 1)) = nums (es.take k) ++ entNs e := by
  rw [List.take_add_one, h]
  simp [nums]
theorem prs_fst (es : List Ent) : (prs es).map (·.1) = nums es := by
  unfold prs nums
  rw [List.map_flatMap]
  rfl
theorem prs_snd : ∀ es : List Ent, ints ((prs es).map (·.2)) = reps row41 es.length
  | [] => rfl
  | e :: es => by
    have h : prs (e :: es) = entP e ++ prs es := by simp [prs]
    rw [h, List.map_append, ints_append, prs_snd es, List.length_cons]
    unfold reps
    rw [List.replicate_succ, List.flatten_cons]
    rfl
theorem prs_bytes (es : List Ent) : bytesOf (prs es) = encT es := by
  unfold bytesOf prs encT
  rw [List.flatMap_assoc]
  refine congrArg (fun f => List.flatMap f es) (funext fun e => ?_)
  simp [entP, entB]
theorem prs_fit {es : List Ent} (h : ∀ e ∈ es, EntOk e) : AllFit (prs es) := by
  intro p hp
  obtain ⟨e, he, hq⟩ := List.mem_flatMap.1 hp
  obtain ⟨⟨h1, h2⟩, h3, h4⟩ := h e he
  have hl := lsN_le e.ls
  simp only [entP, List.mem_cons, List.not_mem_nil, or_false] at hq
  rcases hq with rfl | rfl | rfl
  · exact ⟨4, e.st.toNat, rfl, by omega, .inr (.inr rfl), by omega⟩
  · exact ⟨4, e.sm.toNat, rfl, by omega, .inr (.inr rfl), by omega⟩
  · exact ⟨1, lsN e.ls, rfl, rfl, .inl rfl, by omega⟩
theorem prs_length (es : List Ent) : (prs es).length = es.length * 3 := by
  have h := congrArg List.length (prs_fst es)
  rw [List.length_map, nums_length] at h
  exact h
theorem flag_n (c : Bool) (w : World) :
    Calls Try.prog 63 #[.bool c] w fun e w' => e = .returned (.int .i64 ((lsN c : Nat) : Int)) ∧ w = w' := by
  have h := flag_at c w
  cases c <;> exact h
theorem owns_sl {w : World} {base n c : Nat} {e : TypeId} {A : Option Addr} {vs : List Value} (h : w.ownsRow base e 1 (.slice A n c) n vs) : SlV w w.heap.size A vs := by
  obtain ⟨A', c', hv, -, -, hs⟩ := row_form h
  simp only [Value.slice.injEq] at hv
  obtain ⟨rfl, -, -⟩ := hv
  exact hs
/-- The numbers and their sizes as bytes. -/
theorem row_t (es : List Ent) (n q : Nat) (A A' : Option Addr) (c c' : Nat) (W : World) (hn : es.length * 3 = n) (hq : es.length * 9 = q) (hl : n ≤ 1048576) (hf : ∀ e ∈ es, EntOk e)
    (hA : SlV W W.heap.size A (ints (nums es))) (hA' : SlV W W.heap.size A' (reps row41 es.length)) :
    Calls Try.prog 32 #[.slice A n c, .slice A' n c'] W fun e w' => BytE W.heap.size q (encT es) 0 e w' ∧ Below W.heap.size W w' := by
  refine (row_any n A A' c c' (prs es) W (by rw [prs_length]; exact hn) hl (by rw [prs_fst]; exact hA) (by rw [prs_snd]; exact hA')).mono ?_
  rintro e w' ⟨hr, hb⟩
  refine ⟨?_, hb⟩
  rcases hr with ⟨-, v, rfl, ho⟩ | ⟨hno, -⟩
  · rw [prs_bytes] at ho
    obtain ⟨X, c2, hv, -, -⟩ := ho.form
    have hlen : (encT es).length = q := by rw [encT_length]; exact hq
    rw [hlen] at hv
    exact ⟨X, c2, by rw [hv], hlen, by rw [hv] at ho; exact ho⟩
  · exact absurd (prs_fit hf) hno
end Go.Proofs.Ytejfehkcjcohdaa.tbl
