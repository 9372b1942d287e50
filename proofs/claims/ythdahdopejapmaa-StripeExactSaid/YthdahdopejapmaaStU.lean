/-
  A whole zone (nothing lost, all had) written, at once or block by block: its sums, its parity. Plain mathematics; no condition beyond each theorem's own.
-/
import Derived.Test.YthdahdopejapmaaGSt
import Derived.Test.YthdahdopejapmaaGZn
namespace Go.Proofs.Ythdahdopejapmaa.stp
open Go.RowKit Go.Lib
open Go.Proofs.Ythdahdopejapmaa.tbl (Ent EntOk)
open Go.Proofs.Ythdahdopejapmaa.par (zx zeros zeros_length zx_length)
open Go.Proofs.Ythdahdopejapmaa.zon

/-- The xor of the first blocks. -/
def px (B : Nat → List UInt8) : Nat → List UInt8
  | 0 => zeros 8
  | k + 1 => zx (px B k) (B k)
theorem px_congr {B B' : Nat → List UInt8} : ∀ {k : Nat}, (∀ i, i < k → B i = B' i) → px B k = px B' k
  | 0, _ => rfl
  | k + 1, h => by rw [px, px, h k (by omega), px_congr fun i hi => h i (by omega)]
/-- A whole zone's table and what is had of it, its blocks B. -/
structure Whole (D : Nat) (es : List Ent) (hs : List (List UInt8)) (B : Nat → List UInt8) : Prop where
  len : es.length = D + 1
  ent : ∀ i, i < D → ∃ e, es[i]? = some e ∧ e.ls = false ∧ e.sm = ((crc.sum (B i) : Nat) : Int)
  had : ∀ i, i < D → hadK hs i = B i ∧ (B i).length = 8
/-- The blocks when some are written. -/
def upd (B : Nat → List UInt8) (ats : List Int) (bs : List (List UInt8)) (j i : Nat) : List UInt8 := (look ats bs i false (B i) j).2
section
variable {D : Nat} {es : List Ent} {hs : List (List UInt8)} {B : Nat → List UInt8} {ats : List Int} {bs : List (List UInt8)} {st : Int}
theorem Whole.known (h : Whole D es hs B) {i : Nat} (hi : i < D) : known (D + 1) es hs i = B i := by
  obtain ⟨e, he, hl, -⟩ := h.ent i hi
  rw [known_had (by rw [lostK_get he]; exact hl) (by intro h0; have := (h.had i hi).2; rw [(h.had i hi).1] at h0; rw [h0] at this; cases this), (h.had i hi).1]
theorem Whole.new (h : Whole D es hs B) (hat : AtsOk (D : Int) ats) (hl : bs.length = ats.length) (hb : ∀ y ∈ bs, y.length = 8) {i : Nat} (hi : i < D) :
    newB D es hs ats bs st i = upd B ats bs ats.length i ∧ (upd B ats bs ats.length i).length = 8 ∧ (newE D es hs ats bs st i).ls = false ∧ (newE D es hs ats bs st i).sm = ((crc.sum (upd B ats bs ats.length i) : Nat) : Int) := by
  obtain ⟨e, he, hl0, hsm⟩ := h.ent i hi
  have hk := h.known hi
  unfold upd
  by_cases hw : ∃ j : Nat, ats[j]? = some (i : Int)
  · obtain ⟨j, hj⟩ := hw
    have hjl := (List.getElem?_eq_some_iff.1 hj).1
    obtain ⟨h1, h2⟩ := newE_at (D := D) (es := es) (hs := hs) (st := st) hat.2.2 hl hb hj
    rw [look_at hat.2.2 hj hjl, h1, h2]
    exact ⟨rfl, hadK_eight hb (by omega), rfl, rfl⟩
  · have hn : ∀ j : Nat, ats[j]? ≠ some (i : Int) := fun j hj => hw ⟨j, hj⟩
    obtain ⟨h1, h2⟩ := newE_un (D := D) (es := es) (hs := hs) (bs := bs) (st := st) hn
    have hne : B i ≠ [] := by intro h0; have := (h.had i hi).2; rw [h0] at this; cases this
    rw [look_none fun j _ => hn j, h1, h2, hk, if_neg hne, entK_get he]
    exact ⟨rfl, (h.had i hi).2, hl0, hsm⟩
theorem Whole.par (h : Whole D es hs B) (hat : AtsOk (D : Int) ats) (hl : bs.length = ats.length) (hb : ∀ y ∈ bs, y.length = 8) : ∀ {k : Nat}, k ≤ D → newP D es hs ats bs st k = px (upd B ats bs ats.length) k
  | 0, _ => rfl
  | k + 1, hk => by
    obtain ⟨h1, h2, -, -⟩ := h.new (st := st) hat hl hb (show k < D by omega)
    rw [newP, px, if_neg (by rw [h1]; intro h0; rw [h0] at h2; cases h2), h1, h.par hat hl hb (show k ≤ D by omega)]
/-- The new table has the new blocks' sums. -/
theorem Whole.sums (h : Whole D es hs B) (hat : AtsOk (D : Int) ats) (hl : bs.length = ats.length) (hb : ∀ y ∈ bs, y.length = 8) {i : Nat} (hi : i ≤ D) :
    ∃ e, (newT D es hs ats bs st)[i]? = some e ∧ e.ls = false ∧ e.sm = ((crc.sum (if i < D then upd B ats bs ats.length i else px (upd B ats bs ats.length) D) : Nat) : Int) := by
  by_cases hlt : i < D
  · obtain ⟨-, -, h3, h4⟩ := h.new (st := st) hat hl hb hlt
    exact ⟨_, newT_get hlt, h3, by rw [if_pos hlt]; exact h4⟩
  · obtain rfl : i = D := by omega
    refine ⟨_, newT_last, rfl, ?_⟩
    rw [if_neg hlt, ← h.par (st := st) hat hl hb (Nat.le_refl _)]
    rfl
end
/-- A full zone of which nothing is lost. -/
theorem whole_full (st : Int) (bs : List (List UInt8)) (D : Nat) : Whole D (fullE st bs [] D) (fullH bs [] D) (blk bs) where
  len := fullE_length _ _ _ _
  ent := fun i hi => ⟨_, fullE_get hi, rfl, rfl⟩
  had := fun i hi => ⟨by rw [hadK_get (fullH_get hi)]; rfl, blk_length bs i⟩
theorem hadOk_full (bs : List (List UInt8)) (D : Nat) : HadOk (D + 1) (fullH bs [] D) := full_had bs [] D
theorem par8_px (bs : List (List UInt8)) : ∀ k, par8 bs [] k = px (blk bs) k
  | 0 => rfl
  | k + 1 => by
    rw [par8, px, if_neg (by unfold isLost; simp), par8_px bs k]
/-- One block written. -/
theorem one_ats {D : Nat} {y : Int} (h : 0 ≤ y ∧ y ≤ (D : Int) - 1) : AtsOk (D : Int) [y] := by
  refine ⟨by simp, fun x hx => ?_, fun j x z hx hz => ?_⟩
  · rw [List.mem_singleton] at hx
    rw [hx]
    exact h
  · rw [List.getElem?_eq_none (by simp)] at hz
    cases hz
theorem upd_next {B : Nat → List UInt8} {ats : List Int} {bs : List (List UInt8)} {j : Nat} {y : Int} {b : List UInt8} (hj : ats[j]? = some y) (hb : hadK bs j = b) (i : Nat) : upd (upd B ats bs j) [y] [b] 1 i = upd B ats bs (j + 1) i := by
  unfold upd
  by_cases h : y = (i : Int)
  · subst h
    rw [look_hit (j := j) hj, look_hit (j := 0) (ats := [(i : Int)]) rfl, hb]
    rfl
  · rw [look_miss (j := j) (by rw [hj]; intro h2; exact h (Option.some.inj h2)), look_miss (j := 0) (ats := [y]) (by intro h2; exact h (Option.some.inj h2))]
    rfl
theorem upd_zero (B : Nat → List UInt8) (ats : List Int) (bs : List (List UInt8)) (i : Nat) : upd B ats bs 0 i = B i := rfl
/-- The next of them: the table, what is had then. -/
theorem Whole.step {D : Nat} {es : List Ent} {hs : List (List UInt8)} {B : Nat → List UInt8} {st y : Int} {b q : List UInt8} {j : Nat} (h : Whole D es hs B) (hh : HadOk (D + 1) hs) (hy : (j : Int) = y) (hj : j < D) (hb : b.length = 8) :
    Whole D (newT D es hs [y] [b] st) ((hs.set j b).set D q) (upd B [y] [b] 1) := by
  have hat : AtsOk (D : Int) [y] := one_ats (by omega)
  have h8 : ∀ u ∈ [b], u.length = 8 := fun u hu => by rw [List.mem_singleton] at hu; rw [hu]; exact hb
  refine ⟨newT_length _ _ _ _ _ _, fun i hi => ?_, fun i hi => ?_⟩
  · obtain ⟨e, he, hl, hs9⟩ := h.sums (st := st) hat rfl h8 (show i ≤ D by omega)
    rw [if_pos hi] at hs9
    exact ⟨e, he, hl, hs9⟩
  · obtain ⟨-, h2, -, -⟩ := h.new (st := st) hat (bs := [b]) rfl h8 hi
    refine ⟨?_, h2⟩
    unfold hadK
    rw [List.getElem?_set_ne (by omega)]
    unfold upd
    by_cases hij : i = j
    · subst hij
      rw [List.getElem?_set_self (by rw [hh.1]; omega), look_hit (j := 0) (ats := [y]) (by rw [← hy]; rfl)]
      rfl
    · rw [List.getElem?_set_ne (fun k => hij k.symm), look_miss (j := 0) (ats := [y]) (by rw [← hy]; intro k; exact hij (by have := Option.some.inj k; omega))]
      exact (h.had i hi).1
theorem hadOk_set {n j : Nat} {hs : List (List UInt8)} {b : List UInt8} (h : HadOk n hs) (hb : b.length = 8) : HadOk n (hs.set j b) := by
  refine ⟨by rw [List.length_set]; exact h.1, fun y hy => ?_⟩
  rcases List.mem_or_eq_of_mem_set hy with k | k
  · exact h.2 y k
  · rw [k]; exact .inr hb
end Go.Proofs.Ythdahdopejapmaa.stp
