/-
  A zone that is written is known again, with any one missing. Plain mathematics; no condition beyond each theorem's own.
-/
import Derived.Test.YthdahdopejapmaaStU
namespace Go.Proofs.Ythdahdopejapmaa.stp
open Go.RowKit Go.Lib
open Go.Proofs.Ythdahdopejapmaa.tbl (Ent EntOk)
open Go.Proofs.Ythdahdopejapmaa.par (zx zeros zeros_length zx_length)
open Go.Proofs.Ythdahdopejapmaa.zon

/-- What is known leans on which are lost, and on the sums of the others. -/
theorem acc_same {es es' : List Ent} {hs : List (List UInt8)} {i : Nat} : ∀ {k : Nat}, (∀ j, j < k → lostK es j = lostK es' j) → acc es hs i k = acc es' hs i k
  | 0, _ => rfl
  | k + 1, h => by
    have ih := acc_same (hs := hs) (i := i) (k := k) fun j hj => h j (by omega)
    have hk := h k (by omega)
    by_cases h1 : k = i ∨ lostK es k = true
    · rw [acc_skip h1, acc_skip (by rw [← hk]; exact h1), ih]
    · have h2 : ¬ (k = i ∨ lostK es' k = true) := by rw [← hk]; exact h1
      by_cases h3 : hadK hs k = []
      · rw [acc_lack h1 h3, acc_lack h2 h3]
      · cases hy : acc es hs i k with
        | none => rw [acc_none hy, acc_none (by rw [← ih]; exact hy)]
        | some y => rw [acc_take h1 h3 hy, acc_take h2 h3 (by rw [← ih]; exact hy)]
theorem known_same {es es' : List Ent} {hs : List (List UInt8)} {i n : Nat} (hi : i < n) (h : ∀ j, j < n → lostK es j = lostK es' j) (hs9 : lostK es i = false → sumK es i = sumK es' i) : known n es hs i = known n es' hs i := by
  cases hl : lostK es i with
  | true => rw [known_lost hl, known_lost (by rw [← h i hi]; exact hl)]
  | false =>
    unfold known
    rw [← h i hi, hs9 hl, acc_same h]
/-- What is known of a full zone with some missed has its entry's sum, and is not lost. -/
theorem full_known {st : Int} {bs : List (List UInt8)} {ls : List Bool} {D i : Nat} {hs : List (List UInt8)} (hm : Missed (fullH bs ls D) hs) (hh : HadOk (D + 1) hs) (hi : i ≤ D) (hk : known (D + 1) (fullE st bs ls D) hs i ≠ []) :
    lostK (fullE st bs ls D) i = false ∧ ((crc.sum (known (D + 1) (fullE st bs ls D) hs i) : Nat) : Int) = sumK (fullE st bs ls D) i := by
  cases hl : lostK (fullE st bs ls D) i with
  | true => exact absurd (known_lost hl) hk
  | false =>
    refine ⟨rfl, ?_⟩
    by_cases h0 : hadK hs i = []
    · exact (known_sum hh hl h0 hk).2
    · rw [known_had hl h0, (hm i).resolve_right h0]
      rcases full_each (st := st) (bs := bs) (ls := ls) hi with ⟨h1, -⟩ | ⟨-, -, h1⟩
      · rw [hl] at h1; cases h1
      · exact h1
section
variable {D : Nat} {es : List Ent} {hs : List (List UInt8)} {ats : List Int} {bs : List (List UInt8)} {st : Int}
/-- What there is then: the blocks, the parity. -/
def newW (D : Nat) (es : List Ent) (hs : List (List UInt8)) (ats : List Int) (bs : List (List UInt8)) (st : Int) (k : Nat) : List (List UInt8) := (List.range k).map (newB D es hs ats bs st)
def newA (D : Nat) (es : List Ent) (hs : List (List UInt8)) (ats : List Int) (bs : List (List UInt8)) (st : Int) : List (List UInt8) := newW D es hs ats bs st D ++ [newP D es hs ats bs st D]
theorem newW_next (k : Nat) : newW D es hs ats bs st (k + 1) = newW D es hs ats bs st k ++ [newB D es hs ats bs st k] := range_next _ _
theorem newW_length (k : Nat) : (newW D es hs ats bs st k).length = k := by simp [newW]
theorem newA_length : (newA D es hs ats bs st).length = D + 1 := by simp [newA, newW]
theorem newA_get {i : Nat} (h : i < D) : (newA D es hs ats bs st)[i]? = some (newB D es hs ats bs st i) := by
  unfold newA newW
  rw [List.getElem?_append_left (by simpa using h)]
  simp [h]
theorem newA_last : (newA D es hs ats bs st)[D]? = some (newP D es hs ats bs st D) := by
  unfold newA newW
  rw [List.getElem?_append_right (by simp)]
  simp
/-- As a full zone: its blocks, which of them are lost. -/
def lsW (D : Nat) (es : List Ent) (hs : List (List UInt8)) (ats : List Int) (bs : List (List UInt8)) (st : Int) : List Bool := (List.range D).map fun i => (newB D es hs ats bs st i).isEmpty
theorem isLost_W {i : Nat} (h : i < D) : isLost (lsW D es hs ats bs st) i = (newB D es hs ats bs st i).isEmpty := by
  unfold isLost lsW
  rw [List.getElem?_map, List.getElem?_range h]
  rfl
theorem blk_W {i : Nat} (h : i < D) (h8 : (newB D es hs ats bs st i).length = 8) : blk (newW D es hs ats bs st D) i = newB D es hs ats bs st i := by
  have h1 : hadK (newW D es hs ats bs st D) i = newB D es hs ats bs st i := by
    apply hadK_get
    unfold newW
    rw [List.getElem?_map, List.getElem?_range h]
    rfl
  unfold blk
  rw [h1, if_pos h8]
theorem par_W (hB : ∀ i, newB D es hs ats bs st i = [] ∨ (newB D es hs ats bs st i).length = 8) : ∀ {k : Nat}, k ≤ D → par8 (newW D es hs ats bs st D) (lsW D es hs ats bs st) k = newP D es hs ats bs st k
  | 0, _ => rfl
  | k + 1, hk => by
    rw [par8, newP, isLost_W (show k < D by omega)]
    by_cases h : newB D es hs ats bs st k = []
    · rw [if_pos (by rw [h]; rfl), if_pos h, par_W hB (by omega)]
    · rw [if_neg (by intro h2; exact h (List.isEmpty_iff.1 h2)), if_neg h, blk_W (by omega) ((hB k).resolve_left h), par_W hB (by omega)]
theorem full_W (hB : ∀ i, newB D es hs ats bs st i = [] ∨ (newB D es hs ats bs st i).length = 8) : fullH (newW D es hs ats bs st D) (lsW D es hs ats bs st) D = newA D es hs ats bs st := by
  unfold fullH newA
  rw [par_W hB (Nat.le_refl D)]
  congr 1
  unfold newW
  refine List.map_congr_left fun i hi => ?_
  have hiD : i < D := List.mem_range.1 hi
  unfold rowF
  rw [isLost_W hiD]
  by_cases h : newB D es hs ats bs st i = []
  · rw [if_pos (by rw [h]; rfl), h]
  · rw [if_neg (by intro h2; exact h (List.isEmpty_iff.1 h2))]
    exact blk_W hiD ((hB i).resolve_left h)
/-- Its entries: lost where nothing is, with the sum where something is. -/
theorem newE_tells (hat : AtsOk (D : Int) ats) (hl : bs.length = ats.length) (hb : ∀ y ∈ bs, y.length = 8)
    (hk : ∀ i, i < D → known (D + 1) es hs i ≠ [] → (entK es i).ls = false ∧ ((crc.sum (known (D + 1) es hs i) : Nat) : Int) = (entK es i).sm) {i : Nat} (hi : i < D) :
    (newE D es hs ats bs st i).ls = (newB D es hs ats bs st i).isEmpty ∧ (newB D es hs ats bs st i ≠ [] → (newE D es hs ats bs st i).sm = ((crc.sum (newB D es hs ats bs st i) : Nat) : Int)) := by
  by_cases hw : ∃ j : Nat, ats[j]? = some (i : Int)
  · obtain ⟨j, hj⟩ := hw
    have hjl := (List.getElem?_eq_some_iff.1 hj).1
    obtain ⟨h1, h2⟩ := newE_at (D := D) (es := es) (hs := hs) (st := st) hat.2.2 hl hb hj
    have h8 := hadK_eight hb (show j < bs.length by omega)
    rw [h1, h2]
    refine ⟨?_, fun _ => rfl⟩
    cases hq : hadK bs j with
    | nil => rw [hq] at h8; cases h8
    | cons u us => rfl
  · have hn : ∀ j : Nat, ats[j]? ≠ some (i : Int) := fun j hj => hw ⟨j, hj⟩
    obtain ⟨h1, h2⟩ := newE_un (D := D) (es := es) (hs := hs) (bs := bs) (st := st) hn
    rw [h1, h2]
    by_cases h0 : known (D + 1) es hs i = []
    · rw [if_pos h0, h0]
      exact ⟨rfl, fun h => absurd rfl h⟩
    · rw [if_neg h0]
      obtain ⟨h3, h4⟩ := hk i hi h0
      refine ⟨?_, fun _ => h4.symm⟩
      rw [h3]
      cases hq : known (D + 1) es hs i with
      | nil => exact absurd hq h0
      | cons u us => rfl
/-- All is known that there is, with any one of them missing. -/
theorem known_W (hh : HadOk (D + 1) hs) (hat : AtsOk (D : Int) ats) (hl : bs.length = ats.length) (hb : ∀ y ∈ bs, y.length = 8)
    (hk : ∀ i, i < D → known (D + 1) es hs i ≠ [] → (entK es i).ls = false ∧ ((crc.sum (known (D + 1) es hs i) : Nat) : Int) = (entK es i).sm) {j i : Nat} (hj : j ≤ D) (hi : i ≤ D) :
    known (D + 1) (newT D es hs ats bs st) ((newA D es hs ats bs st).set j []) i = hadK (newA D es hs ats bs st) i := by
  have hB := newB_length (D := D) (es := es) (hs := hs) (st := st) hat.2.2 hh hl hb
  have hP8 := newP_length (D := D) (es := es) (hs := hs) (st := st) hat.2.2 hh hl hb D
  have hF := full_W hB
  have hlost : ∀ q, q < D + 1 → lostK (newT D es hs ats bs st) q = lostK (fullE st (newW D es hs ats bs st D) (lsW D es hs ats bs st) D) q := fun q hq => by
    by_cases hqD : q < D
    · rw [lostK_get (newT_get hqD), lostK_get (fullE_get hqD)]
      show _ = isLost _ _
      rw [isLost_W hqD]
      exact (newE_tells (st := st) hat hl hb hk hqD).1
    · obtain rfl : q = D := by omega
      rw [lostK_get newT_last, lostK_get fullE_last]
      rfl
  have hsum : lostK (newT D es hs ats bs st) i = false → sumK (newT D es hs ats bs st) i = sumK (fullE st (newW D es hs ats bs st D) (lsW D es hs ats bs st) D) i := fun hl0 => by
    by_cases hiD : i < D
    · rw [sumK_get (newT_get hiD), sumK_get (fullE_get hiD)]
      rw [lostK_get (newT_get hiD), (newE_tells (st := st) hat hl hb hk hiD).1] at hl0
      have hne : newB D es hs ats bs st i ≠ [] := by intro h; rw [h] at hl0; cases hl0
      rw [(newE_tells (st := st) hat hl hb hk hiD).2 hne]
      show _ = ((crc.sum (blk _ i) : Nat) : Int)
      rw [blk_W hiD ((hB i).resolve_left hne)]
    · obtain rfl : i = D := by omega
      rw [sumK_get newT_last, sumK_get fullE_last, par_W hB (Nat.le_refl i)]
      rfl
  rw [known_same (show i < D + 1 by omega) hlost hsum]
  cases hli : lostK (fullE st (newW D es hs ats bs st D) (lsW D es hs ats bs st) D) i with
  | true =>
    rw [known_lost hli, ← hF]
    rcases full_each (st := st) (bs := newW D es hs ats bs st D) (ls := lsW D es hs ats bs st) hi with ⟨-, h⟩ | ⟨h, -⟩
    · exact h.symm
    · rw [hli] at h; cases h
  | false =>
    have hmiss : Missed (fullH (newW D es hs ats bs st D) (lsW D es hs ats bs st) D) ((newA D es hs ats bs st).set j []) := by
      rw [hF]
      exact missed_set (missed_refl _) (by rw [newA_length]; omega)
    by_cases hij : i = j
    · subst hij
      rw [known_full hmiss hi (fun k hk1 hk2 hk3 => by
        rw [hadK_set [] (by rw [newA_length]; omega) k, if_neg hk2, ← hF]
        intro h0
        rcases full_each (st := st) (bs := newW D es hs ats bs st D) (ls := lsW D es hs ats bs st) hk1 with ⟨h, -⟩ | ⟨-, h, -⟩
        · rw [hk3] at h; cases h
        · rw [h0] at h; cases h) hli, hF]
    · have hne : hadK ((newA D es hs ats bs st).set j []) i = hadK (newA D es hs ats bs st) i := by rw [hadK_set [] (by rw [newA_length]; omega) i, if_neg hij]
      rw [known_had hli (by
        rw [hne, ← hF]
        intro h0
        rcases full_each (st := st) (bs := newW D es hs ats bs st D) (ls := lsW D es hs ats bs st) hi with ⟨h, -⟩ | ⟨-, h, -⟩
        · rw [hli] at h; cases h
        · rw [h0] at h; cases h), hne]
end
end Go.Proofs.Ythdahdopejapmaa.stp
