/-
  What is known of a zone, in plain data: of its table, of what is had; a zone as it was written (full). Plain mathematics; no condition.
  Lists of byte strings and of truths as they lie; are they more than the laws play (Heavy); are they as many as there are to be (Had); the document's At, What; truths compared (Bools). Conditions: each theorem's own.
  Rows of one's own of two element types are apart; rows of one's own kept over another's growth, over a cell stored below. Conditions: none.
  The document's answer to what is known of one of a zone's. Conditions: a right geometry, as many entries and as many had as there are to be.
  A zone as it was written (Full), by the laws' own function. Conditions: a right geometry; lists shorter than 2^20.
  What the laws of package zone ask of its functions; the laws' own example (wakes). Conditions: 'Czn'.
-/
import Derived.Test.YthdahdopejapmaaGTa
import Derived.Test.YthdahdopejapmaaXorMath
import Derived.Test.YthdahdopejapmaaGSum
import Derived.Test.YthdahdopejapmaaKeepRows
import Derived.Deep.QuietTactic
import Derived.BigQuiet
import Derived.Deep.RegionHeld3
import Derived.Deep.CutBlock
import Derived.Deep.CutRange
import Derived.Test.YthdahdopejapmaaTail
namespace Go.Proofs.Ythdahdopejapmaa.zon
open Go.Proofs.Ythdahdopejapmaa.par (zx zeros zeros_length zx_length zx_comm zx_assoc zx_zeros zeros_zx zx_self zx_twice zx_swap)
open Go.Proofs.Ythdahdopejapmaa.tbl (Ent)

/-- Of one of a zone's: is it lost, by the table; its sum; what is had of it. -/
def lostK (es : List Ent) (i : Nat) : Bool := (es[i]?.map Ent.ls).getD false
def sumK (es : List Ent) (i : Nat) : Int := (es[i]?.map Ent.sm).getD 0
def hadK (hs : List (List UInt8)) (i : Nat) : List UInt8 := (hs[i]?).getD []
/-- The xor of the first k of the others that are not lost; nothing where one of them is not had. -/
def acc (es : List Ent) (hs : List (List UInt8)) (i : Nat) : Nat → Option (List UInt8)
  | 0 => some (zeros 8)
  | k + 1 => match acc es hs i k with
    | none => none
    | some x => if k = i ∨ lostK es k = true then some x else if hadK hs k = [] then none else some (zx x (hadK hs k))
/-- What is known of one of n. -/
def known (n : Nat) (es : List Ent) (hs : List (List UInt8)) (i : Nat) : List UInt8 :=
  if lostK es i = true then [] else if hadK hs i = [] then (match acc es hs i n with | none => [] | some x => if ((crc.sum x : Nat) : Int) = sumK es i then x else []) else hadK hs i
def knowns (n : Nat) (es : List Ent) (hs : List (List UInt8)) : List (List UInt8) := (List.range n).map (known n es hs)
/-- As many as there are to be, each a block, or nothing. -/
def HadOk (n : Nat) (hs : List (List UInt8)) : Prop := hs.length = n ∧ ∀ h ∈ hs, h = [] ∨ h.length = 8
theorem knowns_length (n : Nat) (es : List Ent) (hs : List (List UInt8)) : (knowns n es hs).length = n := by simp [knowns]
theorem knowns_get {n i : Nat} (es : List Ent) (hs : List (List UInt8)) (h : i < n) : (knowns n es hs)[i]? = some (known n es hs i) := by simp [knowns, h]
theorem lostK_get {es : List Ent} {i : Nat} {e : Ent} (h : es[i]? = some e) : lostK es i = e.ls := by simp [lostK, h]
theorem sumK_get {es : List Ent} {i : Nat} {e : Ent} (h : es[i]? = some e) : sumK es i = e.sm := by simp [sumK, h]
theorem hadK_get {hs : List (List UInt8)} {i : Nat} {l : List UInt8} (h : hs[i]? = some l) : hadK hs i = l := by simp [hadK, h]
theorem hadK_ok {n : Nat} {hs : List (List UInt8)} (h : HadOk n hs) (i : Nat) : hadK hs i = [] ∨ (hadK hs i).length = 8 := by
  unfold hadK
  cases hi : hs[i]? with
  | none => exact .inl rfl
  | some l => exact h.2 l (List.mem_of_getElem? hi)
theorem acc_zero (es : List Ent) (hs : List (List UInt8)) (i : Nat) : acc es hs i 0 = some (zeros 8) := rfl
theorem acc_none {es : List Ent} {hs : List (List UInt8)} {i k : Nat} (h : acc es hs i k = none) : acc es hs i (k + 1) = none := by rw [acc, h]
theorem acc_skip {es : List Ent} {hs : List (List UInt8)} {i k : Nat} (h : k = i ∨ lostK es k = true) : acc es hs i (k + 1) = acc es hs i k := by
  rw [acc]
  cases acc es hs i k with
  | none => rfl
  | some x => simp only [if_pos h]
theorem acc_lack {es : List Ent} {hs : List (List UInt8)} {i k : Nat} (h : ¬ (k = i ∨ lostK es k = true)) (hk : hadK hs k = []) : acc es hs i (k + 1) = none := by
  rw [acc]
  cases acc es hs i k with
  | none => rfl
  | some x => simp only [if_neg h, if_pos hk]
theorem acc_take {es : List Ent} {hs : List (List UInt8)} {i k : Nat} {x : List UInt8} (h : ¬ (k = i ∨ lostK es k = true)) (hk : hadK hs k ≠ []) (hx : acc es hs i k = some x) : acc es hs i (k + 1) = some (zx x (hadK hs k)) := by
  rw [acc, hx]
  simp only [if_neg h, if_neg hk]
theorem acc_stays {es : List Ent} {hs : List (List UInt8)} {i k : Nat} (h : acc es hs i k = none) : ∀ n, k ≤ n → acc es hs i n = none
  | 0, hn => by
    obtain rfl : k = 0 := by omega
    exact h
  | n + 1, hn => by
    by_cases hk : k = n + 1
    · rw [← hk]; exact h
    · exact acc_none (acc_stays h n (by omega))
theorem acc_length {n : Nat} {es : List Ent} {hs : List (List UInt8)} (h : HadOk n hs) (i : Nat) : ∀ k x, acc es hs i k = some x → x.length = 8
  | 0, x, hx => by
    rw [acc_zero] at hx
    obtain rfl := Option.some.inj hx
    exact zeros_length 8
  | k + 1, x, hx => by
    by_cases hs1 : k = i ∨ lostK es k = true
    · rw [acc_skip hs1] at hx
      exact acc_length h i k x hx
    · by_cases hk : hadK hs k = []
      · rw [acc_lack hs1 hk] at hx
        cases hx
      · cases hy : acc es hs i k with
        | none => rw [acc_none hy] at hx; cases hx
        | some y =>
          rw [acc_take hs1 hk hy] at hx
          obtain rfl := Option.some.inj hx
          exact zx_length (acc_length h i k y hy) ((hadK_ok h k).resolve_left hk)
theorem known_lost {n : Nat} {es : List Ent} {hs : List (List UInt8)} {i : Nat} (h : lostK es i = true) : known n es hs i = [] := by unfold known; rw [if_pos h]
theorem known_had {n : Nat} {es : List Ent} {hs : List (List UInt8)} {i : Nat} (h : lostK es i = false) (hk : hadK hs i ≠ []) : known n es hs i = hadK hs i := by
  unfold known
  rw [if_neg (by rw [h]; exact Bool.false_ne_true), if_neg hk]
theorem known_none {n : Nat} {es : List Ent} {hs : List (List UInt8)} {i : Nat} (h : lostK es i = false) (hk : hadK hs i = []) (ha : acc es hs i n = none) : known n es hs i = [] := by
  unfold known
  rw [if_neg (by rw [h]; exact Bool.false_ne_true), if_pos hk, ha]
theorem known_some {n : Nat} {es : List Ent} {hs : List (List UInt8)} {i : Nat} {x : List UInt8} (h : lostK es i = false) (hk : hadK hs i = []) (ha : acc es hs i n = some x) : known n es hs i = if ((crc.sum x : Nat) : Int) = sumK es i then x else [] := by
  unfold known
  rw [if_neg (by rw [h]; exact Bool.false_ne_true), if_pos hk, ha]
theorem known_length {n : Nat} {es : List Ent} {hs : List (List UInt8)} (h : HadOk n hs) (i : Nat) : known n es hs i = [] ∨ (known n es hs i).length = 8 := by
  cases hl : lostK es i with
  | true => exact .inl (known_lost hl)
  | false =>
    by_cases hk : hadK hs i = []
    · cases ha : acc es hs i n with
      | none => exact .inl (known_none hl hk ha)
      | some x =>
        rw [known_some hl hk ha]
        split
        · exact .inr (acc_length h i n x ha)
        · exact .inl rfl
    · rw [known_had hl hk]
      exact hadK_ok h i
/-- What is known of what is not had has its entry's sum. -/
theorem known_sum {n : Nat} {es : List Ent} {hs : List (List UInt8)} (h : HadOk n hs) {i : Nat} (hl : lostK es i = false) (hk : hadK hs i = []) (hn : known n es hs i ≠ []) : (known n es hs i).length = 8 ∧ ((crc.sum (known n es hs i) : Nat) : Int) = sumK es i := by
  refine ⟨(known_length h i).resolve_left hn, ?_⟩
  cases ha : acc es hs i n with
  | none => exact absurd (known_none hl hk ha) hn
  | some x =>
    rw [known_some hl hk ha] at hn ⊢
    split
    · rename_i hx; exact hx
    · rename_i hx; rw [if_neg hx] at hn; exact absurd rfl hn
/-- What is lost: whatever is had of it. -/
theorem acc_other {es : List Ent} {hs hs' : List (List UInt8)} {j : Nat} (hl : lostK es j = true) (h : ∀ i, i ≠ j → hadK hs i = hadK hs' i) (i : Nat) : ∀ k, acc es hs i k = acc es hs' i k
  | 0 => rfl
  | k + 1 => by
    have ih := acc_other hl h i k
    by_cases hs1 : k = i ∨ lostK es k = true
    · rw [acc_skip hs1, acc_skip hs1, ih]
    · have hkj : k ≠ j := fun hh => hs1 (.inr (by rw [hh]; exact hl))
      by_cases hk : hadK hs k = []
      · rw [acc_lack hs1 hk, acc_lack hs1 (by rw [← h k hkj]; exact hk)]
      · cases hy : acc es hs i k with
        | none => rw [acc_none hy, acc_none (by rw [← ih]; exact hy)]
        | some y => rw [acc_take hs1 hk hy, acc_take hs1 (by rw [← h k hkj]; exact hk) (by rw [← ih]; exact hy), h k hkj]
theorem known_other {n : Nat} {es : List Ent} {hs hs' : List (List UInt8)} {j : Nat} (hl : lostK es j = true) (h : ∀ i, i ≠ j → hadK hs i = hadK hs' i) (i : Nat) : known n es hs i = known n es hs' i := by
  cases hi : lostK es i with
  | true => rw [known_lost hi, known_lost hi]
  | false =>
    have hij : i ≠ j := fun hh => by rw [hh, hl] at hi; cases hi
    unfold known
    rw [h i hij, acc_other hl h i n]

/-! A zone as it was written. -/
def blk (bs : List (List UInt8)) (i : Nat) : List UInt8 := if (hadK bs i).length = 8 then hadK bs i else zeros 8
def isLost (ls : List Bool) (i : Nat) : Bool := (ls[i]?).getD false
/-- The xor of the first k that are not lost. -/
def par8 (bs : List (List UInt8)) (ls : List Bool) : Nat → List UInt8
  | 0 => zeros 8
  | k + 1 => if isLost ls k = true then par8 bs ls k else zx (par8 bs ls k) (blk bs k)
def entF (st : Int) (bs : List (List UInt8)) (ls : List Bool) (i : Nat) : Ent := ⟨st, (crc.sum (blk bs i) : Nat), isLost ls i⟩
def rowF (bs : List (List UInt8)) (ls : List Bool) (i : Nat) : List UInt8 := if isLost ls i = true then [] else blk bs i
def fullE (st : Int) (bs : List (List UInt8)) (ls : List Bool) (d : Nat) : List Ent := (List.range d).map (entF st bs ls) ++ [⟨st, (crc.sum (par8 bs ls d) : Nat), false⟩]
def fullH (bs : List (List UInt8)) (ls : List Bool) (d : Nat) : List (List UInt8) := (List.range d).map (rowF bs ls) ++ [par8 bs ls d]
theorem blk_length (bs : List (List UInt8)) (i : Nat) : (blk bs i).length = 8 := by
  unfold blk
  split
  · assumption
  · exact zeros_length 8
theorem par8_length (bs : List (List UInt8)) (ls : List Bool) : ∀ k, (par8 bs ls k).length = 8
  | 0 => zeros_length 8
  | k + 1 => by
    unfold par8
    split
    · exact par8_length bs ls k
    · exact zx_length (par8_length bs ls k) (blk_length bs k)
theorem range_next {α : Type} (f : Nat → α) (k : Nat) : (List.range (k + 1)).map f = (List.range k).map f ++ [f k] := by simp [List.range_succ]
theorem fullE_length (st : Int) (bs : List (List UInt8)) (ls : List Bool) (d : Nat) : (fullE st bs ls d).length = d + 1 := by simp [fullE]
theorem fullH_length (bs : List (List UInt8)) (ls : List Bool) (d : Nat) : (fullH bs ls d).length = d + 1 := by simp [fullH]
theorem fullE_get {st : Int} {bs : List (List UInt8)} {ls : List Bool} {d i : Nat} (h : i < d) : (fullE st bs ls d)[i]? = some (entF st bs ls i) := by
  unfold fullE
  rw [List.getElem?_append_left (by simpa using h)]
  simp [h]
theorem fullE_last {st : Int} {bs : List (List UInt8)} {ls : List Bool} {d : Nat} : (fullE st bs ls d)[d]? = some ⟨st, (crc.sum (par8 bs ls d) : Nat), false⟩ := by
  unfold fullE
  rw [List.getElem?_append_right (by simp)]
  simp
theorem fullH_get {bs : List (List UInt8)} {ls : List Bool} {d i : Nat} (h : i < d) : (fullH bs ls d)[i]? = some (rowF bs ls i) := by
  unfold fullH
  rw [List.getElem?_append_left (by simpa using h)]
  simp [h]
theorem fullH_last {bs : List (List UInt8)} {ls : List Bool} {d : Nat} : (fullH bs ls d)[d]? = some (par8 bs ls d) := by
  unfold fullH
  rw [List.getElem?_append_right (by simp)]
  simp
/-- Each of a full zone: lost, and nothing; or had, eight bytes, of its sum. -/
theorem full_each {st : Int} {bs : List (List UInt8)} {ls : List Bool} {d i : Nat} (h : i ≤ d) :
    (lostK (fullE st bs ls d) i = true ∧ hadK (fullH bs ls d) i = []) ∨ (lostK (fullE st bs ls d) i = false ∧ (hadK (fullH bs ls d) i).length = 8 ∧ ((crc.sum (hadK (fullH bs ls d) i) : Nat) : Int) = sumK (fullE st bs ls d) i) := by
  by_cases hi : i < d
  · rw [lostK_get (fullE_get hi), sumK_get (fullE_get hi), hadK_get (fullH_get hi)]
    unfold entF rowF
    cases hl : isLost ls i with
    | true => exact .inl ⟨rfl, if_pos rfl⟩
    | false => exact .inr ⟨rfl, by rw [if_neg Bool.false_ne_true]; exact blk_length bs i, by rw [if_neg Bool.false_ne_true]⟩
  · obtain rfl : i = d := by omega
    rw [lostK_get fullE_last, sumK_get fullE_last, hadK_get fullH_last]
    exact .inr ⟨rfl, par8_length bs ls i, rfl⟩
theorem full_had (bs : List (List UInt8)) (ls : List Bool) (d : Nat) : HadOk (d + 1) (fullH bs ls d) := by
  refine ⟨fullH_length bs ls d, fun h hh => ?_⟩
  unfold fullH at hh
  rcases List.mem_append.1 hh with k | k
  · obtain ⟨i, -, rfl⟩ := List.mem_map.1 k
    unfold rowF
    split
    · exact .inl rfl
    · exact .inr (blk_length bs i)
  · rw [List.mem_singleton] at k
    rw [k]
    exact .inr (par8_length bs ls d)
/-- The xor of the first k of a full zone. -/
def sofar (bs : List (List UInt8)) (ls : List Bool) (d k : Nat) : List UInt8 := if k ≤ d then par8 bs ls k else zeros 8
theorem sofar_length (bs : List (List UInt8)) (ls : List Bool) (d k : Nat) : (sofar bs ls d k).length = 8 := by
  unfold sofar
  split
  · exact par8_length bs ls k
  · exact zeros_length 8
theorem sofar_next {st : Int} {bs : List (List UInt8)} {ls : List Bool} {d k : Nat} (hk : k ≤ d) : sofar bs ls d (k + 1) = if lostK (fullE st bs ls d) k = true then sofar bs ls d k else zx (sofar bs ls d k) (hadK (fullH bs ls d) k) := by
  by_cases h : k < d
  · have e1 : sofar bs ls d (k + 1) = par8 bs ls (k + 1) := if_pos (by omega)
    have e2 : sofar bs ls d k = par8 bs ls k := if_pos hk
    rw [lostK_get (fullE_get h), hadK_get (fullH_get h), e1, e2, par8]
    unfold entF rowF
    cases isLost ls k with
    | true => rfl
    | false => rfl
  · obtain rfl : k = d := by omega
    rw [lostK_get fullE_last, hadK_get fullH_last]
    unfold sofar
    rw [if_neg (by omega), if_pos (Nat.le_refl _), if_neg Bool.false_ne_true, zx_self (par8_length bs ls k)]
/-- What is missed of what was full: each as it was, or nothing. -/
def Missed (all hs : List (List UInt8)) : Prop := ∀ i, hadK hs i = hadK all i ∨ hadK hs i = []
/-- Of what was full, with what is missed but one: the xor of the others. -/
theorem acc_full {st : Int} {bs : List (List UInt8)} {ls : List Bool} {d i : Nat} {hs : List (List UInt8)} (hm : Missed (fullH bs ls d) hs) (ho : ∀ k, k ≤ d → k ≠ i → lostK (fullE st bs ls d) k = false → hadK hs k ≠ []) (hi : lostK (fullE st bs ls d) i = false) : ∀ k, k ≤ d + 1 → acc (fullE st bs ls d) hs i k = some (if i < k then zx (sofar bs ls d k) (hadK (fullH bs ls d) i) else sofar bs ls d k)
  | 0, _ => by rw [acc_zero, if_neg (by omega)]; unfold sofar; rw [if_pos (Nat.zero_le _)]; rfl
  | k + 1, hk => by
    have ih := acc_full hm ho hi k (by omega)
    have hn := sofar_next (st := st) (bs := bs) (ls := ls) (d := d) (k := k) (by omega)
    by_cases hki : k = i
    · subst hki
      rw [acc_skip (.inl rfl), ih, if_neg (by omega), if_pos (by omega), hn, hi, if_neg Bool.false_ne_true, zx_twice (sofar_length bs ls d k)]
      rcases full_each (st := st) (bs := bs) (ls := ls) (show k ≤ d by omega) with ⟨h1, -⟩ | ⟨-, h1, -⟩
      · rw [hi] at h1; cases h1
      · exact h1
    · cases hl : lostK (fullE st bs ls d) k with
      | true =>
        rw [acc_skip (.inr hl), ih, hn, hl, if_pos rfl]
        by_cases hik : i < k
        · rw [if_pos hik, if_pos (by omega)]
        · rw [if_neg hik, if_neg (by omega)]
      | false =>
        have hne := ho k (by omega) hki hl
        have heq := (hm k).resolve_right hne
        rw [acc_take (fun h => h.elim hki fun h => by rw [hl] at h; cases h) hne ih, hn, hl, if_neg Bool.false_ne_true, heq]
        by_cases hik : i < k
        · rw [if_pos hik, if_pos (by omega), zx_swap]
        · rw [if_neg hik, if_neg (by omega)]
/-- With one missed alone, it is known as it was. -/
theorem known_full {st : Int} {bs : List (List UInt8)} {ls : List Bool} {d i : Nat} {hs : List (List UInt8)} (hm : Missed (fullH bs ls d) hs) (hid : i ≤ d) (ho : ∀ k, k ≤ d → k ≠ i → lostK (fullE st bs ls d) k = false → hadK hs k ≠ []) (hi : lostK (fullE st bs ls d) i = false) : known (d + 1) (fullE st bs ls d) hs i = hadK (fullH bs ls d) i := by
  rcases full_each (st := st) (bs := bs) (ls := ls) hid with ⟨h1, -⟩ | ⟨-, h8, hsm⟩
  · rw [hi] at h1; cases h1
  by_cases hk : hadK hs i = []
  · have ha := acc_full hm ho hi (d + 1) (Nat.le_refl _)
    rw [if_pos (by omega)] at ha
    have hz : sofar bs ls d (d + 1) = zeros 8 := by unfold sofar; rw [if_neg (by omega)]
    rw [hz, zeros_zx h8] at ha
    rw [known_some hi hk ha, if_pos hsm]
  · rw [known_had hi hk]
    exact (hm i).resolve_right hk
/-- With another missed that is not lost, it is not known. -/
theorem known_gap {n : Nat} {es : List Ent} {hs : List (List UInt8)} {i k : Nat} (hkn : k < n) (hki : k ≠ i) (hl : lostK es k = false) (hk : hadK hs k = []) (hi : hadK hs i = []) : known n es hs i = [] := by
  cases hli : lostK es i with
  | true => exact known_lost hli
  | false => exact known_none hli hi (acc_stays (acc_lack (fun h => h.elim hki fun h => by rw [hl] at h; cases h) hk) n (by omega))
end Go.Proofs.Ythdahdopejapmaa.zon

namespace Go.Proofs.Ythdahdopejapmaa.zon
open Go.RowKit Go.Lib
open Go.Proofs.Ythdahdopejapmaa.gmt (Ok)
open Go.Proofs.Ythdahdopejapmaa.anc (bl kal kst ks bm ka)
open Go.Proofs.Ythdahdopejapmaa.tbl (Ent EntOk C1 c1_new G5 g5_new)

/-- A list of byte strings as it lies. -/
structure LV where
  A : Option Addr
  c : Nat
  rs : List Row
def LV.v (x : LV) : Value := .slice x.A x.rs.length x.c
structure LV.In (w : World) (B : Nat) (x : LV) : Prop where
  h : SlV w B x.A (vals x.rs)
  r : Rws w B x.rs
  l : x.rs.length ≤ x.c ∧ x.c ≤ maxLen
  k : Caps x.rs
section
variable {w w' : World} {B B' : Nat} {x : LV}
theorem LV.In.below (h : LV.In w B x) (hb : Below B w w') : LV.In w' B x := ⟨h.h.below hb, h.r.below hb, h.l, h.k⟩
theorem LV.In.more (h : LV.In w B x) (hB : B ≤ B') : LV.In w B' x := ⟨h.h.more hB, h.r.more hB, h.l, h.k⟩
theorem LV.In.next (h : LV.In w w.heap.size x) (hb : Below w.heap.size w w') : LV.In w' w'.heap.size x := (h.below hb).more hb.size
end
theorem own_caps {w : World} {base : Nat} {e : TypeId} {r : Row} (h : Own w base e r.v r.l) : r.l.length ≤ r.c ∧ r.c ≤ maxLen := by
  obtain ⟨A, c, hv, h1, h2, -, -⟩ := h.form
  unfold Row.v at hv
  simp only [Value.slice.injEq] at hv
  obtain ⟨-, -, rfl⟩ := hv
  exact ⟨h1, h2⟩
/-- Rows of the call's own, as a list. -/
theorem rows_lv {w : World} {base : Nat} {v : Value} {rs : List Row} {ls : List (List UInt8)} (h : OwnRows w base v rs ls) : ∃ A c, v = .slice A rs.length c ∧ LV.In w w.heap.size ⟨A, c, rs⟩ := by
  obtain ⟨A, c, hv, h1, h2, h3, -⟩ := h.1.form
  rw [vals_length] at hv h1
  exact ⟨A, c, hv, h3, h.rws, ⟨h1, h2⟩, fun r hr => own_caps (h.2.2 r hr)⟩
theorem hadK_at {rs : List Row} {i : Nat} {r : Row} (h : (lists rs)[i]? = some r.l) : hadK (lists rs) i = r.l := hadK_get h
/-- Truths as cells. -/
def bools (l : List Bool) : List Value := l.map Value.bool
theorem bools_length (l : List Bool) : (bools l).length = l.length := by simp [bools]
theorem bools_get (l : List Bool) (j : Nat) (h : j < (bools l).length) : (bools l)[j] = .bool (l[j]'(by rwa [bools_length] at h)) := by simp [bools]
theorem bools_one (l : List Bool) : ∀ u ∈ bools l, u.oneCell' = true := by
  intro u hu
  obtain ⟨_, _, rfl⟩ := List.mem_map.1 hu
  rfl
theorem bool_at {w : World} {B k : Nat} {A : Option Addr} {l : List Bool} (hA : SlV w B A (bools l)) (hk : k < l.length) : ∃ b off, A = some ⟨b, off, none⟩ ∧ b < B ∧ w.cell? ⟨b, off + k, none⟩ = some (.bool l[k]) ∧ l[k]? = some l[k] := by
  obtain ⟨b, off, rfl, hb, hc⟩ := hA (by rw [bools_length]; omega)
  have g := hc k (by rw [bools_length]; exact hk)
  rw [bools_get] at g
  exact ⟨b, off, rfl, hb, g, List.getElem?_eq_getElem hk⟩

set_option maxRecDepth 100000 in
set_option maxHeartbeats 4000000 in
theorem heavy_c (b : Bool) (T A : Option Addr) (nt ct n c : Nat) (rs : List Row) (w : World) (hn : rs.length = n) (hA : SlV w w.heap.size A (vals rs)) (hR : Rws w w.heap.size rs) (hb : b = true ↔ 20 < nt ∨ 20 < n ∨ ∃ h ∈ lists rs, 100 < h.length) :
    Calls Try.prog 8 #[.agg #[.slice T nt ct], .slice A n c] w fun e w' => e = .returned (.bool b) ∧ Below w.heap.size w w' := by
  have TB := c1_new w (.slice T nt ct) 26
  have hx := bl w (.cells #[.slice T nt ct] 26)
  by_cases h1 : 20 < nt ∨ 20 < n
  · obtain rfl : b = true := hb.2 (h1.elim .inl fun h => .inr (.inl h))
    have q : (20 : Int) < (nt : Int) ∨ ¬ (20 : Int) < (nt : Int) ∧ (20 : Int) < (n : Int) := by omega
    clear hb hA hR h1
    go_enter Try.func8, Try.ntmps8
    go_upto_region 1 with fail
    have t0 := TB.c0
    rcases q with q | ⟨q, q2⟩
    all_goals
      go_wp2
      go_ret
      exact ⟨rfl, hx⟩
  have HC : Hid (b = true ↔ ∃ h ∈ lists rs, 100 < h.length) := Lib.hid (hb.trans ⟨fun h => h.elim (fun k => absurd (.inl k) h1) fun k => k.resolve_left fun k2 => h1 (.inr k2), fun h => .inr (.inr h)⟩)
  have i1 : ¬ (20 : Int) < (nt : Int) := by omega
  have i2 : ¬ (20 : Int) < (n : Int) := by omega
  replace hA := hA.below hx
  replace hR := hR.below hx
  have hB := hx.size
  clear hb h1
  go_enter Try.func8, Try.ntmps8
  go_upto_region 1 with fail
  have t0 := TB.c0
  go_upto_region 4 with fail
  clear t0 TB
  generalize w.alloc (.cells #[.slice T nt ct] 26) = w0 at *
  go_loop [5] (fun i => ∃ k : Nat, i = .int .i64 k ∧ k ≤ n ∧ ∀ h ∈ (lists rs).take k, ¬ 100 < h.length) (fun i => n - (RowKit.intOf i).toNat)
  case atStart => exact ⟨0, rfl, by omega, fun h hh => by simp at hh⟩
  case round =>
    obtain ⟨k, rfl, hk, hs2⟩ := hrel
    by_cases hlt : k < n
    · have j1 : (k : Int) < (n : Int) := by omega
      obtain ⟨b1, off, r, rfl, hb1, g, -, -, -, e1⟩ := row_at hA hR (show k < rs.length by omega)
      by_cases h3 : 100 < r.l.length
      · have j3 : (100 : Int) < (r.l.length : Int) := by omega
        have H : Hid (b = true) := Lib.hid (HC.out.2 ⟨r.l, List.mem_of_getElem? e1, h3⟩)
        clear hs2 e1
        go_wp2_with fail
        go_ret
        exact ⟨ret_bool H.out.symm, hx⟩
      · have j3 : (r.l.length : Int) ≤ 100 := by omega
        have HN : Hid (∀ h ∈ (lists rs).take (k + 1), ¬ 100 < h.length) := Lib.hid fun h hm => by
          rw [take_next e1] at hm
          rcases List.mem_append.1 hm with hm | hm
          · exact hs2 h hm
          · obtain rfl := List.mem_singleton.1 hm
            exact h3
        clear hs2 e1
        go_wp2_with fail
        go_round
        case rel => exact ⟨k + 1, by go_num, by omega, HN.out⟩
        case measure => simp [RowKit.intOf]; omega
    · have j1 : ¬ (k : Int) < (n : Int) := by omega
      have H : Hid (b = false) := Lib.hid (by
        cases b
        · rfl
        · obtain ⟨h, hh, h20⟩ := HC.out.1 rfl
          exact absurd h20 (hs2 h (by rw [List.take_of_length_le (by rw [lists_length]; omega)]; exact hh)))
      clear hs2
      go_wp2_with fail
      go_ret
      exact ⟨ret_bool H.out.symm, hx⟩

set_option maxRecDepth 100000 in
set_option maxHeartbeats 4000000 in
/-- Are they as many as there are to be, each a block, or nothing? -/
theorem had_c (b : Bool) (z s l a : Int) (D : Nat) (A : Option Addr) (n c : Nat) (rs : List Row) (w : World) (ho : Ok z D s l a) (hn : rs.length = n) (hA : SlV w w.heap.size A (vals rs)) (hR : Rws w w.heap.size rs) (hb : b = true ↔ HadOk (D + 1) (lists rs)) :
    Calls Try.prog 22 #[.agg #[.int .i64 z, .int .i64 D, .int .i64 s, .int .i64 l, .int .i64 a], .slice A n c] w fun e w' => e = .returned (.bool b) ∧ Below w.heap.size w w' := by
  have o2 := ho.2.1
  have hD : D ≤ 4 := by omega
  have GG := g5_new w z D s l a
  have hx := bl w (.cells #[.int .i64 z, .int .i64 D, .int .i64 s, .int .i64 l, .int .i64 a] 23)
  clear ho o2
  by_cases h1 : n = D + 1
  case neg =>
    obtain rfl : b = false := by cases b; rfl; have := (hb.1 rfl).1; rw [lists_length] at this; exact absurd (hn ▸ this) h1
    have q : ((n : Int) != (D : Int) + 1) = true := bne_iff_ne.2 (by omega)
    clear hb hA hR h1
    go_enter Try.func22, Try.ntmps22
    go_upto_region 1 with fail
    obtain ⟨g0, g1, g2, g3, g4⟩ := id GG
    go_wp2
    go_ret
    exact ⟨rfl, hx⟩
  have HC : Hid (b = true ↔ ∀ h ∈ lists rs, h = [] ∨ h.length = 8) := Lib.hid (hb.trans ⟨fun h => h.2, fun h => ⟨by rw [lists_length]; omega, h⟩⟩)
  have q : ((n : Int) != (D : Int) + 1) = false := by rw [h1]; simp
  replace hA := hA.below hx
  replace hR := hR.below hx
  have hB := hx.size
  clear hb
  go_enter Try.func22, Try.ntmps22
  go_upto_region 1 with fail
  obtain ⟨g0, g1, g2, g3, g4⟩ := id GG
  go_upto_region 4 with fail
  clear g0 g1 g2 g3 g4 GG q
  generalize w.alloc (.cells #[.int .i64 z, .int .i64 D, .int .i64 s, .int .i64 l, .int .i64 a] 23) = w0 at *
  go_loop [5] (fun i => ∃ k : Nat, i = .int .i64 k ∧ k ≤ n ∧ ∀ h ∈ (lists rs).take k, h = [] ∨ h.length = 8) (fun i => n - (RowKit.intOf i).toNat)
  case atStart => exact ⟨0, rfl, by omega, fun h hh => by simp at hh⟩
  case round =>
    obtain ⟨k, rfl, hk, hs2⟩ := hrel
    by_cases hlt : k < n
    · have j1 : (k : Int) < (n : Int) := by omega
      obtain ⟨b1, off, r, rfl, hb1, g, -, -, -, e1⟩ := row_at hA hR (show k < rs.length by omega)
      by_cases h3 : r.l = [] ∨ r.l.length = 8
      · have HN : Hid (∀ h ∈ (lists rs).take (k + 1), h = [] ∨ h.length = 8) := Lib.hid fun h hm => by
          rw [take_next e1] at hm
          rcases List.mem_append.1 hm with hm | hm
          · exact hs2 h hm
          · obtain rfl := List.mem_singleton.1 hm
            exact h3
        have j3 : ((r.l.length : Int) != 0) = false ∨ ((r.l.length : Int) != 0) = true ∧ ((r.l.length : Int) != 8) = false := by
          rcases h3 with h3 | h3
          · rw [h3]; exact .inl rfl
          · rw [h3]; exact .inr ⟨rfl, rfl⟩
        clear hs2 e1 h3
        rcases j3 with j3 | ⟨j3, j4⟩
        all_goals
          go_wp2_with fail
          go_round
          case rel => exact ⟨k + 1, by go_num, by omega, HN.out⟩
          case measure => simp [RowKit.intOf]; omega
      · have j3 : ((r.l.length : Int) != 0) = true := bne_iff_ne.2 fun h => h3 (.inl (List.eq_nil_of_length_eq_zero (by omega)))
        have j4 : ((r.l.length : Int) != 8) = true := bne_iff_ne.2 fun h => h3 (.inr (by omega))
        have H : Hid (b = false) := Lib.hid (by cases b; rfl; exact absurd (HC.out.1 rfl r.l (List.mem_of_getElem? e1)) h3)
        clear hs2 e1 h3
        go_wp2_with fail
        go_ret
        exact ⟨ret_bool H.out.symm, hx⟩
    · have j1 : ¬ (k : Int) < (n : Int) := by omega
      have H : Hid (b = true) := Lib.hid (HC.out.2 fun h hh => hs2 h (by rw [List.take_of_length_le (by rw [lists_length]; omega)]; exact hh))
      clear hs2
      go_wp2_with fail
      go_ret
      exact ⟨ret_bool H.out.symm, hx⟩
end Go.Proofs.Ythdahdopejapmaa.zon

namespace Go.Proofs.Ythdahdopejapmaa.zon
open Go.RowKit Go.Lib
open Go.Proofs.Ythdahdopejapmaa.tbl (Ent OwnE)

theorem rows_apart {w : World} {b b' k k' n n' : Nat} {e e' : TypeId} {v v' : Value} {xs xs' : List Value} (h : w.ownsRow b e k v n xs) (h' : w.ownsRow b' e' k' v' n' xs') (he : e ≠ e') : v.ownBlock = none ∨ v.ownBlock ≠ v'.ownBlock := by
  rcases h.2 with ⟨rfl, _⟩ | ⟨g, cap, cur, rfl, _, hg, _⟩
  · exact .inl rfl
  · right
    rcases h'.2 with ⟨rfl, _⟩ | ⟨g', cap', cur', rfl, _, hg', _⟩
    · simp [Value.ownBlock]
    · intro hh
      simp only [Value.ownBlock, Option.some.injEq] at hh
      subst hh
      rw [hg] at hg'
      simp only [Option.some.injEq, Obj.cells.injEq] at hg'
      exact he hg'.2.1
theorem u8_ent : 5 ≠ 61 := by decide
theorem row_ent : 29 ≠ 61 := by decide
theorem ent_row : 61 ≠ 29 := by decide
theorem OwnRows.kept {w w' : World} {base b' k' n' : Nat} {e' : TypeId} {v v' : Value} {rs : List Row} {ls : List (List UInt8)} {xs' : List Value} (h : OwnRows w base v rs ls) (h' : w.ownsRow b' e' k' v' n' xs') (h1 : 29 ≠ e') (h2 : 5 ≠ e') (hg : w.grownBy w' v'.ownBlock) : OwnRows w' base v rs ls :=
  ⟨h.1.kept hg (rows_apart h.1 h' h1), h.2.1, fun r hr => (h.2.2 r hr).kept hg (rows_apart (h.2.2 r hr) h' h2)⟩
theorem own_set {w : World} {base g o : Nat} {e : TypeId} {v : Value} {l : List UInt8} (h : Own w base e v l) (hg : g < base) (x : Value) : Own (w.setCell ⟨g, o, none⟩ x) base e v l :=
  ownsRow_setCell_other h (fun k => by have := (World.ownsRow.lt h g k).1; omega) x
theorem OwnRows.cell_set {w : World} {base g o : Nat} {v : Value} {rs : List Row} {ls : List (List UInt8)} (h : OwnRows w base v rs ls) (hg : g < base) (x : Value) : OwnRows (w.setCell ⟨g, o, none⟩ x) base v rs ls :=
  ⟨ownsRow_setCell_other h.1 (fun k => by have := (World.ownsRow.lt h.1 g k).1; omega) x, h.2.1, fun r hr => own_set (h.2.2 r hr) hg x⟩
theorem OwnRows.less {w : World} {base base' : Nat} {v : Value} {rs : List Row} {ls : List (List UInt8)} (h : OwnRows w base v rs ls) (hb : base' ≤ base) : OwnRows w base' v rs ls :=
  ⟨h.1.less hb, h.2.1, fun r hr => (h.2.2 r hr).less hb⟩
theorem ownRows_nil (w : World) (base : Nat) : OwnRows w base (.slice none 0 0) [] [] := ⟨ownV_nil _ _ _, rfl, fun r hr => by cases hr⟩
theorem own_at {w : World} {base q x : Nat} {e : TypeId} {X : Option Addr} {l : List UInt8} (h : Own w base e (.slice X q x) l) : l.length = q ∧ q ≤ x ∧ x ≤ maxLen ∧ Sl w w.heap.size X l := by
  obtain ⟨Y, y, hv, h1, h2, h3, -⟩ := h.form
  simp only [Value.slice.injEq] at hv
  obtain ⟨rfl, rfl, rfl⟩ := hv
  exact ⟨rfl, h1, h2, h3⟩
/-- Bytes compared. -/
theorem keep_c (b : Bool) (A B : Option Addr) (n m c d : Nat) (x y : List UInt8) (w : World) (hx : x.length = n) (hy : y.length = m) (hn : n ≤ 1048576) (hA : Sl w w.heap.size A x) (hB : Sl w w.heap.size B y) (hb : b = true ↔ x = y) :
    Calls Try.prog 24 #[.slice A n c, .slice B m d] w fun e w' => e = .returned (.bool b) ∧ Below w.heap.size w w' := by
  subst hx hy
  have h := keep_any A B c d _ _ x y w hA hB (Nat.le_refl _) (Nat.le_refl _) hn
  obtain rfl : b = decide (x = y) := by
    by_cases h : x = y
    · rw [decide_eq_true h]; exact hb.2 h
    · rw [decide_eq_false h]; cases b; rfl; exact absurd (hb.1 rfl) h
  exact h
end Go.Proofs.Ythdahdopejapmaa.zon

namespace Go.Proofs.Ythdahdopejapmaa.zon
open Go.RowKit Go.Lib
open Go.Proofs.Ythdahdopejapmaa.gmt (Ok)
open Go.Proofs.Ythdahdopejapmaa.anc (bl kal kst ks bm ka)
open Go.Proofs.Ythdahdopejapmaa.tbl (Ent EntOk C1 c1_new G5 g5_new)
open Go.Proofs.Ythdahdopejapmaa.par (zx zeros zeros_length zx_length)

set_option maxHeartbeats 1000000 in
theorem two_any (A A' : Option Addr) (c c' B B' : Nat) (a b : List UInt8) (w : World) (hab : a.length = b.length) (hA : Sl w B A a) (hA' : Sl w B' A' b) (hB : B ≤ w.heap.size) (hB' : B' ≤ w.heap.size) (hl : a.length ≤ 1048576) :
    Calls Try.prog 44 #[.slice A a.length c, .slice A' a.length c'] w fun e w' => One w.heap.size (zx a b) e w' ∧ Below w.heap.size w w' := by
  go_enter Try.func44, Try.ntmps44
  go_wp2
  go_loopw [5, 6] (fun v i w' => ∃ k : Nat, k ≤ a.length ∧ i = .int .i64 k ∧ Own w' w.heap.size 5 v (List.zipWith (· ^^^ ·) (a.take k) (b.take k)) ∧ Below w.heap.size w w') (fun _ i _ => a.length - (RowKit.intOf i).toNat)
  case atStart => exact ⟨0, by omega, rfl, own_nil _ _ _, Below.refl _ _⟩
  case round =>
    rename_i wr
    obtain ⟨k, hk, rfl, hown, hbr⟩ := hrel
    by_cases hlt : k < a.length
    · obtain ⟨b1, off, rfl, hb, hc⟩ := (hA.below (hbr.mono hB)) (by omega)
      obtain ⟨b2, off', rfl, hb', hc'⟩ := (hA'.below (hbr.mono hB')) (by omega)
      have g := hc k hlt
      have g' := hc' k (by omega)
      have i1 : (k : Int) < (a.length : Int) := by omega
      have hz : List.zipWith (· ^^^ ·) (a.take (k + 1)) (b.take (k + 1)) = List.zipWith (· ^^^ ·) (a.take k) (b.take k) ++ [a[k] ^^^ b[k]'(by omega)] := by
        rw [List.take_succ_eq_append_getElem hlt, List.take_succ_eq_append_getElem (show k < b.length by omega), List.zipWith_append (by rw [List.length_take, List.length_take]; omega)]
        rfl
      have hxy := crc.xor_u8 a[k] (b[k]'(by omega))
      unfold by8 at g g'
      clear hc hc' hA hA'
      have HZ := Lib.hid hz
      have hzl : (List.zipWith (· ^^^ ·) (a.take k) (b.take k)).length = k := by rw [List.length_zipWith, List.length_take, List.length_take]; omega
      have HL := Lib.hid hzl
      clear hz hzl
      generalize List.zipWith (· ^^^ ·) (a.take k) (b.take k) = z at hown HZ HL
      generalize a[k] = x at g hxy HZ
      generalize (b[k]'(by omega)) = y at g' hxy HZ
      have hx := x.toNat_lt
      have hy := y.toNat_lt
      clear hab
      go_wp2_with fail
      have hfar : ∀ q, u5.ownBlock = some q → w.heap.size ≤ q := fun q hq => (World.ownsRow.lt hown q hq).1
      have hlw := hbr.size
      have n1 : some b1 ≠ u5.ownBlock := fun h => by have := hfar b1 h.symm; omega
      have n2 : some b2 ≠ u5.ownBlock := fun h => by have := hfar b2 h.symm; omega
      go_region_held3 (fun W => W.cell? ⟨b1, off + k, none⟩ = some (.int .u8 (x.toNat : Int)) ∧ W.cell? ⟨b2, off' + k, none⟩ = some (.int .u8 (y.toNat : Int)))
        (first
          | go_keep
          | (go_split_ands
             refine ⟨?_, ?_⟩
             · (rw [hg3.cell_far _ (by simp; omega) n1]; assumption)
             · (rw [hg3.cell_far _ (by simp; omega) n2]; assumption)))
        ((refine step_app8 _ (by rfl) _ _ _ _ (by rfl) w.heap.size 5 t8 u5 z (by rfl) (hown.alloc _).drew _ [x ^^^ y] (by rfl) (src_at Try.underlying29 (x ^^^ y) _ (by rw [UInt8.toNat_xor]) _ _ (0, 0) (heap_alloc_new wr _)) (by rw [HL.out, List.length_singleton]; omega) (by simp; omega) ?_; intro v3 w3 hown3 hg3 hat3))
      go_wp2
      have hb4 : Below w.heap.size w w3 := (below_dr (hbr.alloc hbr.size _)).grown hg3 (by simp; omega) hfar
      go_roundw
      case rel => exact ⟨k + 1, by omega, by go_num, by rw [HZ.out]; exact hown3, hb4⟩
      case measure => simp [RowKit.intOf]; omega
    · have hz : List.zipWith (· ^^^ ·) (a.take k) (b.take k) = List.zipWith (· ^^^ ·) a b := by rw [List.take_of_length_le (by omega), List.take_of_length_le (by omega)]
      rw [hz] at hown
      clear hz hab
      go_wp2
      go_ret
      exact ⟨⟨_, rfl, hown⟩, hbr⟩

theorem two_c (A A' : Option Addr) (c c' n m : Nat) (a b : List UInt8) (w : World) (ha : a.length = n) (hb : b.length = m) (hnm : n = m) (hA : Sl w w.heap.size A a) (hA' : Sl w w.heap.size A' b) (hl : n ≤ 1048576) :
    Calls Try.prog 44 #[.slice A n c, .slice A' m c'] w fun e w' => One w.heap.size (zx a b) e w' ∧ Below w.heap.size w w' := by
  subst ha hb
  have h := two_any A A' c c' _ _ a b w hnm hA hA' (Nat.le_refl _) (Nat.le_refl _) hl
  rw [← hnm]
  exact h
theorem z8_own (W : World) (base : Nat) (hb : base ≤ W.heap.size) : Own (W.alloc (.cells tbl.z8cells 5)) base 5 (.slice (some ⟨W.heap.size, 0, none⟩) 8 8) (zeros 8) := by
  have hl := tbl.z8_list
  have hs : tbl.z8cells.size = 8 := by
    have h := congrArg List.length hl
    rw [Array.length_toList] at h
    rw [h]
    unfold cells8 tbl.zer8
    simp
  have h : (W.alloc (.cells tbl.z8cells 5)).ownsRow base 5 1 (.slice (some ⟨W.heap.size, 0, none⟩) tbl.z8cells.size tbl.z8cells.size) tbl.z8cells.size tbl.z8cells.toList := World.ownsRow_lit W tbl.z8cells tbl.z8cells.size hb (by rw [hs]; decide) (by omega)
  rw [hl, hs] at h
  exact h
set_option maxRecDepth 100000 in
set_option maxHeartbeats 800000 in
theorem rknown_at (z s l a : Int) (D : Nat) (x : tbl.TV) (N : Nat) (A : Option Addr) (n c : Nat) (rs : List Row) (i : Nat) (w : World) (ho : Ok z D s l a) (hN : x.es.length = N) (hND : N = D + 1) (hx : x.In w w.heap.size) (hn : rs.length = n) (hnD : n = D + 1) (hA : SlV w w.heap.size A (vals rs)) (hR : Rws w w.heap.size rs) (hH : HadOk (D + 1) (lists rs)) (hi : i ≤ D) :
    Calls Try.prog 42 #[.agg #[.int .i64 z, .int .i64 D, .int .i64 s, .int .i64 l, .int .i64 a], .agg #[.slice x.A N x.c], .slice A n c, .int .i64 (i : Nat)] w fun e w' => One w.heap.size (known (D + 1) x.es (lists rs) i) e w' ∧ Below w.heap.size w w' := by
  have o2 := ho.2.1
  have hD : D ≤ 4 := by omega
  have s1 : (w.alloc (.cells #[.int .i64 z, .int .i64 D, .int .i64 s, .int .i64 l, .int .i64 a] 23)).heap.size = w.heap.size + 1 := by simp
  have hx2 := bl (w.alloc (.cells #[.int .i64 z, .int .i64 D, .int .i64 s, .int .i64 l, .int .i64 a] 23)) (.cells #[.slice x.A N x.c] 26)
  have GG := (g5_new w z D s l a).keep hx2 (by omega)
  have TB := c1_new (w.alloc (.cells #[.int .i64 z, .int .i64 D, .int .i64 s, .int .i64 l, .int .i64 a] 23)) (.slice x.A N x.c) 26
  rw [s1] at TB
  have hw := kal (bl w (.cells #[.int .i64 z, .int .i64 D, .int .i64 s, .int .i64 l, .int .i64 a] 23)) (.cells #[.slice x.A N x.c] 26)
  have l1 : w.heap.size + 1 < ((w.alloc (.cells #[.int .i64 z, .int .i64 D, .int .i64 s, .int .i64 l, .int .i64 a] 23)).alloc (.cells #[.slice x.A N x.c] 26)).heap.size := by simp
  have HX := Lib.hid (hx.next hw)
  have HA := Lib.hid (hA.next hw)
  have HR := Lib.hid (hR.next hw)
  have HN := Lib.hid hN
  have HL := Lib.hid hn
  have HH := Lib.hid hH
  have HI := Lib.hid hi
  have HND := Lib.hid hND
  have HnD := Lib.hid hnD
  clear o2 ho s1 hx2 hx hA hR hN hn hH hi hND hnD
  go_enter Try.func42, Try.ntmps42
  go_upto_region 1 with fail
  generalize ((w.alloc (.cells #[.int .i64 z, .int .i64 D, .int .i64 s, .int .i64 l, .int .i64 a] 23)).alloc (.cells #[.slice x.A N x.c] 26)) = w0 at *
  obtain ⟨b1, off, en, hEA, hb1, c0, c1, c2, -, e1⟩ := tbl.ent_at HX.out.h (show i < x.es.length by have := HN.out; have := HI.out; have := HND.out; omega)
  obtain ⟨b2, o2, r, hRA, hb2, gr, hrs, -, -, r1⟩ := row_at HA.out HR.out (show i < rs.length by have := HL.out; have := HI.out; have := HnD.out; omega)
  have HLK := Lib.hid (lostK_get e1)
  have HSK := Lib.hid (sumK_get e1)
  have HHK := Lib.hid (hadK_get r1)
  have t0 := TB.c0
  rw [hEA] at t0
  obtain ⟨g0, g1, g2, g3, g4⟩ := id GG
  have i1 : (i : Int) < (N : Int) := by have := HI.out; have := HND.out; omega
  have i2 : (i : Int) < (n : Int) := by have := HI.out; have := HnD.out; omega
  have i3 : (0 : Int) ≤ (i : Int) := by omega
  rw [hRA]
  clear e1 r1
  by_cases hls : en.ls = true
  case pos =>
    rw [hls] at c2
    have HK := Lib.hid (known_lost (n := D + 1) (hs := lists rs) (HLK.out.trans hls))
    clear hls
    go_wp2_with fail
    go_ret
    refine ⟨⟨_, rfl, ?_⟩, hw⟩
    rw [HK.out]
    exact own_nil _ _ _
  have hlf : en.ls = false := by cases h : en.ls; rfl; exact absurd h hls
  have HLF := Lib.hid (HLK.out.trans hlf)
  rw [hlf] at c2
  clear hls hlf
  by_cases hlen : r.l = []
  case neg =>
    have j1 : (0 : Int) < (r.l.length : Int) := by have := List.length_pos_iff.2 hlen; omega
    have h8 : r.l.length = 8 := by have := hadK_ok HH.out i; rw [HHK.out] at this; exact this.resolve_left hlen
    have HK := Lib.hid (known_had (n := D + 1) (es := x.es) HLF.out (show hadK (lists rs) i ≠ [] by rw [HHK.out]; exact hlen))
    have HTW := Lib.hid (twin_any r.A r.c w0.heap.size r.l w0 hrs (by omega))
    clear hlen h8
    go_wp2_with (go_at_call 30; (with_reducible refine HTW.out.mono ?_); rintro e w1 ⟨⟨v, rfl, hov⟩, hb9⟩)
    go_ret
    refine ⟨⟨_, rfl, ?_⟩, bt hw hb9⟩
    rw [HK.out, HHK.out]
    exact hov.less hw.size
  have j1 : ¬ (0 : Int) < (r.l.length : Int) := by rw [hlen]; simp
  have HNO := Lib.hid (show hadK (lists rs) i = [] by rw [HHK.out]; exact hlen)
  clear hlen hrs
  have hmk := tbl.z8_run
  have HZ := Lib.hid (z8_own w0 w0.heap.size (Nat.le_refl _))
  have hb5 := bl w0 (.cells tbl.z8cells 5)
  have LW := hw.size
  obtain ⟨g0, g1, g2, g3, g4⟩ := id GG
  go_upto_region 7 with fail
  clear g0 g1 g2 g3 g4 c0 c1 c2 gr t0 hmk
  generalize w0.alloc (.cells tbl.z8cells 5) = w1 at *
  go_loopw [9, 10] (fun v j w' => ∃ (k : Nat) (y : List UInt8), k ≤ D + 1 ∧ j = .int .i64 k ∧ acc x.es (lists rs) i k = some y ∧ Own w' w0.heap.size 5 v y ∧ Below w0.heap.size w0 w') (fun _ j _ => D + 1 - (RowKit.intOf j).toNat)
  case atStart => exact ⟨0, zeros 8, by omega, rfl, rfl, HZ.out, hb5⟩
  case round =>
    obtain ⟨w5, rfl⟩ : ∃ q, q = wr := ⟨wr, rfl⟩
    obtain ⟨k, y, hk, rfl, hac, hov, hbr⟩ := hrel
    have GG5 := GG.keep hbr (by omega)
    have TB5 := TB.keep hbr l1
    have HX5 := Lib.hid (HX.out.next hbr)
    have HA5 := Lib.hid (HA.out.next hbr)
    have HR5 := Lib.hid (HR.out.next hbr)
    have HAC := Lib.hid hac
    have HOV := Lib.hid hov
    have hwr := bt hw hbr
    have lw5 := hbr.size
    obtain ⟨g0, g1, g2, g3, g4⟩ := id GG5
    clear hac hov
    by_cases hlt : k ≤ D
    · have i4 : (k : Int) ≤ (D : Int) := by omega
      obtain ⟨b3, of3, ek, hE3, hb3, c0, c1, c2, -, e3⟩ := tbl.ent_at HX5.out.h (show k < x.es.length by have := HN.out; have := HND.out; omega)
      obtain ⟨b4, of4, rk, hR4, hb4, gr, hrs, -, -, r3⟩ := row_at HA5.out HR5.out (show k < rs.length by have := HL.out; have := HnD.out; omega)
      obtain ⟨rfl, rfl⟩ : b1 = b3 ∧ off = of3 := by rw [hEA] at hE3; simpa using hE3
      obtain ⟨rfl, rfl⟩ : b2 = b4 ∧ o2 = of4 := by rw [hRA] at hR4; simpa using hR4
      have t0 := TB5.c0
      have HLKk := Lib.hid (lostK_get e3)
      have HHKk := Lib.hid (hadK_get r3)
      have j1 : (k : Int) < (N : Int) := by have := HND.out; omega
      have j2 : (k : Int) < (n : Int) := by have := HnD.out; omega
      have j3 : (0 : Int) ≤ (k : Int) := by omega
      clear e3 r3 hE3 hR4 TB5 GG5
      by_cases hki : k = i
      · have q : ((k : Int) == (i : Int)) = true := by rw [hki]; exact beq_self_eq_true _
        have HS := Lib.hid ((acc_skip (es := x.es) (hs := lists rs) (.inl hki)).trans HAC.out)
        clear hki
        go_wp2_with fail
        go_roundw
        case rel => exact ⟨k + 1, y, by omega, by go_num, HS.out, HOV.out, hbr⟩
        case measure => simp [RowKit.intOf]; omega
      · have q : ((k : Int) == (i : Int)) = false := beq_eq_false_iff_ne.2 (by omega)
        by_cases hlk : ek.ls = true
        · rw [hlk] at c2
          have HS := Lib.hid ((acc_skip (i := i) (hs := lists rs) (.inr (HLKk.out.trans hlk))).trans HAC.out)
          clear hki hlk
          go_wp2_with fail
          go_roundw
          case rel => exact ⟨k + 1, y, by omega, by go_num, HS.out, HOV.out, hbr⟩
          case measure => simp [RowKit.intOf]; omega
        · have hlk2 : ek.ls = false := by cases h : ek.ls; rfl; exact absurd h hlk
          rw [hlk2] at c2
          have HNS := Lib.hid (show ¬ (k = i ∨ lostK x.es k = true) from fun h => h.elim hki fun h => by rw [HLKk.out, hlk2] at h; cases h)
          clear hki hlk hlk2
          by_cases hrk : rk.l = []
          · have j5 : ((rk.l.length : Int) == 0) = true := by rw [hrk]; rfl
            have HKN := Lib.hid (known_none (n := D + 1) HLF.out HNO.out (acc_stays (acc_lack HNS.out (show hadK (lists rs) k = [] by rw [HHKk.out]; exact hrk)) (D + 1) (by omega)))
            clear hrk hrs
            go_wp2_with fail
            go_ret
            refine ⟨⟨_, rfl, ?_⟩, hwr⟩
            rw [HKN.out]
            exact own_nil _ _ _
          · have j5 : ((rk.l.length : Int) == 0) = false := beq_eq_false_iff_ne.2 fun h => hrk (List.eq_nil_of_length_eq_zero (by omega))
            have h8 : rk.l.length = 8 := by have := hadK_ok HH.out k; rw [HHKk.out] at this; exact this.resolve_left hrk
            have y8 : y.length = 8 := acc_length HH.out i k y HAC.out
            have HTK := Lib.hid (acc_take HNS.out (show hadK (lists rs) k ≠ [] by rw [HHKk.out]; exact hrk) HAC.out)
            obtain ⟨Y, yc, hv, -, -, hsl, -⟩ := id HOV.out.form
            subst hv
            have HTW := Lib.hid (show Calls Try.prog 44 #[.slice Y y.length yc, .slice rk.A rk.l.length rk.c] w5 fun e w' => One w5.heap.size (zx y rk.l) e w' ∧ Below w5.heap.size w5 w' from two_c Y rk.A yc rk.c _ _ y rk.l w5 rfl rfl (y8.trans h8.symm) hsl hrs (by omega))
            clear hrk hrs hsl h8 y8
            go_wp2_with (go_at_call 44; (with_reducible refine HTW.out.mono ?_); rintro e w6 ⟨⟨u, rfl, hou⟩, hb6⟩)
            go_roundw
            case rel => exact ⟨k + 1, zx y rk.l, by omega, by go_num, by rw [HTK.out, HHKk.out], hou.less lw5, bt hbr hb6⟩
            case measure => simp [RowKit.intOf]; omega
    · obtain rfl : k = D + 1 := by omega
      have i4 : ¬ ((D + 1 : Nat) : Int) ≤ (D : Int) := by omega
      obtain ⟨b3, of3, ek, hE3, hb3, c0, c1, c2, -, e3⟩ := tbl.ent_at HX5.out.h (show i < x.es.length by have := HN.out; have := HI.out; have := HND.out; omega)
      obtain ⟨rfl, rfl⟩ : b1 = b3 ∧ off = of3 := by rw [hEA] at hE3; simpa using hE3
      have HSM := Lib.hid (sumK_get e3)
      have y8 : y.length = 8 := acc_length HH.out i _ y HAC.out
      have t0 := TB5.c0
      obtain ⟨Y, yc, hv, -, -, hsl, -⟩ := id HOV.out.form
      subst hv
      obtain ⟨S, hS⟩ : ∃ S : Nat, S = crc.sum y := ⟨_, rfl⟩
      have HSS := Lib.hid hS
      have HKS := Lib.hid (known_some HLF.out HNO.out HAC.out)
      have HF := Lib.hid (show ∀ m, Calls Try.prog 28 #[.slice Y (8 : Nat) yc] (w5.drewN m) fun e w' => e = .returned (.int .i64 S) ∧ ∃ m, w' = w5.drewN m from fun m => by
        have h9 := crc.ref_sum Y yc _ y (w5.drewN m) (hsl.below (below_dn (Below.refl _ _) m)) (by rw [y8]; decide)
        rw [y8, ← HSS.out] at h9
        exact h9.mono fun e w' h => ⟨h.1, m, h.2.symm⟩)
      clear hS hsl e3 hE3 hlt
      by_cases hsm : (S : Int) = ek.sm
      · have q5 : ((S : Int) != ek.sm) = false := by rw [hsm]; exact bne_self_eq_false _
        have HKE := Lib.hid (show known (D + 1) x.es (lists rs) i = y by rw [HKS.out, if_pos (by rw [HSM.out, ← HSS.out]; exact hsm)])
        clear hsm
        go_wp2_with fail
        go_quiet (exact HF.out _)
        go_wp2_with fail
        go_ret
        refine ⟨⟨_, rfl, ?_⟩, below_dn hwr _⟩
        rw [HKE.out]
        have h9 := (HOV.out.less (base' := w.heap.size) LW).below (below_dn (Below.refl _ _) nq)
        rw [y8] at h9
        exact h9
      · have q5 : ((S : Int) != ek.sm) = true := bne_iff_ne.2 hsm
        have HKE := Lib.hid (show known (D + 1) x.es (lists rs) i = [] by rw [HKS.out, if_neg (by rw [HSM.out, ← HSS.out]; exact hsm)])
        clear hsm
        go_wp2_with fail
        go_quiet (exact HF.out _)
        go_wp2_with fail
        go_ret
        refine ⟨⟨_, rfl, ?_⟩, below_dn hwr _⟩
        rw [HKE.out]
        exact own_nil _ _ _
end Go.Proofs.Ythdahdopejapmaa.zon

namespace Go.Proofs.Ythdahdopejapmaa.zon
open Go.RowKit Go.Lib
open Go.Proofs.Ythdahdopejapmaa.gmt (Ok)
open Go.Proofs.Ythdahdopejapmaa.anc (bl kal kst ks bm ka src_home step_row wpList_row row_form row_below)
open Go.Proofs.Ythdahdopejapmaa.tbl (Ent EntOk C1 c1_new G5 g5_new OwnE ownE_nil ownE_tv evs evs_append rentry_any)
open Go.Proofs.Ythdahdopejapmaa.anc (Tri tri_new)
open Go.Proofs.Ythdahdopejapmaa.par (zx zeros zeros_length zx_length)

set_option maxRecDepth 100000 in
set_option maxHeartbeats 8000000 in
theorem full_c (z s l a st : Int) (D : Nat) (A B : Option Addr) (n c m d : Nat) (rs : List Row) (bl : List Bool) (w : World) (ho : Ok z D s l a) (hn : rs.length = n) (hm : bl.length = m) (hn1 : n ≤ 1048576) (hA : SlV w w.heap.size A (vals rs)) (hR : Rws w w.heap.size rs) (hB : SlV w w.heap.size B (bools bl)) :
    Calls Try.prog 26 #[.agg #[.int .i64 z, .int .i64 D, .int .i64 s, .int .i64 l, .int .i64 a], .slice A n c, .slice B m d, .int .i64 st] w fun e w' => (∃ (t : tbl.TV) (v : Value) (rows : List Row), e = .returned (.tuple #[t.v, v]) ∧ t.es = fullE st (lists rs) bl D ∧ t.Own w' w.heap.size ∧ OwnRows w' w.heap.size v rows (fullH (lists rs) bl D)) ∧ Below w.heap.size w w' := by
  have o2 := ho.2.1
  have hD : D ≤ 4 := by omega
  have s1 : (w.alloc (.cells #[.int .i64 z, .int .i64 D, .int .i64 s, .int .i64 l, .int .i64 a] 23)).heap.size = w.heap.size + 1 := by simp
  have s2 : ((w.alloc (.cells #[.int .i64 z, .int .i64 D, .int .i64 s, .int .i64 l, .int .i64 a] 23)).alloc (.cells #[.slice none 0 0] 26)).heap.size = w.heap.size + 2 := by simp
  have hx2 := anc.bl (w.alloc (.cells #[.int .i64 z, .int .i64 D, .int .i64 s, .int .i64 l, .int .i64 a] 23)) (.cells #[.slice none 0 0] 26)
  have hx3 := anc.bl ((w.alloc (.cells #[.int .i64 z, .int .i64 D, .int .i64 s, .int .i64 l, .int .i64 a] 23)).alloc (.cells #[.slice none 0 0] 26)) (.cells #[.slice none 0 0] 26)
  have GG := ((g5_new w z D s l a).keep hx2 (by omega)).keep hx3 (by omega)
  have PP := c1_new (w.alloc (.cells #[.int .i64 z, .int .i64 D, .int .i64 s, .int .i64 l, .int .i64 a] 23)) (.slice none 0 0) 26
  rw [s1] at PP
  replace PP := PP.keep hx3 (by omega)
  have TT := c1_new ((w.alloc (.cells #[.int .i64 z, .int .i64 D, .int .i64 s, .int .i64 l, .int .i64 a] 23)).alloc (.cells #[.slice none 0 0] 26)) (.slice none 0 0) 26
  rw [s2] at TT
  have hw := kal (kal (anc.bl w (.cells #[.int .i64 z, .int .i64 D, .int .i64 s, .int .i64 l, .int .i64 a] 23)) (.cells #[.slice none 0 0] 26)) (.cells #[.slice none 0 0] 26)
  have l3 : (((w.alloc (.cells #[.int .i64 z, .int .i64 D, .int .i64 s, .int .i64 l, .int .i64 a] 23)).alloc (.cells #[.slice none 0 0] 26)).alloc (.cells #[.slice none 0 0] 26)).heap.size = w.heap.size + 3 := by simp
  have HA := Lib.hid hA
  have HR := Lib.hid hR
  have HB := Lib.hid hB
  have HN := Lib.hid hn
  have HM := Lib.hid hm
  have HN1 := Lib.hid hn1
  clear o2 ho s1 s2 hx2 hx3 hA hR hB hn hm hn1
  go_enter Try.func26, Try.ntmps26
  go_upto_region 3 with fail
  generalize (((w.alloc (.cells #[.int .i64 z, .int .i64 D, .int .i64 s, .int .i64 l, .int .i64 a] 23)).alloc (.cells #[.slice none 0 0] 26)).alloc (.cells #[.slice none 0 0] 26)) = w0 at *
  have hmk := tbl.z8_run
  have HZ := Lib.hid (z8_own w0 w0.heap.size (Nat.le_refl _))
  have hb5 := anc.bl w0 (.cells tbl.z8cells 5)
  have hL3 : w.heap.size + 3 ≤ w0.heap.size := by omega
  have HL3 := Lib.hid l3
  clear l3
  replace GG := GG.keep hb5 (by omega)
  replace PP := PP.keep hb5 (by omega)
  replace TT := TT.keep hb5 (by omega)
  have hw1 := bt hw hb5
  have lw1 := hb5.size
  go_upto_region 5 with fail
  generalize w0.alloc (.cells tbl.z8cells 5) = w1 at *
  go_loopw [11, 12, 13] (fun h p j w' => ∃ (k : Nat) (vE : Value) (rows : List Row), k ≤ D ∧ j = .int .i64 k ∧ C1 w' (w.heap.size + 2) vE ∧ C1 w' (w.heap.size + 1) (.slice none 0 0) ∧ G5 w' w.heap.size z D s l a ∧ OwnE w' w0.heap.size vE ((List.range k).map (entF st (lists rs) bl)) ∧ OwnRows w' w0.heap.size h rows ((List.range k).map (rowF (lists rs) bl)) ∧ Own w' w0.heap.size 5 p (par8 (lists rs) bl k) ∧ Below w.heap.size w w' ∧ w0.heap.size ≤ w'.heap.size) (fun _ _ j _ => D - (RowKit.intOf j).toNat)
  case atStart => exact ⟨0, _, [], by omega, rfl, TT, PP, GG, ownE_nil _ _, ownRows_nil _ _, HZ.out, hw1, lw1⟩
  case round =>
    clear TT PP GG hw1 lw1 HZ hb5
    obtain ⟨w5, rfl⟩ : ∃ q, q = wr := ⟨wr, rfl⟩
    obtain ⟨k, vE, rows, hk, rfl, T5, P5, G5', hE, hO, hP, hb, lw5⟩ := hrel
    have HE := Lib.hid hE
    have HO := Lib.hid hO
    have HP := Lib.hid hP
    have HLK : Hid (((List.range k).map (entF st (lists rs) bl)).length = k) := Lib.hid (by simp)
    clear hE hO hP
    by_cases hlt : k < D
    · have i1 : (k : Int) < (D : Int) := by omega
      have hk5 : k + 1 ≤ 5 := by omega
      have HK5 := Lib.hid hk5
      clear hk5
      have hmk := tbl.z8_run
      have HZ := Lib.hid (z8_own w5 w0.heap.size lw5)
      have b5 := anc.bl w5 (.cells tbl.z8cells 5)
      obtain ⟨g0, g1, g2, g3, g4⟩ := id G5'
      go_upto_region 8 with fail
      replace T5 := T5.keep b5 (by omega)
      replace P5 := P5.keep b5 (by omega)
      replace G5' := G5'.keep b5 (by omega)
      replace HE := Lib.hid (OwnE.below HE.out b5)
      replace HO := Lib.hid (HO.out.below b5)
      replace HP := Lib.hid (HP.out.below b5)
      replace hb := bt hb b5
      replace lw5 := Nat.le_trans lw5 b5.size
      obtain ⟨g6, hg6⟩ : ∃ q, q = w5.heap.size := ⟨_, rfl⟩
      rw [← hg6] at HZ ⊢
      clear g0 g1 g2 g3 g4 b5 hg6
      generalize w5.alloc (.cells tbl.z8cells 5) = w6 at *
      go_cut [35] from 17 to 76 (fun v wc => (∃ q : Bool, v = .bool q ∧ (q = true ↔ k < n ∧ (hadK (lists rs) k).length = 8)) ∧ wc = w6)
      case first =>
        by_cases hkn : k < n
        · have j1 : (k : Int) < (n : Int) := by omega
          obtain ⟨b1, off, r, hRA, hb1, gr, hrs, hmem, -, r1⟩ := row_at (HA.out.below hb) (HR.out.below hb) (show k < rs.length by have := HN.out; omega)
          subst hRA
          have HHK := Lib.hid (hadK_get r1)
          by_cases h8 : r.l.length = 8
          · have q : ((r.l.length : Int) == 8) = true := by rw [h8]; rfl
            have H : Hid (k < n ∧ (hadK (lists rs) k).length = 8) := Lib.hid ⟨hkn, by rw [HHK.out]; exact h8⟩
            clear r1 hrs hmem h8 hkn
            go_wp2_with fail
            go_meet
            exact ⟨⟨true, rfl, iff_of_true rfl H.out⟩, rfl⟩
          · have q : ((r.l.length : Int) == 8) = false := beq_eq_false_iff_ne.2 (by omega)
            have H : Hid (¬ (k < n ∧ (hadK (lists rs) k).length = 8)) := Lib.hid fun h => h8 (by have := h.2; rw [HHK.out] at this; exact this)
            clear r1 hrs hmem h8 hkn
            go_wp2_with fail
            go_meet
            exact ⟨⟨false, rfl, iff_of_false Bool.false_ne_true H.out⟩, rfl⟩
        · have j1 : ¬ (k : Int) < (n : Int) := by omega
          have H : Hid (¬ (k < n ∧ (hadK (lists rs) k).length = 8)) := Lib.hid fun h => hkn h.1
          clear hkn
          go_wp2_with fail
          go_meet
          exact ⟨⟨false, rfl, iff_of_false Bool.false_ne_true H.out⟩, rfl⟩
      case rest =>
      obtain ⟨⟨q, rfl, hq⟩, hwc⟩ := hcut
      have hwc2 := hwc.symm
      clear hwc
      subst hwc2
      have HQ := Lib.hid hq
      clear hq
      go_upto_if 35 with fail
      go_cut [14] from 17 to 76 (fun v wc => (∃ (X : Option Addr) (xc : Nat), v = .slice X 8 xc ∧ Own wc w0.heap.size 5 (.slice X 8 xc) (blk (lists rs) k)) ∧ Below w6.heap.size w6 wc)
      case first =>
        cases q
        case true =>
          obtain ⟨hkn, h8'⟩ := HQ.out.1 rfl
          have j1 : (k : Int) < (n : Int) := by omega
          obtain ⟨b1, off, r, hRA, hb1, gr, hrs, hmem, -, r1⟩ := row_at (HA.out.below hb) (HR.out.below hb) (show k < rs.length by have := HN.out; omega)
          subst hRA
          rw [hadK_get r1] at h8'
          have HBK := Lib.hid (show blk (lists rs) k = r.l by unfold blk; rw [hadK_get r1, if_pos h8'])
          have HTW := Lib.hid (show Calls Try.prog 30 #[.slice r.A r.l.length r.c] w6 fun e w' => (∃ (X : Option Addr) (xc : Nat), e = .returned (.slice X 8 xc) ∧ Own w' w6.heap.size 5 (.slice X 8 xc) r.l) ∧ Below w6.heap.size w6 w' from by
            refine (twin_any r.A r.c w.heap.size r.l w6 hrs (by omega)).mono ?_
            rintro e w' ⟨⟨v, rfl, ho⟩, hb⟩
            obtain ⟨X, xc, hv, -, -, -, -⟩ := id ho.form
            rw [h8'] at hv
            subst hv
            exact ⟨⟨X, xc, rfl, ho⟩, hb⟩)
          clear r1 hrs hmem h8' hkn HQ
          go_wp2_with (go_at_call 30; (with_reducible refine HTW.out.mono ?_); rintro e w7 ⟨⟨X, xc, rfl, hov⟩, hb7⟩)
          go_meet
          exact ⟨⟨X, xc, rfl, by rw [HBK.out]; exact hov.less lw5⟩, hb7⟩
        case false =>
          have HBK := Lib.hid (show blk (lists rs) k = zeros 8 by
            by_cases hkn : k < n
            · unfold blk; rw [if_neg fun h => Bool.false_ne_true (HQ.out.2 ⟨hkn, h⟩)]
            · have h0 : hadK (lists rs) k = [] := by unfold hadK; rw [List.getElem?_eq_none (by rw [lists_length, HN.out]; omega)]; rfl
              unfold blk; rw [h0, if_neg (by simp)])
          clear HQ
          go_wp2_with fail
          go_meet
          exact ⟨⟨_, _, rfl, by rw [HBK.out]; exact HZ.out⟩, Below.refl _ _⟩
      case rest =>
      obtain ⟨⟨X, xc, rfl, hbo⟩, hb7⟩ := hcut
      obtain ⟨w7, rfl⟩ : ∃ q, q = wc := ⟨wc, rfl⟩
      replace T5 := T5.keep hb7 (by omega)
      replace P5 := P5.keep hb7 (by omega)
      replace G5' := G5'.keep hb7 (by omega)
      replace HE := Lib.hid (OwnE.below HE.out hb7)
      replace HO := Lib.hid (HO.out.below hb7)
      replace HP := Lib.hid (HP.out.below hb7)
      replace hb := bt hb hb7
      replace lw5 := Nat.le_trans lw5 hb7.size
      obtain ⟨bk, hbk⟩ : ∃ b, b = blk (lists rs) k := ⟨_, rfl⟩
      rw [← hbk] at hbo
      have bk8 : bk.length = 8 := by rw [hbk]; exact blk_length _ _
      have HBK := Lib.hid hbk
      obtain ⟨S, hS⟩ : ∃ S : Nat, S = crc.sum bk := ⟨_, rfl⟩
      have HS := Lib.hid hS
      have HBO := Lib.hid hbo
      have H8 := Lib.hid bk8
      have HEN := Lib.hid (show Calls Try.prog 43 #[.int .i64 st, .slice X (8 : Nat) xc] w7 fun e w' => e = .returned (.agg #[.int .i64 st, .int .i64 S, .bool false]) ∧ Below w7.heap.size w7 w' from by
        rw [hS]
        obtain ⟨Y, y, hv, h1, h2, h3, -⟩ := id hbo.form
        rw [bk8] at hv
        simp only [Value.slice.injEq] at hv
        obtain ⟨rfl, -, rfl⟩ := hv
        exact rentry_any st X 8 xc bk w7 bk8 (by decide) h3)
      clear hb7 hbk hS hbo bk8 HZ HQ
      go_upto_region 11 with (go_at_call 43; (with_reducible refine HEN.out.mono ?_); rintro e w8 ⟨rfl, hb8⟩)
      replace T5 := T5.keep hb8 (by omega)
      replace P5 := P5.keep hb8 (by omega)
      replace G5' := G5'.keep hb8 (by omega)
      replace HE := Lib.hid (OwnE.below HE.out hb8)
      replace HO := Lib.hid (HO.out.below hb8)
      replace HP := Lib.hid (HP.out.below hb8)
      replace HBO := Lib.hid (HBO.out.below hb8)
      replace hb := bt hb hb8
      replace lw5 := Nat.le_trans lw5 hb8.size
      have E3 := tri_new w8 (.int .i64 st) (.int .i64 S) (.bool false) 61
      have b9 := anc.bl w8 (.cells #[.int .i64 st, .int .i64 S, .bool false] 61)
      obtain ⟨gE, hgE⟩ : ∃ q, q = w8.heap.size := ⟨_, rfl⟩
      rw [← hgE] at E3 ⊢
      have lE : gE < (w8.alloc (.cells #[.int .i64 st, .int .i64 S, .bool false] 61)).heap.size := by rw [hgE]; simp
      have hbB := bt hb b9
      clear hb8 HEN
      have HGE := Lib.hid hgE
      clear hgE
      have HRL : Hid (rows.length = k) := Lib.hid (by have := HO.out.len; simpa using this)
      generalize w8.alloc (.cells #[.int .i64 st, .int .i64 S, .bool false] 61) = w9 at *
      go_cut [53] from 17 to 76 (fun v wc => (∃ q : Bool, v = .bool q ∧ q = isLost bl k) ∧ wc = w9)
      case first =>
        by_cases hkm : k < m
        · have j1 : (k : Int) < (m : Int) := by omega
          obtain ⟨b1, off, hBA, hb1, gr, e1⟩ := bool_at (HB.out.below hbB) (show k < bl.length by have := HM.out; omega)
          subst hBA
          have H : Hid (bl[k]'(by have := HM.out; omega) = isLost bl k) := Lib.hid (by unfold isLost; rw [e1]; rfl)
          generalize bl[k]'(by have := HM.out; omega) = qq at *
          clear e1 hkm
          go_wp2_with fail
          go_meet
          exact ⟨⟨qq, rfl, H.out⟩, rfl⟩
        · have j1 : ¬ (k : Int) < (m : Int) := by omega
          have H : Hid (false = isLost bl k) := Lib.hid (by unfold isLost; rw [List.getElem?_eq_none (by have := HM.out; omega)]; rfl)
          clear hkm
          go_wp2_with fail
          go_meet
          exact ⟨⟨false, rfl, H.out⟩, rfl⟩
      case rest =>
      obtain ⟨⟨q, rfl, hq⟩, hwc⟩ := hcut
      have hwc2 := hwc.symm
      clear hwc
      subst hwc2
      have HQ := Lib.hid hq
      clear hq
      go_upto_if 53 with fail
      cases q
      case true =>
        obtain ⟨e0, e1, e2, f0, f1, f2⟩ := id E3
        go_upto_region 13 with fail
        have bX : Below w8.heap.size w8 (w9.setCell ⟨gE, 2, none⟩ (.bool true)) := b9.setCell (p := ⟨gE, 2, none⟩) (by rw [← HGE.out]; exact Nat.le_refl gE) _
        have Et := E3.set2 (.bool true)
        have Tt := T5.keep bX (by omega)
        have Pt := P5.keep bX (by omega)
        have Gt := G5'.keep bX (by omega)
        have HEt := Lib.hid (OwnE.below HE.out bX)
        have HOt := Lib.hid (HO.out.below bX)
        have HPt := Lib.hid (HP.out.below bX)
        have hbt := bt hb bX
        have lwt := Nat.le_trans lw5 bX.size
        have HPN : Hid (par8 (lists rs) bl (k + 1) = par8 (lists rs) bl k) := Lib.hid (by rw [par8, if_pos HQ.out.symm])
        clear e0 e1 e2 f0 f1 f2 bX
        generalize w9.setCell ⟨gE, 2, none⟩ (.bool true) = wt at *
        clear T5 P5 G5' HE HO HP hb lw5 E3 b9
        obtain ⟨e0, e1, e2, -, -, -⟩ := id Et
        have t0 := Tt.c0
        have HT2 : Hid (w.heap.size + 2 < w0.heap.size) := Lib.hid (Nat.lt_of_lt_of_le (Nat.lt_succ_self _) hL3)
        have src1 := src_home (P := Try.prog) (heap_alloc_new wt (.cells #[.int .i64 st, .int .i64 S, .bool true] 61)) Try.underlying24 (by simp [Value.oneCell'])
        have ba := anc.bl wt (.cells #[.int .i64 st, .int .i64 S, .bool true] 61)
        have ow := OwnE.below HEt.out ba
        have lwa := ba.size
        go_wp2_with (first
          | (at_builtin
             (refine wpList_row _ rfl (.tmp 56) (.tmp 58) _ _ rfl w0.heap.size 3 24 61 (.agg #[.int .i64 0, .int .i64 0, .bool false]) Try.underlying24 tbl.e_info (by rfl) vE k (evs ((List.range k).map (entF st (lists rs) bl))) (by rfl) (by have h9 := ow; unfold OwnE at h9; rw [HLK.out] at h9; exact h9) _ 1 _ (by rfl) src1 (Nat.le_trans HK5.out (by decide)) (Nat.le_trans (Nat.mul_le_mul_right 24 HK5.out) (by decide)) (Nat.le_trans lwt lwa) ?_)
             intro v3 w3 h3 hg3
             obtain ⟨A3, c3, hv3, -, -, -⟩ := row_form h3
             subst hv3
             have HO3 := (OwnRows.kept (HOt.out.below ba) ow row_ent u8_ent hg3).alloc (.cells #[.slice none 0 0] 29)
             have bT3 : Below w0.heap.size wt w3 := (ba.mono lwt).grown hg3 (Nat.le_trans lwt lwa) (fun q hq => (World.ownsRow.lt ow q hq).1)
             have lw3 := bT3.size)
          | (at_builtin
             (refine wpList_appV _ rfl (.tmp 60) (.tmp 61) _ _ rfl w0.heap.size 29 tv u11 (vals rows) (by rfl) HO3.1 _ [.slice none 0 0] (by rfl) (srcV_one w3 Try.underlying27 _ (by rfl) _) (by rw [vals_length, HRL.out]; exact Nat.le_trans HK5.out (by decide)) (by rw [vals_length, HRL.out]; exact Nat.le_trans (Nat.mul_le_mul_right 24 HK5.out) (by decide)) (Nat.le_trans lwt (Nat.le_trans lw3 (anc.bl w3 _).size)) ?_)
             intro v4 w4 hown4 hg4 hat4
             have bT4 : Below w0.heap.size wt w4 := (bT3.alloc (Nat.le_trans lwt lw3) (.cells #[.slice none 0 0] 29)).grown hg4 (Nat.le_trans lwt (Nat.le_trans lw3 (anc.bl w3 _).size)) (fun q hq => (World.ownsRow.lt HO3.1 q hq).1)
             have T4 := Tt.keep bT4 HT2.out
             have t4c := T4.c0
             have t4f := T4.f0))
        have hE3 : OwnE w3 w0.heap.size (.slice A3 (k + 1 : Nat) c3) ((List.range (k + 1)).map (entF st (lists rs) bl)) := by
          unfold OwnE
          rw [range_next, List.length_append, HLK.out, evs_append]
          have he : evs [entF st (lists rs) bl k] = [.int .i64 st, .int .i64 S, .bool true] := by
            show [Value.int .i64 st, .int .i64 (crc.sum (blk (lists rs) k) : Nat), .bool (isLost bl k)] = _
            rw [← HBK.out, ← HS.out, ← HQ.out]
          show w3.ownsRow _ _ _ _ (k + 1) _
          rw [he]
          exact h3
        have hE4 : OwnE w4 w0.heap.size (.slice A3 (k + 1 : Nat) c3) ((List.range (k + 1)).map (entF st (lists rs) bl)) := World.ownsRow.kept (World.ownsRow.alloc hE3 (.cells #[.slice none 0 0] 29)) hg4 (rows_apart (World.ownsRow.alloc hE3 (.cells #[.slice none 0 0] 29)) HO3.1 ent_row)
        have hE5 := OwnE.cell_set (o := 0) hE4 HT2.out (.slice A3 (k + 1 : Nat) c3)
        have hO4 := HO3.more (r := ⟨none, 0, []⟩) (own_nil _ _ _) (hown4) hg4
        have hO5 := OwnRows.cell_set (o := 0) hO4 HT2.out (.slice A3 (k + 1 : Nat) c3)
        have hP4 : Own w4 w0.heap.size 5 _ _ := ((((HPt.out.below ba).kept hg3 (rows_apart (HPt.out.below ba) ow u8_ent)).alloc (.cells #[.slice none 0 0] 29)).kept hg4 (own_apart (((HPt.out.below ba).kept hg3 (rows_apart (HPt.out.below ba) ow u8_ent)).alloc (.cells #[.slice none 0 0] 29)) HO3.1 u8_other))
        have hP5 := own_set (o := 0) hP4 HT2.out (.slice A3 (k + 1 : Nat) c3)
        have hb5x : Below w.heap.size w (w4.setCell ⟨w.heap.size + 2, 0, none⟩ (.slice A3 (k + 1 : Nat) c3)) := (hbt.trans (bT4.mono (Nat.le_trans (Nat.le_add_right _ 3) hL3))).setCell (p := ⟨w.heap.size + 2, 0, none⟩) (Nat.le_add_right _ 2) _
        have hsz : w0.heap.size ≤ (w4.setCell ⟨w.heap.size + 2, 0, none⟩ (.slice A3 (k + 1 : Nat) c3)).heap.size := by rw [World.size_setCell]; exact Nat.le_trans lwt bT4.size
        have P4 := (Pt.keep bT4 (Nat.lt_of_lt_of_le (Nat.lt_succ_self _) (Nat.le_of_lt HT2.out))).apart (show w.heap.size + 1 ≠ w.heap.size + 2 by omega) (o := 0) (.slice A3 (k + 1 : Nat) c3)
        have G4 := (Gt.keep bT4 (Nat.lt_of_le_of_lt (Nat.le_add_right _ 2) HT2.out)).set (show w.heap.size ≠ w.heap.size + 2 by omega) (o := 0) (.slice A3 (k + 1 : Nat) c3)
        have T5x := T4.set (.slice A3 (k + 1 : Nat) c3)
        have hlist : (List.range (k + 1)).map (rowF (lists rs) bl) = (List.range k).map (rowF (lists rs) bl) ++ [[]] := by
          rw [range_next]
          have hr : rowF (lists rs) bl k = [] := by unfold rowF; rw [← HQ.out]; rfl
          rw [hr]
        rw [← hlist] at hO5
        go_roundw
        case rel =>
          exact ⟨k + 1, _, rows ++ [⟨none, 0, []⟩], Nat.succ_le_of_lt hlt, by go_num, T5x, P4, G4, hE5, hO5, (by rw [HPN.out]; exact hP5), hb5x, hsz⟩
        case measure => simp [RowKit.intOf]; omega
      case false =>
        have bX := b9
        have Et := E3
        have T5 := T5.keep bX (by omega)
        have P5 := P5.keep bX (by omega)
        have G5' := G5'.keep bX (by omega)
        have HE := Lib.hid (OwnE.below HE.out bX)
        have HO := Lib.hid (HO.out.below bX)
        have HP := Lib.hid (HP.out.below bX)
        have HBO := Lib.hid (HBO.out.below bX)
        have hb := bt hb bX
        have lw5 := Nat.le_trans lw5 bX.size
        clear bX b9
        obtain ⟨Y, yc, hv, -, -, hsl, hbase⟩ := id HP.out.form
        obtain ⟨X', xc', hvx, -, -, hslx, hbx⟩ := id HBO.out.form
        have p8 : (par8 (lists rs) bl k).length = 8 := par8_length _ _ _
        rw [p8] at hv
        rw [H8.out] at hvx
        simp only [Value.slice.injEq] at hvx
        obtain ⟨rfl, -, rfl⟩ := hvx
        subst hv
        have HTW := Lib.hid (two_c Y X yc xc 8 8 _ bk w9 p8 H8.out rfl hsl hslx (by decide))
        have HPN : Hid (par8 (lists rs) bl (k + 1) = zx (par8 (lists rs) bl k) bk) := Lib.hid (by rw [par8, if_neg (by rw [← HQ.out]; exact Bool.false_ne_true), HBK.out])
        clear hsl hslx p8 hbase hbx
        go_upto_region 15 with (go_at_call 44; (with_reducible refine HTW.out.mono ?_); rintro e wt ⟨⟨pv, rfl, hpo⟩, hbq⟩)
        have Et := Et.keep hbq lE
        have Tt := T5.keep hbq (by omega)
        have Pt := P5.keep hbq (by omega)
        have Gt := G5'.keep hbq (by omega)
        have HEt := Lib.hid (OwnE.below HE.out hbq)
        have HOt := Lib.hid (HO.out.below hbq)
        have HPt := Lib.hid (hpo.less lw5)
        have HBt := Lib.hid (HBO.out.below hbq)
        have hbt := bt hb hbq
        have lwt := Nat.le_trans lw5 hbq.size
        clear hpo hbq HTW HP HE HO HBO hb lw5 T5 P5 G5' E3
        obtain ⟨e0, e1, e2, -, -, -⟩ := id Et
        have t0 := Tt.c0
        have HT2 : Hid (w.heap.size + 2 < w0.heap.size) := Lib.hid (Nat.lt_of_lt_of_le (Nat.lt_succ_self _) hL3)
        have src1 := src_home (P := Try.prog) (heap_alloc_new wt (.cells #[.int .i64 st, .int .i64 S, .bool false] 61)) Try.underlying24 (by simp [Value.oneCell'])
        have ba := anc.bl wt (.cells #[.int .i64 st, .int .i64 S, .bool false] 61)
        have ow := OwnE.below HEt.out ba
        have lwa := ba.size
        go_wp2_with (first
          | (at_builtin
             (refine wpList_row _ rfl (.tmp 68) (.tmp 70) _ _ rfl w0.heap.size 3 24 61 (.agg #[.int .i64 0, .int .i64 0, .bool false]) Try.underlying24 tbl.e_info (by rfl) vE k (evs ((List.range k).map (entF st (lists rs) bl))) (by rfl) (by have h9 := ow; unfold OwnE at h9; rw [HLK.out] at h9; exact h9) _ 1 _ (by rfl) src1 (Nat.le_trans HK5.out (by decide)) (Nat.le_trans (Nat.mul_le_mul_right 24 HK5.out) (by decide)) (Nat.le_trans lwt lwa) ?_)
             intro v3 w3 h3 hg3
             obtain ⟨A3, c3, hv3, -, -, -⟩ := row_form h3
             subst hv3
             have HO3 := (OwnRows.kept (HOt.out.below ba) ow row_ent u8_ent hg3).alloc (.cells #[.slice X 8 xc] 29)
             have bT3 : Below w0.heap.size wt w3 := (ba.mono lwt).grown hg3 (Nat.le_trans lwt lwa) (fun q hq => (World.ownsRow.lt ow q hq).1)
             have lw3 := bT3.size)
          | (at_builtin
             (refine wpList_appV _ rfl (.tmp 72) (.tmp 74) _ _ rfl w0.heap.size 29 tv u11 (vals rows) (by rfl) HO3.1 _ [.slice X 8 xc] (by rfl) (srcV_one w3 Try.underlying27 _ (by rfl) _) (by rw [vals_length, HRL.out]; exact Nat.le_trans HK5.out (by decide)) (by rw [vals_length, HRL.out]; exact Nat.le_trans (Nat.mul_le_mul_right 24 HK5.out) (by decide)) (Nat.le_trans lwt (Nat.le_trans lw3 (anc.bl w3 _).size)) ?_)
             intro v4 w4 hown4 hg4 hat4
             have bT4 : Below w0.heap.size wt w4 := (bT3.alloc (Nat.le_trans lwt lw3) (.cells #[.slice X 8 xc] 29)).grown hg4 (Nat.le_trans lwt (Nat.le_trans lw3 (anc.bl w3 _).size)) (fun q hq => (World.ownsRow.lt HO3.1 q hq).1)
             have T4 := Tt.keep bT4 HT2.out
             have t4c := T4.c0
             have t4f := T4.f0))
        have hE3 : OwnE w3 w0.heap.size (.slice A3 (k + 1 : Nat) c3) ((List.range (k + 1)).map (entF st (lists rs) bl)) := by
          unfold OwnE
          rw [range_next, List.length_append, HLK.out, evs_append]
          have he : evs [entF st (lists rs) bl k] = [.int .i64 st, .int .i64 S, .bool false] := by
            show [Value.int .i64 st, .int .i64 (crc.sum (blk (lists rs) k) : Nat), .bool (isLost bl k)] = _
            rw [← HBK.out, ← HS.out, ← HQ.out]
          show w3.ownsRow _ _ _ _ (k + 1) _
          rw [he]
          exact h3
        have hE4 : OwnE w4 w0.heap.size (.slice A3 (k + 1 : Nat) c3) ((List.range (k + 1)).map (entF st (lists rs) bl)) := World.ownsRow.kept (World.ownsRow.alloc hE3 (.cells #[.slice X 8 xc] 29)) hg4 (rows_apart (World.ownsRow.alloc hE3 (.cells #[.slice X 8 xc] 29)) HO3.1 ent_row)
        have hE5 := OwnE.cell_set (o := 0) hE4 HT2.out (.slice A3 (k + 1 : Nat) c3)
        have hO4 := HO3.more (r := ⟨X, xc, bk⟩) (by have h9 := ((HBt.out.below ba).kept hg3 (rows_apart (HBt.out.below ba) ow u8_ent)).alloc (.cells #[.slice X 8 xc] 29); unfold Row.v; rw [H8.out]; exact h9) (by unfold Row.v; rw [H8.out]; exact hown4) hg4
        have hO5 := OwnRows.cell_set (o := 0) hO4 HT2.out (.slice A3 (k + 1 : Nat) c3)
        have hP4 : Own w4 w0.heap.size 5 _ _ := ((((HPt.out.below ba).kept hg3 (rows_apart (HPt.out.below ba) ow u8_ent)).alloc (.cells #[.slice X 8 xc] 29)).kept hg4 (own_apart (((HPt.out.below ba).kept hg3 (rows_apart (HPt.out.below ba) ow u8_ent)).alloc (.cells #[.slice X 8 xc] 29)) HO3.1 u8_other))
        have hP5 := own_set (o := 0) hP4 HT2.out (.slice A3 (k + 1 : Nat) c3)
        have hb5x : Below w.heap.size w (w4.setCell ⟨w.heap.size + 2, 0, none⟩ (.slice A3 (k + 1 : Nat) c3)) := (hbt.trans (bT4.mono (Nat.le_trans (Nat.le_add_right _ 3) hL3))).setCell (p := ⟨w.heap.size + 2, 0, none⟩) (Nat.le_add_right _ 2) _
        have hsz : w0.heap.size ≤ (w4.setCell ⟨w.heap.size + 2, 0, none⟩ (.slice A3 (k + 1 : Nat) c3)).heap.size := by rw [World.size_setCell]; exact Nat.le_trans lwt bT4.size
        have P4 := (Pt.keep bT4 (Nat.lt_of_lt_of_le (Nat.lt_succ_self _) (Nat.le_of_lt HT2.out))).apart (show w.heap.size + 1 ≠ w.heap.size + 2 by omega) (o := 0) (.slice A3 (k + 1 : Nat) c3)
        have G4 := (Gt.keep bT4 (Nat.lt_of_le_of_lt (Nat.le_add_right _ 2) HT2.out)).set (show w.heap.size ≠ w.heap.size + 2 by omega) (o := 0) (.slice A3 (k + 1 : Nat) c3)
        have T5x := T4.set (.slice A3 (k + 1 : Nat) c3)
        have hlist : (List.range (k + 1)).map (rowF (lists rs) bl) = (List.range k).map (rowF (lists rs) bl) ++ [bk] := by
          rw [range_next]
          have hr : rowF (lists rs) bl k = bk := by unfold rowF; rw [← HQ.out]; exact HBK.out.symm
          rw [hr]
        rw [← hlist] at hO5
        go_roundw
        case rel =>
          exact ⟨k + 1, _, rows ++ [⟨X, xc, bk⟩], Nat.succ_le_of_lt hlt, by go_num, T5x, P4, G4, hE5, hO5, (by rw [HPN.out]; exact hP5), hb5x, hsz⟩
        case measure => simp [RowKit.intOf]; omega
    · obtain rfl : k = D := by omega
      have i1 : ¬ (k : Int) < (k : Int) := by omega
      obtain ⟨Y, yc, hv, -, -, hsl, -⟩ := id HP.out.form
      have p8 : (par8 (lists rs) bl k).length = 8 := par8_length _ _ _
      rw [p8] at hv
      subst hv
      obtain ⟨S, hS⟩ : ∃ S : Nat, S = crc.sum (par8 (lists rs) bl k) := ⟨_, rfl⟩
      have HS := Lib.hid hS
      have HEN := Lib.hid (show ∀ W, Below w5.heap.size w5 W → Calls Try.prog 43 #[.int .i64 st, .slice Y (8 : Nat) yc] W fun e w' => e = .returned (.agg #[.int .i64 st, .int .i64 S, .bool false]) ∧ Below W.heap.size W w' from fun W hW => by
        rw [HS.out]
        exact rentry_any st Y 8 yc (par8 (lists rs) bl k) W p8 (by decide) (hsl.next hW))
      have P8 := Lib.hid p8
      have HRL : Hid (rows.length = k) := Lib.hid (by have := HO.out.len; simpa using this)
      clear hS p8 hsl hlt
      obtain ⟨g0, g1, g2, g3, g4⟩ := id G5'
      have t0 := T5.c0
      have HT2 : Hid (w.heap.size + 2 < w0.heap.size) := Lib.hid (Nat.lt_of_lt_of_le (Nat.lt_succ_self _) hL3)
      go_upto_region 16 with fail
      refine wp_region_tail (S := fun W => W.cell? ⟨w.heap.size + 2, 0, none⟩ = some vE ∧ Below w0.heap.size w5 W) 8 rfl (by kernel_rfl) (by kernel_rfl) ⟨t0, below_dr (Below.refl _ _)⟩ (fun hS => ?_)
      simp only [List.take_succ_cons, List.take_zero]
      (refine wpAnyH_take (i := 0) (v := ?_) rfl (by kernel_rfl) (by kernel_rfl) (by kernel_rfl) (fun _ _ _ h => h) (Or.inl ⟨by rfl, ?_⟩) (by assumption) ?_; rotate_left; (focus (intro w hSw; (try dsimp only at hSw); go_split_ands; go_simp <;> with_reducible rfl)); simp only [List.getElem_toArray, List.getElem_cons_zero, Act.put, List.setIfInBounds_toArray, List.set_cons_zero, List.set_cons_succ])
      (refine wpAnyH_take (i := 1) (v := ?_) rfl (by kernel_rfl) (by kernel_rfl) (by kernel_rfl) (fun _ _ _ h => h) (Or.inl ⟨by rfl, ?_⟩) (by assumption) ?_; rotate_left; (focus (intro w hSw; (try dsimp only at hSw); go_split_ands; go_simp <;> with_reducible rfl)); simp only [List.getElem_toArray, List.getElem_cons_zero, List.getElem_cons_succ, Act.put, List.setIfInBounds_toArray, List.set_cons_zero, List.set_cons_succ])
      (refine wpAnyH_take (i := 2) (v := ?_) rfl (by kernel_rfl) (by kernel_rfl) (by kernel_rfl) (fun _ _ _ h => h) (Or.inl ⟨by rfl, ?_⟩) (by assumption) ?_; rotate_left; (focus (intro w hSw; (try dsimp only at hSw); go_split_ands; go_simp <;> with_reducible rfl)); simp only [List.getElem_toArray, List.getElem_cons_zero, List.getElem_cons_succ, Act.put, List.setIfInBounds_toArray, List.set_cons_zero, List.set_cons_succ])
      (refine wpAnyH_take (i := 3) (v := ?_) rfl (by kernel_rfl) (by kernel_rfl) (by kernel_rfl) (fun _ _ _ h => h) (Or.inl ⟨by rfl, ?_⟩) (by assumption) ?_; rotate_left; (focus (intro w hSw; (try dsimp only at hSw); go_split_ands; go_simp <;> with_reducible rfl)); simp only [List.getElem_toArray, List.getElem_cons_zero, List.getElem_cons_succ, Act.put, List.setIfInBounds_toArray, List.set_cons_zero, List.set_cons_succ])
      refine wpAnyH_ready (rs := [4]) (by kernel_rfl) (by simp) ?_
      refine AllReadyH.cons rfl (fun K hK => ?_) AllReadyH.nil
      go_simp
      (with_reducible refine (HEN.out _ (below_dr (Below.refl _ _))).mono ?_)
      rintro e wb ⟨rfl, hbb⟩
      have b2 : Below w5.heap.size w5 wb := bt (below_dr (Below.refl _ _)) hbb
      refine hK.out _ _ ⟨ks (b2.mono lw5) HT2.out t0, b2.mono lw5⟩ (fun hS => ?_)
      clear hK K
      refine wpAnyH_ready (rs := [5]) (by kernel_rfl) (by simp) ?_
      refine AllReadyH.cons rfl (fun K hK => ?_) AllReadyH.nil
      go_simp
      have b3 : Below w5.heap.size w5 (wb.alloc (.cells #[.int .i64 st, .int .i64 S, .bool false] 61)) := kal b2 _
      have src := src_home (P := Try.prog) (heap_alloc_new wb (.cells #[.int .i64 st, .int .i64 S, .bool false] 61)) Try.underlying24 (by simp [Value.oneCell'])
      refine hK.out _ _ ⟨ks (b3.mono lw5) HT2.out t0, b3.mono lw5⟩ (fun hS => ?_)
      clear hK K
      have ow := OwnE.below HE.out b3
      have l3 := b3.size
      have HO3 := HO.out.below b3
      have HP3 := HP.out.below b3
      generalize wb.alloc (.cells #[.int .i64 st, .int .i64 S, .bool false] 61) = wc at *
      refine wpAnyH_ready (rs := [6]) (by kernel_rfl) (by simp) ?_
      refine AllReadyH.cons rfl (fun K hK => ?_) AllReadyH.nil
      refine step_row wc (by rfl) _ _ _ _ (by rfl) w0.heap.size 3 24 61 (.agg #[.int .i64 0, .int .i64 0, .bool false]) Try.underlying24 tbl.e_info (by rfl) vE k (evs ((List.range k).map (entF st (lists rs) bl))) (by rfl) (by have h9 := ow; unfold OwnE at h9; rw [HLK.out] at h9; exact h9) _ 1 _ (by rfl) src (Nat.le_trans (show k + 1 ≤ 5 by omega) (by decide)) (Nat.le_trans (Nat.mul_le_mul_right 24 (show k + 1 ≤ 5 by omega)) (by decide)) (Nat.le_trans lw5 l3) ?_
      intro v3 w3 h3 hg3
      have b4 : Below w0.heap.size w5 w3 := (b3.mono lw5).grown hg3 (Nat.le_trans lw5 l3) (fun q hq => (World.ownsRow.lt ow q hq).1)
      have HO4 := OwnRows.kept HO3 ow row_ent u8_ent hg3
      have HP4 := HP3.kept hg3 (rows_apart HP3 ow u8_ent)
      refine hK.out _ _ ⟨ks b4 HT2.out t0, b4⟩ (fun hS => ?_)
      clear hK K
      simp only [List.getElem_toArray, List.getElem_cons_zero, List.getElem_cons_succ, Act.put, List.setIfInBounds_toArray, List.set_cons_zero, List.set_cons_succ]
      (refine wpAnyH_take (i := 7) (v := ?_) rfl (by kernel_rfl) (by kernel_rfl) (by kernel_rfl) (fun _ _ _ h => h) (Or.inl ⟨by rfl, ?_⟩) (by assumption) ?_; rotate_left; (focus (intro w hSw; (try dsimp only at hSw); go_split_ands; go_simp <;> with_reducible rfl)); simp only [List.getElem_toArray, List.getElem_cons_zero, List.getElem_cons_succ, Act.put, List.setIfInBounds_toArray, List.set_cons_zero, List.set_cons_succ])
      refine wpAnyH_done (by kernel_rfl) ?_ _
      have T6 := T5.keep b4 HT2.out
      have P6 := P5.keep b4 (Nat.lt_of_lt_of_le (Nat.lt_succ_self _) (Nat.le_of_lt HT2.out))
      have c6 := T6.c0
      have f6 := T6.f0
      obtain ⟨A3, c3, rfl, -, -, -⟩ := row_form h3
      simp only [tailQ]
      go_simp
      have h4 : OwnE w3 w0.heap.size (.slice A3 (k + 1 : Nat) c3) (fullE st (lists rs) bl k) := by
        unfold OwnE fullE
        rw [List.length_append, HLK.out, evs_append]
        have he : evs [(⟨st, (crc.sum (par8 (lists rs) bl k) : Nat), false⟩ : Ent)] = [.int .i64 st, .int .i64 S, .bool false] := by rw [HS.out]; rfl
        rw [he]
        exact h3
      have h5 := OwnE.cell_set (o := 0) h4 HT2.out (.slice A3 (k + 1 : Nat) c3)
      have HO5 := OwnRows.cell_set (o := 0) HO4 HT2.out (.slice A3 (k + 1 : Nat) c3)
      have HP5 := own_set (o := 0) HP4 HT2.out (.slice A3 (k + 1 : Nat) c3)
      have hb6 : Below w.heap.size w (w3.setCell ⟨w.heap.size + 2, 0, none⟩ (.slice A3 (k + 1 : Nat) c3)) := (hb.trans (b4.mono (Nat.le_trans (Nat.le_add_right _ 3) hL3))).setCell (p := ⟨w.heap.size + 2, 0, none⟩) (Nat.le_add_right _ 2) _
      have T7 := T6.set (.slice A3 (k + 1 : Nat) c3)
      have P7 := P6.apart (show w.heap.size + 1 ≠ w.heap.size + 2 by omega) (o := 0) (.slice A3 (k + 1 : Nat) c3)
      have lw7 : w0.heap.size ≤ (w3.setCell ⟨w.heap.size + 2, 0, none⟩ (.slice A3 (k + 1 : Nat) c3)).heap.size := by rw [World.size_setCell]; exact Nat.le_trans lw5 b4.size
      clear h4 HO4 HP4 T6 P6 c6 f6 g0 g1 g2 g3 g4 t0 hS h3 hg3 b4 HO3 HP3 ow l3 b3 src b2 hbb
      generalize w3.setCell ⟨w.heap.size + 2, 0, none⟩ (.slice A3 (k + 1 : Nat) c3) = w7 at *
      have t0 := T7.c0
      have p0 := P7.c0
      have pf := P7.f0
      go_upto_region 17 with fail
      have HSX := Lib.hid (show ∀ W, Below w0.heap.size w7 W → W.cell? ⟨w.heap.size + 2, 0, none⟩ = some (.slice A3 (k + 1 : Nat) c3) from fun W h => ks h HT2.out t0)
      refine wp_region_held_drew (S := fun W => W.cell? ⟨w.heap.size + 2, 0, none⟩ = some (.slice A3 (k + 1 : Nat) c3)) (by kernel_rfl) t0 (fun hS => ?_)
      (refine wpAnyH_take (i := 0) (v := ?_) rfl (by kernel_rfl) (by kernel_rfl) (by kernel_rfl) (fun _ _ _ h => h) (Or.inl ⟨by rfl, ?_⟩) (by assumption) ?_; rotate_left; (focus (intro w hSw; (try dsimp only at hSw); go_split_ands; go_simp <;> with_reducible rfl)); simp only [List.getElem_toArray, List.getElem_cons_zero, Act.put, List.setIfInBounds_toArray, List.set_cons_zero, List.set_cons_succ])
      (refine wpAnyH_take (i := 1) (v := ?_) rfl (by kernel_rfl) (by kernel_rfl) (by kernel_rfl) (fun _ _ _ h => h) (Or.inl ⟨by rfl, ?_⟩) (by assumption) ?_; rotate_left; (focus (intro w hSw; (try dsimp only at hSw); go_split_ands; go_simp <;> with_reducible rfl)); simp only [List.getElem_toArray, List.getElem_cons_zero, List.getElem_cons_succ, Act.put, List.setIfInBounds_toArray, List.set_cons_zero, List.set_cons_succ])
      (refine wpAnyH_take (i := 2) (v := ?_) rfl (by kernel_rfl) (by kernel_rfl) (by kernel_rfl) (fun _ _ _ h => h) (Or.inl ⟨by rfl, ?_⟩) (by assumption) ?_; rotate_left; (focus (intro w hSw; (try dsimp only at hSw); go_split_ands; go_simp <;> with_reducible rfl)); simp only [List.getElem_toArray, List.getElem_cons_zero, List.getElem_cons_succ, Act.put, List.setIfInBounds_toArray, List.set_cons_zero, List.set_cons_succ])
      refine wpAnyH_ready (rs := [3]) (by kernel_rfl) (by simp) ?_
      refine AllReadyH.cons rfl (fun K hK => ?_) AllReadyH.nil
      go_simp
      have d1 : Below w7.heap.size w7 w7.drew := below_dr (Below.refl _ _)
      have b3 := kal d1 (.cells #[.slice Y 8 yc] 29)
      refine hK.out _ _ (HSX.out _ (b3.mono lw7)) (fun hS => ?_)
      clear hK K
      refine wpAnyH_ready (rs := [4]) (by kernel_rfl) (by simp) ?_
      refine AllReadyH.cons rfl (fun K hK => ?_) AllReadyH.nil
      have HO8 := HO5.below b3
      have HP8 := HP5.below b3
      have l3 := b3.size
      refine step_appV _ (by rfl) _ _ _ _ (by rfl) w0.heap.size 29 tv u11 (vals rows) (by rfl) HO8.1 _ [.slice Y 8 yc] (by rfl) (srcV_one w7.drew Try.underlying27 _ (by rfl) _) (by rw [vals_length, HRL.out]; exact Nat.le_trans (show k + 1 ≤ 5 by omega) (by decide)) (by rw [vals_length, HRL.out]; exact Nat.le_trans (Nat.mul_le_mul_right 24 (show k + 1 ≤ 5 by omega)) (by decide)) (Nat.le_trans lw7 l3) ?_
      intro v4 w4 hown4 hg4 hat4
      have b4 : Below w0.heap.size w7 w4 := (b3.mono lw7).grown hg4 (Nat.le_trans lw7 l3) (fun q hq => (World.ownsRow.lt HO8.1 q hq).1)
      have hO4 := HO8.more (r := ⟨Y, yc, par8 (lists rs) bl k⟩) (by unfold Row.v; rw [P8.out]; exact HP8) (by unfold Row.v; rw [P8.out]; exact hown4) hg4
      have hE4 := World.ownsRow.kept (OwnE.below h5 b3) hg4 (rows_apart (OwnE.below h5 b3) HO8.1 ent_row)
      refine hK.out _ _ (HSX.out _ b4) (fun hS => ?_)
      clear hK K
      have P9 := P7.keep b4 (Nat.lt_of_lt_of_le (Nat.lt_succ_self _) (Nat.le_of_lt HT2.out))
      have p0 := P9.c0
      have pf := P9.f0
      simp only [List.getElem_toArray, List.getElem_cons_zero, List.getElem_cons_succ, Act.put, List.setIfInBounds_toArray, List.set_cons_zero, List.set_cons_succ]
      refine wpAnyH_ready (rs := [5]) (by kernel_rfl) (by simp) ?_
      refine AllReadyH.cons rfl (fun K hK => ?_) AllReadyH.nil
      go_simp
      refine hK.out _ _ (by show World.cell? (w4.setCell ⟨w.heap.size + 1, 0, none⟩ (.slice A3 (k + 1 : Nat) c3)) _ = _; rw [World.cell?_setCell_other _ _ _ _ (by simp)]; exact HSX.out _ b4) (fun hS => ?_)
      clear hK K
      have k7 := P9.set (.slice A3 (k + 1 : Nat) c3)
      have hO5 := OwnRows.cell_set (o := 0) hO4 (show w.heap.size + 1 < w0.heap.size from Nat.lt_of_lt_of_le (Nat.lt_succ_self _) (Nat.le_of_lt HT2.out)) (.slice A3 (k + 1 : Nat) c3)
      have hE5 := OwnE.cell_set (o := 0) (es := fullE st (lists rs) bl k) hE4 (show w.heap.size + 1 < w0.heap.size from Nat.lt_of_lt_of_le (Nat.lt_succ_self _) (Nat.le_of_lt HT2.out)) (.slice A3 (k + 1 : Nat) c3)
      have hbz : Below w.heap.size w (w4.setCell ⟨w.heap.size + 1, 0, none⟩ (.slice A3 (k + 1 : Nat) c3)) := (hb6.trans (b4.mono (Nat.le_trans (Nat.le_add_right _ 3) hL3))).setCell (p := ⟨w.heap.size + 1, 0, none⟩) (Nat.le_add_right _ 1) _
      clear p0 pf P9 hO4 hE4 hown4 hg4 hat4
      generalize (w4.setCell ⟨w.heap.size + 1, 0, none⟩ (.slice A3 (k + 1 : Nat) c3)) = w8 at *
      (refine wpAnyH_take (i := 6) (v := ?_) rfl (by kernel_rfl) (by kernel_rfl) (by kernel_rfl) (fun _ _ _ h => h) (Or.inl ⟨by rfl, ?_⟩) (by assumption) ?_; rotate_left; (focus (intro w hSw; (try dsimp only at hSw); go_split_ands; go_simp <;> with_reducible rfl)); simp only [List.getElem_toArray, List.getElem_cons_zero, List.getElem_cons_succ, Act.put, List.setIfInBounds_toArray, List.set_cons_zero, List.set_cons_succ])
      refine wpAnyH_done (by kernel_rfl) ?_ _
      have k0 := k7.c0
      go_wp2_with fail
      obtain ⟨t, hv, hte, hto⟩ := ownE_tv hE5
      have hww : w.heap.size ≤ w0.heap.size := Nat.le_trans (Nat.le_add_right _ 3) hL3
      exact bodyPost_ret (v := .tuple #[.agg #[.slice A3 (k + 1 : Nat) c3], v4]) (by simp [results, Try.results26, go_sem, k0]) rfl ⟨⟨t, v4, by rw [tbl.TV.v, ← hv], hte, OwnE.less hto hww, _, OwnRows.less hO5 hww⟩, hbz⟩
end Go.Proofs.Ythdahdopejapmaa.zon

namespace Go.Proofs.Ythdahdopejapmaa.zon
open Go.RowKit Go.Lib
open Go.Proofs.Ythdahdopejapmaa.gmt (Ok)
open Go.Proofs.Ythdahdopejapmaa.anc (bl kal kst ks bm ka)
open Go.Proofs.Ythdahdopejapmaa.tbl (Ent EntOk C1 c1_new G5 g5_new OwnE)
open Go.Proofs.Ythdahdopejapmaa.par (zx zeros zeros_length zx_length)

/-- Which of a zone's. -/
def atN (D : Nat) (i : Int) : Nat := if i = -1 then D else i.toNat
/-- Which of many byte strings are some. -/
def kn (L : List (List UInt8)) : List Bool := L.map fun l => !l.isEmpty
theorem kn_length (L : List (List UInt8)) : (kn L).length = L.length := by simp [kn]
theorem kn_get {L : List (List UInt8)} {i : Nat} {l : List UInt8} (h : L[i]? = some l) : (kn L)[i]? = some (!l.isEmpty) := by simp [kn, h]
/-- What all answers; none, and why; what one answers. -/
def AllZ (m : Nat) (L : List (List UInt8)) (e : Ending) (w' : World) : Prop := ∃ (Y : Option Addr) (yc : Nat) (yr : List Row) (K : Option Addr) (kc : Nat), e = .returned (.tuple #[.slice Y m yc, .slice K m kc, .int .i64 0]) ∧ lists yr = L ∧ LV.In w' w'.heap.size ⟨Y, yc, yr⟩ ∧ SlV w' w'.heap.size K (bools (kn L))
def AllNo (n : Int) (e : Ending) : Prop := ∃ (X : Option Addr) (c : Nat) (K : Option Addr) (k : Nat), e = .returned (.tuple #[.slice X 0 c, .slice K 0 k, .int .i64 n])
def BlkZ (base : Nat) (L : List UInt8) (e : Ending) (w' : World) : Prop := ∃ (X : Option Addr) (c : Nat), e = .returned (.tuple #[.slice X L.length c, .int .i64 (if L = [] then 13 else 0)]) ∧ Own w' base 5 (.slice X L.length c) L
/-- A full zone is a right one. -/
theorem full_good (st : Int) (bs : List (List UInt8)) (ls : List Bool) (D : Nat) (hs : 0 ≤ st ∧ st ≤ 4294967295) : tbl.Good (D : Int) (fullE st bs ls D) := by
  have hsm : ∀ l : List UInt8, (0 : Int) ≤ (crc.sum l : Nat) ∧ ((crc.sum l : Nat) : Int) ≤ 4294967295 := fun l => ⟨Int.natCast_nonneg _, by have := crc.sum_lt l; omega⟩
  refine ⟨by rw [fullE_length]; omega, fun e he => ?_, fun e he => ?_⟩
  · unfold fullE at he
    rcases List.mem_append.1 he with k | k
    · obtain ⟨i, -, rfl⟩ := List.mem_map.1 k
      exact ⟨hs, hsm _⟩
    · rw [List.mem_singleton] at k
      rw [k]
      exact ⟨hs, hsm _⟩
  · rw [Int.toNat_natCast, fullE_last] at he
    rw [← Option.some.inj he]
/-- A row of one's own made nothing: what it is then, and all else as it was. -/
theorem hadK_set {ls : List (List UInt8)} {j : Nat} (x : List UInt8) (hj : j < ls.length) (i : Nat) : hadK (ls.set j x) i = if i = j then x else hadK ls i := by
  unfold hadK
  by_cases h : i = j
  · subst h
    rw [if_pos rfl, List.getElem?_set_self hj]
    rfl
  · rw [if_neg h, List.getElem?_set_ne (fun k => h k.symm)]
theorem missed_refl (all : List (List UInt8)) : Missed all all := fun _ => .inl rfl
theorem missed_set {all hs : List (List UInt8)} (h : Missed all hs) {j : Nat} (hj : j < hs.length) : Missed all (hs.set j []) := fun i => by
  rw [hadK_set [] hj i]
  by_cases k : i = j
  · rw [if_pos k]; exact .inr rfl
  · rw [if_neg k]; exact h i
theorem had_set {n : Nat} {hs : List (List UInt8)} (h : HadOk n hs) (j : Nat) : HadOk n (hs.set j []) := by
  refine ⟨by rw [List.length_set]; exact h.1, fun x hx => ?_⟩
  rcases List.mem_or_eq_of_mem_set hx with k | k
  · exact h.2 x k
  · exact .inl k
def b8 : List UInt8 := [1, 2, 3, 4, 5, 6, 7, 8]
theorem full_b8 (D : Nat) (h : 1 ≤ D) : lostK (fullE 3 [b8] [] D) 0 = false ∧ hadK (fullH [b8] [] D) 0 = b8 := by
  rw [lostK_get (fullE_get (by omega)), hadK_get (fullH_get (by omega))]
  exact ⟨rfl, rfl⟩
theorem not_lost (st : Int) (bs : List (List UInt8)) (D i : Nat) : lostK (fullE st bs [] D) i = false := by
  by_cases h : i < D
  · rw [lostK_get (fullE_get h)]; rfl
  · by_cases h2 : i = D
    · rw [h2, lostK_get fullE_last]
    · unfold lostK
      rw [List.getElem?_eq_none (by rw [fullE_length]; omega)]
      rfl
/-- A full zone, its places told. -/
def FullZ (base : Nat) (D : Nat) (st : Int) (bs : List (List UInt8)) (ls : List Bool) (e : Ending) (w' : World) : Prop := ∃ (t : tbl.TV) (g c : Nat) (rows : List Row), e = .returned (.tuple #[.agg #[.slice t.A (D + 1 : Nat) t.c], .slice (some ⟨g, 0, none⟩) (D + 1 : Nat) c]) ∧ t.es = fullE st bs ls D ∧ t.Own w' base ∧ OwnRows w' base (.slice (some ⟨g, 0, none⟩) (D + 1 : Nat) c) rows (fullH bs ls D) ∧ base ≤ g ∧ g < w'.heap.size ∧ (D + 1 ≤ c ∧ c ≤ maxLen)
theorem full_z (z s l a st : Int) (D : Nat) (A B : Option Addr) (n c m d : Nat) (rs : List Row) (bl : List Bool) (w : World) (ho : Ok z D s l a) (hn : rs.length = n) (hm : bl.length = m) (hn1 : n ≤ 1048576) (hA : SlV w w.heap.size A (vals rs)) (hR : Rws w w.heap.size rs) (hB : SlV w w.heap.size B (bools bl)) :
    Calls Try.prog 26 #[.agg #[.int .i64 z, .int .i64 D, .int .i64 s, .int .i64 l, .int .i64 a], .slice A n c, .slice B m d, .int .i64 st] w fun e w' => FullZ w.heap.size D st (lists rs) bl e w' ∧ Below w.heap.size w w' := by
  refine (full_c z s l a st D A B n c m d rs bl w ho hn hm hn1 hA hR hB).mono ?_
  rintro e w' ⟨⟨t, v, rows, rfl, hte, hto, hor⟩, hb⟩
  obtain ⟨g, gc, hv, h1, h2, h3, h4⟩ := hor.at (fullH_length _ _ _) (by omega)
  subst hv
  have hl : t.es.length = D + 1 := by rw [hte, fullE_length]
  exact ⟨⟨t, g, gc, rows, by rw [tbl.TV.v, hl], hte, hto, hor, h3, h4, h1, h2⟩, hb⟩
/-- One of them made nothing. -/
theorem rows_nil {w : World} {base g m c : Nat} {rows : List Row} {ls : List (List UInt8)} (h : OwnRows w base (.slice (some ⟨g, 0, none⟩) m c) rows ls) (hm : ls.length = m) (j : Nat) : OwnRows (w.setCell ⟨g, j, none⟩ (.slice none 0 0)) base (.slice (some ⟨g, 0, none⟩) m c) (rows.set j ⟨none, 0, []⟩) (ls.set j []) ∧ w.grownBy (w.setCell ⟨g, j, none⟩ (.slice none 0 0)) (some g) :=
  h.set hm j (r := ⟨none, 0, []⟩) (own_nil _ _ _)
theorem tab_kept {w w' : World} {b b' g m c : Nat} {t : tbl.TV} {rows : List Row} {ls : List (List UInt8)} (ht : t.Own w b) (h : OwnRows w b' (.slice (some ⟨g, 0, none⟩) m c) rows ls) (hg : w.grownBy w' (some g)) : t.Own w' b :=
  World.ownsRow.kept ht hg (rows_apart ht h.1 ent_row)
theorem rows_in {w : World} {base g m c : Nat} {rows : List Row} {ls : List (List UInt8)} (h : OwnRows w base (.slice (some ⟨g, 0, none⟩) m c) rows ls) : LV.In w w.heap.size ⟨some ⟨g, 0, none⟩, c, rows⟩ := by
  obtain ⟨A, c', hv, hi⟩ := rows_lv h
  simp only [Value.slice.injEq] at hv
  obtain ⟨rfl, -, rfl⟩ := hv
  exact hi
theorem rows_frozen {w : World} {base g m c : Nat} {rows : List Row} {ls : List (List UInt8)} (h : OwnRows w base (.slice (some ⟨g, 0, none⟩) m c) rows ls) (hm : ls.length = m) (j : Nat) (hj : j < m) : (∃ u, w.cell? ⟨g, j, none⟩ = some u) ∧ w.frozen? ⟨g, j, none⟩ = false :=
  have hl : (vals rows).length = m := by rw [vals_length, h.len, hm]
  ⟨⟨_, h.1.cell j (by omega)⟩, h.1.frozen hl j⟩
end Go.Proofs.Ythdahdopejapmaa.zon
