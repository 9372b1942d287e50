/-
  What is known of a zone, in plain data: of its table, of what is had; a zone as it was written (full). Plain mathematics; no condition.
-/
import Derived.Test.YtajjmllolaajoaaTbM
import Derived.Test.YtajjmllolaajoaaXorMath
import Derived.Test.YtajjmllolaajoaaGSum
namespace Go.Proofs.Ytajjmllolaajoaa.zon
open Go.Proofs.Ytajjmllolaajoaa.par (zx zeros zeros_length zx_length zx_comm zx_assoc zx_zeros zeros_zx zx_self zx_twice zx_swap)
open Go.Proofs.Ytajjmllolaajoaa.tbl (Ent)

/-- Of one of a zone's: is it lost, by the table; its sum; what is had of it. -/
def lostK (es : List Ent) (i : Nat) : Bool := (es[i]?.map Ent.ls).getD false
def sumK (es : List Ent) (i : Nat) : Int := (es[i]?.map Ent.sm).getD 0
def hadK (hs : List (List UInt8)) (i : Nat) : List UInt8 := (hs[i]?).getD []
/-- The xor of the first k of the others that are not lost; nothing where one of them is not had. -/
def acc (es : List Ent) (hs : List (List UInt8)) (i : Nat) : Nat → Option (List UInt8)
  | 0 => some (zeros 8)
  | k + 1 => match acc es hs i k with
    | none => none
    | some x => if k = i ∨ lostK es k = true then some x else if hadK hs k = [] then none else some (zx x (hadK hs k))
/-- What is known of one of n. -/
def known (n : Nat) (es : List Ent) (hs : List (List UInt8)) (i : Nat) : List UInt8 :=
  if lostK es i = true then [] else if hadK hs i = [] then (match acc es hs i n with | none => [] | some x => if ((crc.sum x : Nat) : Int) = sumK es i then x else []) else hadK hs i
def knowns (n : Nat) (es : List Ent) (hs : List (List UInt8)) : List (List UInt8) := (List.range n).map (known n es hs)
/-- As many as there are to be, each a block, or nothing. -/
def HadOk (n : Nat) (hs : List (List UInt8)) : Prop := hs.length = n ∧ ∀ h ∈ hs, h = [] ∨ h.length = 8
theorem knowns_length (n : Nat) (es : List Ent) (hs : List (List UInt8)) : (knowns n es hs).length = n := by simp [knowns]
theorem knowns_get {n i : Nat} (es : List Ent) (hs : List (List UInt8)) (h : i < n) : (knowns n es hs)[i]? = some (known n es hs i) := by simp [knowns, h]
theorem lostK_get {es : List Ent} {i : Nat} {e : Ent} (h : es[i]? = some e) : lostK es i = e.ls := by simp [lostK, h]
theorem sumK_get {es : List Ent} {i : Nat} {e : Ent} (h : es[i]? = some e) : sumK es i = e.sm := by simp [sumK, h]
theorem hadK_get {hs : List (List UInt8)} {i : Nat} {l : List UInt8} (h : hs[i]? = some l) : hadK hs i = l := by simp [hadK, h]
theorem hadK_ok {n : Nat} {hs : List (List UInt8)} (h : HadOk n hs) (i : Nat) : hadK hs i = [] ∨ (hadK hs i).length = 8 := by
  unfold hadK
  cases hi : hs[i]? with
  | none => exact .inl rfl
  | some l => exact h.2 l (List.mem_of_getElem? hi)
theorem acc_zero (es : List Ent) (hs : List (List UInt8)) (i : Nat) : acc es hs i 0 = some (zeros 8) := rfl
theorem acc_none {es : List Ent} {hs : List (List UInt8)} {i k : Nat} (h : acc es hs i k = none) : acc es hs i (k + 1) = none := by rw [acc, h]
theorem acc_skip {es : List Ent} {hs : List (List UInt8)} {i k : Nat} (h : k = i ∨ lostK es k = true) : acc es hs i (k + 1) = acc es hs i k := by
  rw [acc]
  cases acc es hs i k with
  | none => rfl
  | some x => simp only [if_pos h]
theorem acc_lack {es : List Ent} {hs : List (List UInt8)} {i k : Nat} (h : ¬ (k = i ∨ lostK es k = true)) (hk : hadK hs k = []) : acc es hs i (k + 1) = none := by
  rw [acc]
  cases acc es hs i k with
  | none => rfl
  | some x => simp only [if_neg h, if_pos hk]
theorem acc_take {es : List Ent} {hs : List (List UInt8)} {i k : Nat} {x : List UInt8} (h : ¬ (k = i ∨ lostK es k = true)) (hk : hadK hs k ≠ []) (hx : acc es hs i k = some x) : acc es hs i (k + 1) = some (zx x (hadK hs k)) := by
  rw [acc, hx]
  simp only [if_neg h, if_neg hk]
theorem acc_stays {es : List Ent} {hs : List (List UInt8)} {i k : Nat} (h : acc es hs i k = none) : ∀ n, k ≤ n → acc es hs i n = none
  | 0, hn => by
    obtain rfl : k = 0 := by omega
    exact h
  | n + 1, hn => by
    by_cases hk : k = n + 1
    · rw [← hk]; exact h
    · exact acc_none (acc_stays h n (by omega))
theorem acc_length {n : Nat} {es : List Ent} {hs : List (List UInt8)} (h : HadOk n hs) (i : Nat) : ∀ k x, acc es hs i k = some x → x.length = 8
  | 0, x, hx => by
    rw [acc_zero] at hx
    obtain rfl := Option.some.inj hx
    exact zeros_length 8
  | k + 1, x, hx => by
    by_cases hs1 : k = i ∨ lostK es k = true
    · rw [acc_skip hs1] at hx
      exact acc_length h i k x hx
    · by_cases hk : hadK hs k = []
      · rw [acc_lack hs1 hk] at hx
        cases hx
      · cases hy : acc es hs i k with
        | none => rw [acc_none hy] at hx; cases hx
        | some y =>
          rw [acc_take hs1 hk hy] at hx
          obtain rfl := Option.some.inj hx
          exact zx_length (acc_length h i k y hy) ((hadK_ok h k).resolve_left hk)
theorem known_lost {n : Nat} {es : List Ent} {hs : List (List UInt8)} {i : Nat} (h : lostK es i = true) : known n es hs i = [] := by unfold known; rw [if_pos h]
theorem known_had {n : Nat} {es : List Ent} {hs : List (List UInt8)} {i : Nat} (h : lostK es i = false) (hk : hadK hs i ≠ []) : known n es hs i = hadK hs i := by
  unfold known
  rw [if_neg (by rw [h]; exact Bool.false_ne_true), if_neg hk]
theorem known_none {n : Nat} {es : List Ent} {hs : List (List UInt8)} {i : Nat} (h : lostK es i = false) (hk : hadK hs i = []) (ha : acc es hs i n = none) : known n es hs i = [] := by
  unfold known
  rw [if_neg (by rw [h]; exact Bool.false_ne_true), if_pos hk, ha]
theorem known_some {n : Nat} {es : List Ent} {hs : List (List UInt8)} {i : Nat} {x : List UInt8} (h : lostK es i = false) (hk : hadK hs i = []) (ha : acc es hs i n = some x) : known n es hs i = if ((crc.sum x : Nat) : Int) = sumK es i then x else [] := by
  unfold known
  rw [if_neg (by rw [h]; exact Bool.false_ne_true), if_pos hk, ha]
theorem known_length {n : Nat} {es : List Ent} {hs : List (List UInt8)} (h : HadOk n hs) (i : Nat) : known n es hs i = [] ∨ (known n es hs i).length = 8 := by
  cases hl : lostK es i with
  | true => exact .inl (known_lost hl)
  | false =>
    by_cases hk : hadK hs i = []
    · cases ha : acc es hs i n with
      | none => exact .inl (known_none hl hk ha)
      | some x =>
        rw [known_some hl hk ha]
        split
        · exact .inr (acc_length h i n x ha)
        · exact .inl rfl
    · rw [known_had hl hk]
      exact hadK_ok h i
/-- What is known of what is not had has its entry's sum. -/
theorem known_sum {n : Nat} {es : List Ent} {hs : List (List UInt8)} (h : HadOk n hs) {i : Nat} (hl : lostK es i = false) (hk : hadK hs i = []) (hn : known n es hs i ≠ []) : (known n es hs i).length = 8 ∧ ((crc.sum (known n es hs i) : Nat) : Int) = sumK es i := by
  refine ⟨(known_length h i).resolve_left hn, ?_⟩
  cases ha : acc es hs i n with
  | none => exact absurd (known_none hl hk ha) hn
  | some x =>
    rw [known_some hl hk ha] at hn ⊢
    split
    · rename_i hx; exact hx
    · rename_i hx; rw [if_neg hx] at hn; exact absurd rfl hn
/-- What is lost: whatever is had of it. -/
theorem acc_other {es : List Ent} {hs hs' : List (List UInt8)} {j : Nat} (hl : lostK es j = true) (h : ∀ i, i ≠ j → hadK hs i = hadK hs' i) (i : Nat) : ∀ k, acc es hs i k = acc es hs' i k
  | 0 => rfl
  | k + 1 => by
    have ih := acc_other hl h i k
    by_cases hs1 : k = i ∨ lostK es k = true
    · rw [acc_skip hs1, acc_skip hs1, ih]
    · have hkj : k ≠ j := fun hh => hs1 (.inr (by rw [hh]; exact hl))
      by_cases hk : hadK hs k = []
      · rw [acc_lack hs1 hk, acc_lack hs1 (by rw [← h k hkj]; exact hk)]
      · cases hy : acc es hs i k with
        | none => rw [acc_none hy, acc_none (by rw [← ih]; exact hy)]
        | some y => rw [acc_take hs1 hk hy, acc_take hs1 (by rw [← h k hkj]; exact hk) (by rw [← ih]; exact hy), h k hkj]
theorem known_other {n : Nat} {es : List Ent} {hs hs' : List (List UInt8)} {j : Nat} (hl : lostK es j = true) (h : ∀ i, i ≠ j → hadK hs i = hadK hs' i) (i : Nat) : known n es hs i = known n es hs' i := by
  cases hi : lostK es i with
  | true => rw [known_lost hi, known_lost hi]
  | false =>
    have hij : i ≠ j := fun hh => by rw [hh, hl] at hi; cases hi
    unfold known
    rw [h i hij, acc_other hl h i n]

/-! A zone as it was written. -/
def blk (bs : List (List UInt8)) (i : Nat) : List UInt8 := if (hadK bs i).length = 8 then hadK bs i else zeros 8
def isLost (ls : List Bool) (i : Nat) : Bool := (ls[i]?).getD false
/-- The xor of the first k that are not lost. -/
def par8 (bs : List (List UInt8)) (ls : List Bool) : Nat → List UInt8
  | 0 => zeros 8
  | k + 1 => if isLost ls k = true then par8 bs ls k else zx (par8 bs ls k) (blk bs k)
def entF (st : Int) (bs : List (List UInt8)) (ls : List Bool) (i : Nat) : Ent := ⟨st, (crc.sum (blk bs i) : Nat), isLost ls i⟩
def rowF (bs : List (List UInt8)) (ls : List Bool) (i : Nat) : List UInt8 := if isLost ls i = true then [] else blk bs i
def fullE (st : Int) (bs : List (List UInt8)) (ls : List Bool) (d : Nat) : List Ent := (List.range d).map (entF st bs ls) ++ [⟨st, (crc.sum (par8 bs ls d) : Nat), false⟩]
def fullH (bs : List (List UInt8)) (ls : List Bool) (d : Nat) : List (List UInt8) := (List.range d).map (rowF bs ls) ++ [par8 bs ls d]
theorem blk_length (bs : List (List UInt8)) (i : Nat) : (blk bs i).length = 8 := by
  unfold blk
  split
  · assumption
  · exact zeros_length 8
theorem par8_length (bs : List (List UInt8)) (ls : List Bool) : ∀ k, (par8 bs ls k).length = 8
  | 0 => zeros_length 8
  | k + 1 => by
    unfold par8
    split
    · exact par8_length bs ls k
    · exact zx_length (par8_length bs ls k) (blk_length bs k)
theorem range_next {α : Type} (f : Nat → α) (k : Nat) : (List.range (k + 1)).map f = (List.range k).map f ++ [f k] := by simp [List.range_succ]
theorem fullE_length (st : Int) (bs : List (List UInt8)) (ls : List Bool) (d : Nat) : (fullE st bs ls d).length = d + 1 := by simp [fullE]
theorem fullH_length (bs : List (List UInt8)) (ls : List Bool) (d : Nat) : (fullH bs ls d).length = d + 1 := by simp [fullH]
theorem fullE_get {st : Int} {bs : List (List UInt8)} {ls : List Bool} {d i : Nat} (h : i < d) : (fullE st bs ls d)[i]? = some (entF st bs ls i) := by
  unfold fullE
  rw [List.getElem?_append_left (by simpa using h)]
  simp [h]
theorem fullE_last {st : Int} {bs : List (List UInt8)} {ls : List Bool} {d : Nat} : (fullE st bs ls d)[d]? = some ⟨st, (crc.sum (par8 bs ls d) : Nat), false⟩ := by
  unfold fullE
  rw [List.getElem?_append_right (by simp)]
  simp
theorem fullH_get {bs : List (List UInt8)} {ls : List Bool} {d i : Nat} (h : i < d) : (fullH bs ls d)[i]? = some (rowF bs ls i) := by
  unfold fullH
  rw [List.getElem?_append_left (by simpa using h)]
  simp [h]
theorem fullH_last {bs : List (List UInt8)} {ls : List Bool} {d : Nat} : (fullH bs ls d)[d]? = some (par8 bs ls d) := by
  unfold fullH
  rw [List.getElem?_append_right (by simp)]
  simp
/-- Each of a full zone: lost, and nothing; or had, eight bytes, of its sum. -/
theorem full_each {st : Int} {bs : List (List UInt8)} {ls : List Bool} {d i : Nat} (h : i ≤ d) :
    (lostK (fullE st bs ls d) i = true ∧ hadK (fullH bs ls d) i = []) ∨ (lostK (fullE st bs ls d) i = false ∧ (hadK (fullH bs ls d) i).length = 8 ∧ ((crc.sum (hadK (fullH bs ls d) i) : Nat) : Int) = sumK (fullE st bs ls d) i) := by
  by_cases hi : i < d
  · rw [lostK_get (fullE_get hi), sumK_get (fullE_get hi), hadK_get (fullH_get hi)]
    unfold entF rowF
    cases hl : isLost ls i with
    | true => exact .inl ⟨rfl, if_pos rfl⟩
    | false => exact .inr ⟨rfl, by rw [if_neg Bool.false_ne_true]; exact blk_length bs i, by rw [if_neg Bool.false_ne_true]⟩
  · obtain rfl : i = d := by omega
    rw [lostK_get fullE_last, sumK_get fullE_last, hadK_get fullH_last]
    exact .inr ⟨rfl, par8_length bs ls i, rfl⟩
theorem full_had (bs : List (List UInt8)) (ls : List Bool) (d : Nat) : HadOk (d + 1) (fullH bs ls d) := by
  refine ⟨fullH_length bs ls d, fun h hh => ?_⟩
  unfold fullH at hh
  rcases List.mem_append.1 hh with k | k
  · obtain ⟨i, -, rfl⟩ := List.mem_map.1 k
    unfold rowF
    split
    · exact .inl rfl
    · exact .inr (blk_length bs i)
  · rw [List.mem_singleton] at k
    rw [k]
    exact .inr (par8_length bs ls d)
/-- The xor of the first k of a full zone. -/
def sofar (bs : List (List UInt8)) (ls : List Bool) (d k : Nat) : List UInt8 := if k ≤ d then par8 bs ls k else zeros 8
theorem sofar_length (bs : List (List UInt8)) (ls : List Bool) (d k : Nat) : (sofar bs ls d k).length = 8 := by
  unfold sofar
  split
  · exact par8_length bs ls k
  · exact zeros_length 8
theorem sofar_next {st : Int} {bs : List (List UInt8)} {ls : List Bool} {d k : Nat} (hk : k ≤ d) : sofar bs ls d (k + 1) = if lostK (fullE st bs ls d) k = true then sofar bs ls d k else zx (sofar bs ls d k) (hadK (fullH bs ls d) k) := by
  by_cases h : k < d
  · have e1 : sofar bs ls d (k + 1) = par8 bs ls (k + 1) := if_pos (by omega)
    have e2 : sofar bs ls d k = par8 bs ls k := if_pos hk
    rw [lostK_get (fullE_get h), hadK_get (fullH_get h), e1, e2, par8]
    unfold entF rowF
    cases isLost ls k with
    | true => rfl
    | false => rfl
  · obtain rfl : k = d := by omega
    rw [lostK_get fullE_last, hadK_get fullH_last]
    unfold sofar
    rw [if_neg (by omega), if_pos (Nat.le_refl _), if_neg Bool.false_ne_true, zx_self (par8_length bs ls k)]
/-- What is missed of what was full: each as it was, or nothing. -/
def Missed (all hs : List (List UInt8)) : Prop := ∀ i, hadK hs i = hadK all i ∨ hadK hs i = []
/-- Of what was full, with what is missed but one: the xor of the others. -/
theorem acc_full {st : Int} {bs : List (List UInt8)} {ls : List Bool} {d i : Nat} {hs : List (List UInt8)} (hm : Missed (fullH bs ls d) hs) (ho : ∀ k, k ≤ d → k ≠ i → lostK (fullE st bs ls d) k = false → hadK hs k ≠ []) (hi : lostK (fullE st bs ls d) i = false) : ∀ k, k ≤ d + 1 → acc (fullE st bs ls d) hs i k = some (if i < k then zx (sofar bs ls d k) (hadK (fullH bs ls d) i) else sofar bs ls d k)
  | 0, _ => by rw [acc_zero, if_neg (by omega)]; unfold sofar; rw [if_pos (Nat.zero_le _)]; rfl
  | k + 1, hk => by
    have ih := acc_full hm ho hi k (by omega)
    have hn := sofar_next (st := st) (bs := bs) (ls := ls) (d := d) (k := k) (by omega)
    by_cases hki : k = i
    · subst hki
      rw [acc_skip (.inl rfl), ih, if_neg (by omega), if_pos (by omega), hn, hi, if_neg Bool.false_ne_true, zx_twice (sofar_length bs ls d k)]
      rcases full_each (st := st) (bs := bs) (ls := ls) (show k ≤ d by omega) with ⟨h1, -⟩ | ⟨-, h1, -⟩
      · rw [hi] at h1; cases h1
      · exact h1
    · cases hl : lostK (fullE st bs ls d) k with
      | true =>
        rw [acc_skip (.inr hl), ih, hn, hl, if_pos rfl]
        by_cases hik : i < k
        · rw [if_pos hik, if_pos (by omega)]
        · rw [if_neg hik, if_neg (by omega)]
      | false =>
        have hne := ho k (by omega) hki hl
        have heq := (hm k).resolve_right hne
        rw [acc_take (fun h => h.elim hki fun h => by rw [hl] at h; cases h) hne ih, hn, hl, if_neg Bool.false_ne_true, heq]
        by_cases hik : i < k
        · rw [if_pos hik, if_pos (by omega), zx_swap]
        · rw [if_neg hik, if_neg (by omega)]
/-- With one missed alone, it is known as it was. -/
theorem known_full {st : Int} {bs : List (List UInt8)} {ls : List Bool} {d i : Nat} {hs : List (List UInt8)} (hm : Missed (fullH bs ls d) hs) (hid : i ≤ d) (ho : ∀ k, k ≤ d → k ≠ i → lostK (fullE st bs ls d) k = false → hadK hs k ≠ []) (hi : lostK (fullE st bs ls d) i = false) : known (d + 1) (fullE st bs ls d) hs i = hadK (fullH bs ls d) i := by
  rcases full_each (st := st) (bs := bs) (ls := ls) hid with ⟨h1, -⟩ | ⟨-, h8, hsm⟩
  · rw [hi] at h1; cases h1
  by_cases hk : hadK hs i = []
  · have ha := acc_full hm ho hi (d + 1) (Nat.le_refl _)
    rw [if_pos (by omega)] at ha
    have hz : sofar bs ls d (d + 1) = zeros 8 := by unfold sofar; rw [if_neg (by omega)]
    rw [hz, zeros_zx h8] at ha
    rw [known_some hi hk ha, if_pos hsm]
  · rw [known_had hi hk]
    exact (hm i).resolve_right hk
/-- With another missed that is not lost, it is not known. -/
theorem known_gap {n : Nat} {es : List Ent} {hs : List (List UInt8)} {i k : Nat} (hkn : k < n) (hki : k ≠ i) (hl : lostK es k = false) (hk : hadK hs k = []) (hi : hadK hs i = []) : known n es hs i = [] := by
  cases hli : lostK es i with
  | true => exact known_lost hli
  | false => exact known_none hli hi (acc_stays (acc_lack (fun h => h.elim hki fun h => by rw [hl] at h; cases h) hk) n (by omega))
end Go.Proofs.Ytajjmllolaajoaa.zon
