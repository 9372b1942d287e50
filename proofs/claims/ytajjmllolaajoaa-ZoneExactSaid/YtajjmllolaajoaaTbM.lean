/-
  Tables of zones as plain data, and their bytes: plain mathematics. No condition beyond each law's own.
-/
import Derived.Test.YtajjmllolaajoaaGPk
namespace Go.Proofs.Ytajjmllolaajoaa.tbl
open Go.Proofs.Ytajjmllolaajoaa.pck (le num le_length num_le num_lt le_num num_append)

/-- What a table says of a block: plain data. -/
structure Ent where
  st : Int
  sm : Int
  ls : Bool
instance : DecidableEq Ent := fun a b => decidable_of_iff (a.st = b.st ∧ a.sm = b.sm ∧ a.ls = b.ls) ⟨fun ⟨h1, h2, h3⟩ => by cases a; cases b; simp_all, fun h => by rw [h]; exact ⟨rfl, rfl, rfl⟩⟩
def lsN (b : Bool) : Nat := if b then 1 else 0
theorem lsN_le (b : Bool) : lsN b ≤ 1 := by cases b <;> decide
theorem lsN_eq (b : Bool) : (lsN b == 1) = b := by cases b <;> rfl
def entB (e : Ent) : List UInt8 := le 4 e.st.toNat ++ (le 4 e.sm.toNat ++ le 1 (lsN e.ls))
def encT (es : List Ent) : List UInt8 := es.flatMap entB
theorem entB_length (e : Ent) : (entB e).length = 9 := by unfold entB; simp [le_length]
theorem encT_length : ∀ es : List Ent, (encT es).length = es.length * 9
  | [] => rfl
  | e :: es => by
    have h : encT (e :: es) = entB e ++ encT es := by simp [encT]
    rw [h, List.length_append, entB_length, encT_length es, List.length_cons]
    omega
theorem encT_next {es : List Ent} {k : Nat} {e : Ent} (h : es[k]? = some e) : encT (es.take (k + 1)) = encT (es.take k) ++ entB e := by
  rw [List.take_add_one, h]
  simp [encT]
def EntOk (e : Ent) : Prop := (0 ≤ e.st ∧ e.st ≤ 4294967295) ∧ 0 ≤ e.sm ∧ e.sm ≤ 4294967295
/-- A right table of zones of d blocks. -/
def Good (d : Int) (es : List Ent) : Prop := (es.length : Int) = d + 1 ∧ (∀ e ∈ es, EntOk e) ∧ ∀ e, es[d.toNat]? = some e → e.ls = false
/-- What bytes say. -/
def entN (r : List UInt8) : Ent := ⟨(num (r.take 4) : Int), (num ((r.drop 4).take 4) : Int), num ((r.drop 8).take 1) == 1⟩
def entsN (r : List UInt8) (n : Nat) : List Ent := (List.range n).map fun k => entN (r.drop (k * 9))
def lostAt (r : List UInt8) (k : Nat) : Nat := num ((r.drop (k * 9 + 8)).take 1)
theorem entsN_length (r : List UInt8) (n : Nat) : (entsN r n).length = n := by simp [entsN]
theorem entsN_next (r : List UInt8) (n : Nat) : entsN r (n + 1) = entsN r n ++ [entN (r.drop (n * 9))] := by simp [entsN, List.range_succ]
theorem entsN_get {r : List UInt8} {n k : Nat} (h : k < n) : (entsN r n)[k]? = some (entN (r.drop (k * 9))) := by simp [entsN, h]
theorem le_cut (r : List UInt8) (k n : Nat) (h : k + n ≤ r.length) : le n (num ((r.drop k).take n)) = (r.drop k).take n := by
  have hl : ((r.drop k).take n).length = n := by rw [List.length_take, List.length_drop]; omega
  have h9 := le_num ((r.drop k).take n)
  rwa [hl] at h9
theorem take_num_lt (r : List UInt8) (n : Nat) : num (r.take n) < 256 ^ n := by
  have h := num_lt (r.take n)
  have h2 : (r.take n).length ≤ n := by rw [List.length_take]; omega
  exact Nat.lt_of_lt_of_le h (Nat.pow_le_pow_right (by omega) h2)
theorem entN_ok (r : List UInt8) : EntOk (entN r) := by
  have h1 := take_num_lt r 4
  have h2 := take_num_lt (r.drop 4) 4
  refine ⟨⟨Int.natCast_nonneg _, ?_⟩, Int.natCast_nonneg _, ?_⟩
  · show ((num (r.take 4) : Nat) : Int) ≤ _
    omega
  · show ((num ((r.drop 4).take 4) : Nat) : Int) ≤ _
    omega
theorem entsN_ok (r : List UInt8) (n : Nat) : ∀ e ∈ entsN r n, EntOk e := fun e he => by
  obtain ⟨k, _, rfl⟩ := List.mem_map.1 he
  exact entN_ok _
theorem take_three (r : List UInt8) : r.take 9 = r.take 4 ++ ((r.drop 4).take 4 ++ (r.drop 8).take 1) := by
  have h1 : r.take 9 = r.take 4 ++ (r.drop 4).take 5 := by rw [← List.take_add]
  have h2 : (r.drop 4).take 5 = (r.drop 4).take 4 ++ ((r.drop 4).drop 4).take 1 := by rw [← List.take_add]
  rw [h1, h2, List.drop_drop]
theorem entB_entN {r : List UInt8} (h : 9 ≤ r.length) (hl : num ((r.drop 8).take 1) ≤ 1) : entB (entN r) = r.take 9 := by
  have e1 := le_cut r 0 4 (by omega)
  rw [List.drop_zero] at e1
  have e2 := le_cut r 4 4 (by omega)
  have e3 := le_cut r 8 1 (by omega)
  have e4 : lsN (num ((r.drop 8).take 1) == 1) = num ((r.drop 8).take 1) := by
    generalize num ((r.drop 8).take 1) = x at *
    rcases (show x = 0 ∨ x = 1 by omega) with rfl | rfl <;> rfl
  rw [take_three]
  show le 4 ((num (r.take 4) : Nat) : Int).toNat ++ (le 4 ((num ((r.drop 4).take 4) : Nat) : Int).toNat ++ le 1 (lsN (num ((r.drop 8).take 1) == 1))) = _
  rw [Int.toNat_natCast, Int.toNat_natCast, e4, e1, e2, e3]
theorem entsN_enc (r : List UInt8) : ∀ n, n * 9 ≤ r.length → (∀ k, k < n → lostAt r k ≤ 1) → encT (entsN r n) = r.take (n * 9)
  | 0, _, _ => by simp [entsN, encT]
  | n + 1, h, hl => by
    have ih := entsN_enc r n (by omega) fun k hk => hl k (by omega)
    have h9 : entB (entN (r.drop (n * 9))) = (r.drop (n * 9)).take 9 := entB_entN (by rw [List.length_drop]; omega) (by
      have := hl n (by omega)
      unfold lostAt at this
      rw [List.drop_drop]
      exact this)
    rw [entsN_next, show encT (entsN r n ++ [entN (r.drop (n * 9))]) = encT (entsN r n) ++ entB (entN (r.drop (n * 9))) by simp [encT], ih, h9, ← List.take_add]
    congr 1
    omega
theorem num_four {n : Int} (h : 0 ≤ n ∧ n ≤ 4294967295) : ((num (le 4 n.toNat) : Nat) : Int) = n := by rw [num_le _ _ (by omega)]; omega
theorem cut_left (x y z : List UInt8) (k n : Nat) (hk : x.length = k) (hn : y.length = n) : ((x ++ (y ++ z)).drop k).take n = y := by
  subst hk hn
  rw [List.drop_left, List.take_left]
theorem entN_parts (e : Ent) (r : List UInt8) : (entB e ++ r).take 4 = le 4 e.st.toNat ∧ ((entB e ++ r).drop 4).take 4 = le 4 e.sm.toNat ∧ ((entB e ++ r).drop 8).take 1 = le 1 (lsN e.ls) := by
  have h : entB e ++ r = le 4 e.st.toNat ++ (le 4 e.sm.toNat ++ (le 1 (lsN e.ls) ++ r)) := by simp [entB, List.append_assoc]
  rw [h]
  refine ⟨?_, cut_left _ _ _ 4 4 (le_length _ _) (le_length _ _), ?_⟩
  · have := cut_left [] (le 4 e.st.toNat) (le 4 e.sm.toNat ++ (le 1 (lsN e.ls) ++ r)) 0 4 rfl (le_length _ _)
    simpa using this
  · rw [← List.append_assoc]
    exact cut_left _ _ _ 8 1 (by rw [List.length_append, le_length, le_length]) (le_length _ _)
theorem entN_entB {e : Ent} (h : EntOk e) (r : List UInt8) : entN (entB e ++ r) = e := by
  obtain ⟨p1, p2, p3⟩ := entN_parts e r
  unfold entN
  rw [p1, p2, p3, num_four h.1, num_four h.2, num_le 1 _ (by have := lsN_le e.ls; omega), lsN_eq]
theorem encT_drop {es : List Ent} {k : Nat} {e : Ent} (h : es[k]? = some e) : ∃ r, (encT es).drop (k * 9) = entB e ++ r := by
  induction es generalizing k with
  | nil => simp at h
  | cons x es ih =>
    have hx : encT (x :: es) = entB x ++ encT es := by simp [encT]
    rw [hx]
    cases k with
    | zero =>
      simp only [List.getElem?_cons_zero, Option.some.injEq] at h
      subst h
      exact ⟨encT es, by simp⟩
    | succ k =>
      obtain ⟨r, hr⟩ := ih (by simpa using h)
      refine ⟨r, ?_⟩
      rw [← hr, show (k + 1) * 9 = (entB x).length + k * 9 by rw [entB_length]; omega, ← List.drop_drop, List.drop_left]
theorem entsN_of {es : List Ent} (h : ∀ e ∈ es, EntOk e) : entsN (encT es) es.length = es := by
  refine List.ext_getElem? fun k => ?_
  by_cases hk : k < es.length
  · rw [entsN_get hk, List.getElem?_eq_getElem hk]
    obtain ⟨r, hr⟩ := encT_drop (List.getElem?_eq_getElem hk)
    rw [hr, entN_entB (h _ (List.getElem_mem hk))]
  · rw [List.getElem?_eq_none (by rw [entsN_length]; omega), List.getElem?_eq_none (by omega)]
theorem lost_of {es : List Ent} {k : Nat} {e : Ent} (h : es[k]? = some e) : lostAt (encT es) k = lsN e.ls := by
  obtain ⟨r, hr⟩ := encT_drop h
  unfold lostAt
  rw [← List.drop_drop, hr, (entN_parts e r).2.2, num_le 1 _ (by have := lsN_le e.ls; omega)]
theorem encT_inj {a b : List Ent} (ha : ∀ e ∈ a, EntOk e) (hb : ∀ e ∈ b, EntOk e) (h : encT a = encT b) : a = b := by
  have hl : a.length = b.length := by
    have := congrArg List.length h
    rw [encT_length, encT_length] at this
    omega
  rw [← entsN_of ha, ← entsN_of hb, h, hl]
/-- Whose bytes they are: of the one that they say, or of none. -/
def Told (d : Int) (b : List UInt8) : Prop := (b.length : Int) = 9 * (d + 1) ∧ (∀ k : Nat, (k : Int) ≤ d → lostAt b k ≤ 1) ∧ Good d (entsN b (d.toNat + 1))
theorem told_of {d : Int} {es : List Ent} (hd : 0 ≤ d) (h : Good d es) : Told d (encT es) ∧ entsN (encT es) (d.toNat + 1) = es := by
  obtain ⟨h1, h2, h3⟩ := h
  have hl : d.toNat + 1 = es.length := by omega
  have he : entsN (encT es) (d.toNat + 1) = es := by rw [hl]; exact entsN_of h2
  refine ⟨⟨by rw [encT_length]; omega, fun k hk => ?_, by rw [he]; exact ⟨h1, h2, h3⟩⟩, he⟩
  have hk2 : k < es.length := by omega
  rw [lost_of (List.getElem?_eq_getElem hk2)]
  exact lsN_le _
theorem of_told {d : Int} {b : List UInt8} (hd : 0 ≤ d) (h : Told d b) : b = encT (entsN b (d.toNat + 1)) := by
  obtain ⟨h1, h2, -⟩ := h
  rw [entsN_enc b (d.toNat + 1) (by omega) fun k hk => h2 k (by omega), List.take_of_length_le (by omega)]
end Go.Proofs.Ytajjmllolaajoaa.tbl
