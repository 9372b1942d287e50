/-
  A full zone of which many are missed: what is left, how many were missed, what is known then. Plain mathematics; no condition.
-/
import Derived.Test.YtajjmllolaajoaaZnP
namespace Go.Proofs.Ytajjmllolaajoaa.zon

/-- Is one missed that was had? -/
def mis (ms : List Bool) (all : List (List UInt8)) (k : Nat) : Prop := isLost ms k = true ∧ hadK all k ≠ []
instance (ms : List Bool) (all : List (List UInt8)) (k : Nat) : Decidable (mis ms all k) := by unfold mis; infer_instance
/-- What is left when the first k have been looked at; how many were missed. -/
def left (ms : List Bool) (all : List (List UInt8)) : Nat → List (List UInt8)
  | 0 => all
  | k + 1 => if mis ms all k then (left ms all k).set k [] else left ms all k
def cnt (ms : List Bool) (all : List (List UInt8)) : Nat → Nat
  | 0 => 0
  | k + 1 => cnt ms all k + if mis ms all k then 1 else 0
variable {ms : List Bool} {all : List (List UInt8)}
theorem left_length : ∀ k, (left ms all k).length = all.length
  | 0 => rfl
  | k + 1 => by
    unfold left
    split
    · rw [List.length_set, left_length k]
    · exact left_length k
theorem left_get : ∀ k, k ≤ all.length → ∀ i, hadK (left ms all k) i = if i < k ∧ mis ms all i then [] else hadK all i
  | 0, _, i => by rw [if_neg (by omega)]; rfl
  | k + 1, hk, i => by
    have ih := left_get k (by omega) i
    unfold left
    by_cases hm : mis ms all k
    · rw [if_pos hm, hadK_set [] (by rw [left_length]; omega) i]
      by_cases hik : i = k
      · rw [if_pos hik, if_pos ⟨by omega, by rw [hik]; exact hm⟩]
      · rw [if_neg hik, ih]
        by_cases h : i < k ∧ mis ms all i
        · rw [if_pos h, if_pos ⟨by omega, h.2⟩]
        · rw [if_neg h, if_neg fun h2 => h ⟨by omega, h2.2⟩]
    · rw [if_neg hm, ih]
      by_cases h : i < k ∧ mis ms all i
      · rw [if_pos h, if_pos ⟨by omega, h.2⟩]
      · rw [if_neg h, if_neg fun h2 => by
          by_cases hik : i = k
          · exact hm (by rw [← hik]; exact h2.2)
          · exact h ⟨by omega, h2.2⟩]
theorem left_same {k : Nat} (hk : k < all.length) : hadK (left ms all k) k = hadK all k := by rw [left_get k (by omega) k, if_neg (by omega)]
theorem left_had {n : Nat} (h : HadOk n all) : ∀ k, HadOk n (left ms all k)
  | 0 => h
  | k + 1 => by
    unfold left
    split
    · exact had_set (left_had h k) k
    · exact left_had h k
theorem left_missed (k : Nat) (hk : k ≤ all.length) : Missed all (left ms all k) := fun i => by
  rw [left_get k hk i]
  split
  · exact .inr rfl
  · exact .inl rfl
theorem cnt_le : ∀ k, cnt ms all k ≤ k
  | 0 => Nat.le_refl _
  | k + 1 => by
    have := cnt_le k
    unfold cnt
    split <;> omega
theorem cnt_one {i : Nat} (hi : mis ms all i) : ∀ k, i < k → 1 ≤ cnt ms all k
  | 0, h => by omega
  | k + 1, h => by
    unfold cnt
    by_cases hik : i = k
    · rw [← hik, if_pos hi]; omega
    · have := cnt_one hi k (by omega); omega
theorem cnt_two {i j : Nat} (hi : mis ms all i) (hj : mis ms all j) (hij : i < j) : ∀ k, j < k → 2 ≤ cnt ms all k
  | 0, h => by omega
  | k + 1, h => by
    unfold cnt
    by_cases hjk : j = k
    · rw [← hjk, if_pos hj]; have := cnt_one hi j hij; omega
    · have := cnt_two hi hj hij k (by omega); omega
theorem one_cnt : ∀ k, 1 ≤ cnt ms all k → ∃ i, i < k ∧ mis ms all i
  | 0, h => by simp [cnt] at h
  | k + 1, h => by
    unfold cnt at h
    by_cases hm : mis ms all k
    · exact ⟨k, by omega, hm⟩
    · rw [if_neg hm] at h
      obtain ⟨i, h1, h2⟩ := one_cnt k (by omega)
      exact ⟨i, by omega, h2⟩
theorem two_cnt : ∀ k, 2 ≤ cnt ms all k → ∃ i j, i < j ∧ j < k ∧ mis ms all i ∧ mis ms all j
  | 0, h => by simp [cnt] at h
  | k + 1, h => by
    unfold cnt at h
    by_cases hm : mis ms all k
    · rw [if_pos hm] at h
      obtain ⟨i, h1, h2⟩ := one_cnt (ms := ms) (all := all) k (by omega)
      exact ⟨i, k, h1, by omega, h2, hm⟩
    · rw [if_neg hm] at h
      obtain ⟨i, j, h1, h2, h3, h4⟩ := two_cnt k (by omega)
      exact ⟨i, j, h1, by omega, h3, h4⟩
/-- What is known of one of a full zone of which many are missed. -/
theorem two_known {st : Int} {bs : List (List UInt8)} {ls : List Bool} {D K i : Nat} (hK : K ≤ D + 1) (hi : i ≤ D) (hl : lostK (fullE st bs ls D) i = false) :
    known (D + 1) (fullE st bs ls D) (left ms (fullH bs ls D) K) i = if hadK (left ms (fullH bs ls D) K) i = [] ∧ 2 ≤ cnt ms (fullH bs ls D) K then [] else hadK (fullH bs ls D) i := by
  have hlen : (fullH bs ls D).length = D + 1 := fullH_length _ _ _
  have h8 : ∀ j, j ≤ D → lostK (fullE st bs ls D) j = false → hadK (fullH bs ls D) j ≠ [] := fun j hj h => by
    rcases full_each (st := st) (bs := bs) (ls := ls) hj with ⟨h1, -⟩ | ⟨-, h1, -⟩
    · rw [h] at h1; cases h1
    · intro h0; rw [h0] at h1; cases h1
  have hnl : ∀ j, j ≤ D → hadK (fullH bs ls D) j ≠ [] → lostK (fullE st bs ls D) j = false := fun j hj h => by
    rcases full_each (st := st) (bs := bs) (ls := ls) hj with ⟨-, h1⟩ | ⟨h1, -⟩
    · exact absurd h1 h
    · exact h1
  have hmd := left_missed (ms := ms) (all := fullH bs ls D) K (by omega)
  by_cases h0 : hadK (left ms (fullH bs ls D) K) i = []
  · have hmi : i < K ∧ mis ms (fullH bs ls D) i := by
      rw [left_get K (by omega) i] at h0
      by_cases h : i < K ∧ mis ms (fullH bs ls D) i
      · exact h
      · rw [if_neg h] at h0; exact absurd h0 (h8 i hi hl)
    by_cases h2 : 2 ≤ cnt ms (fullH bs ls D) K
    · rw [if_pos ⟨h0, h2⟩]
      obtain ⟨a, b, hab, hb, ha1, hb1⟩ := two_cnt K h2
      have hgap : ∀ j, j < K → j ≠ i → mis ms (fullH bs ls D) j → known (D + 1) (fullE st bs ls D) (left ms (fullH bs ls D) K) i = [] := fun j hj hji hm =>
        known_gap (k := j) (by omega) hji (hnl j (by omega) hm.2) (by rw [left_get K (by omega) j, if_pos ⟨hj, hm⟩]) h0
      by_cases hai : a = i
      · exact hgap b hb (by omega) hb1
      · exact hgap a (by omega) hai ha1
    · rw [if_neg fun h => h2 h.2]
      refine known_full hmd hi (fun j hj hji hlj hz => ?_) hl
      have hmj : j < K ∧ mis ms (fullH bs ls D) j := by
        rw [left_get K (by omega) j] at hz
        by_cases h : j < K ∧ mis ms (fullH bs ls D) j
        · exact h
        · rw [if_neg h] at hz; exact absurd hz (h8 j hj hlj)
      rcases Nat.lt_or_gt_of_ne hji with h | h
      · exact h2 (cnt_two hmj.2 hmi.2 h K hmi.1)
      · exact h2 (cnt_two hmi.2 hmj.2 h K hmj.1)
  · rw [if_neg fun h => h0 h.1, known_had hl h0]
    exact (hmd i).resolve_right h0
end Go.Proofs.Ytajjmllolaajoaa.zon
