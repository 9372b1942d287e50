/-
  An anchor of one's own, one of its places or one of its next spares written over. Conditions: each law's own.
-/
import Derived.Test.YthdahdopejapmaaGAn
namespace Go.Proofs.Ythdahdopejapmaa.anc
open Go.RowKit Go.Lib

theorem set_self {α : Type} (l : List α) (j : Nat) (x : α) (h : l[j]? = some x) : l.set j x = l := by
  obtain ⟨hj, rfl⟩ := List.getElem?_eq_some_iff.1 h
  exact List.set_getElem_self hj
theorem flat_set {α β : Type} (f : α → List β) (k : Nat) (hk : ∀ x, (f x).length = k) : ∀ (l : List α) (j i : Nat) (x : α) (v : β), i < k → (∀ y, l[j]? = some y → f x = (f y).set i v) → (l.set j x).flatMap f = (l.flatMap f).set (j * k + i) v
  | [], j, i, x, v, _, _ => by simp
  | y :: l, 0, i, x, v, hi, h => by
    rw [List.set_cons_zero, List.flatMap_cons, List.flatMap_cons, h y rfl, Nat.zero_mul, Nat.zero_add, List.set_append_left _ _ (by rw [hk]; exact hi)]
  | y :: l, j + 1, i, x, v, hi, h => by
    rw [List.set_cons_succ, List.flatMap_cons, List.flatMap_cons, List.set_append_right _ _ (by rw [hk, Nat.succ_mul]; omega), hk, show (j + 1) * k + i - k = j * k + i by rw [Nat.succ_mul]; omega, flat_set f k hk l j i x v hi (fun z hz => h z hz)]
theorem hvs_same {hs : List HomR} {j : Nat} {r r' : HomR} (hj : hs[j]? = some r) (h : r'.vs = r.vs) : hvs (hs.set j r') = hvs hs := by
  have e := flat_set HomR.vs 3 (fun _ => rfl) hs j 0 r' (.slice r.A r.ps.length r.c) (by omega) (fun y hy => by
    rw [hj] at hy
    obtain rfl := Option.some.inj hy
    rw [h]
    rfl)
  unfold hvs
  rw [e]
  exact set_self _ _ _ (by rw [flat_get HomR.vs 3 (fun _ => rfl) hs j 0 (by omega), hj]; rfl)
theorem hvs_next {hs : List HomR} {j : Nat} {r : HomR} (hj : hs[j]? = some r) (x : Int) : hvs (hs.set j { r with nx := x }) = (hvs hs).set (j * 3 + 1) (.int .i64 x) :=
  flat_set HomR.vs 3 (fun _ => rfl) hs j 1 { r with nx := x } (.int .i64 x) (by omega) (fun y hy => by
    rw [hj] at hy
    obtain rfl := Option.some.inj hy
    rfl)
theorem ints_set (l : List Int) (k : Nat) (x : Int) : ints (l.set k x) = (ints l).set k (.int .i64 x) := by simp [ints, List.map_set]
theorem Parted.apart {rs : List HomR} (h : Parted rs) {i j : Nat} {r q : HomR} (hi : rs[i]? = some r) (hj : rs[j]? = some q) (hne : i ≠ j) : ∀ a b, r.A = some a → q.A = some b → a.block ≠ b.block := by
  obtain ⟨hi', rfl⟩ := List.getElem?_eq_some_iff.1 hi
  obtain ⟨hj', rfl⟩ := List.getElem?_eq_some_iff.1 hj
  have hp := List.pairwise_iff_getElem.1 h
  intro a b ha hb
  rcases Nat.lt_or_ge i j with k | k
  · exact hp i j hi' hj' k a b ha hb
  · exact fun e => hp j i hj' hi' (by omega) b a hb ha e.symm
theorem Parted.set {rs : List HomR} (h : Parted rs) {j : Nat} {r r' : HomR} (hj : rs[j]? = some r) (e : r'.A = r.A) : Parted (rs.set j r') := by
  obtain ⟨hj', rfl⟩ := List.getElem?_eq_some_iff.1 hj
  refine List.pairwise_iff_getElem.2 fun i k hi hk hik a b ha hb => ?_
  rw [List.length_set] at hi hk
  have hA : ∀ (m : Nat) (hm : m < rs.length), ((rs.set j r')[m]'(by rw [List.length_set]; exact hm)).A = rs[m].A := fun m hm => by
    rw [List.getElem_set]
    split
    · rename_i hh
      subst hh
      exact e
    · rfl
  rw [hA i hi] at ha
  rw [hA k hk] at hb
  exact List.pairwise_iff_getElem.1 h i k hi hk hik a b ha hb
section
variable {w : World} {base j : Nat} {y : AV} {r : HomR}
end
end Go.Proofs.Ythdahdopejapmaa.anc
