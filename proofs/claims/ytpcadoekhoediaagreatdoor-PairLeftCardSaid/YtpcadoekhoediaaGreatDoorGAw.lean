/-
  casematekeep.TwinAnchor: an anchor like it, its homes all of one's own. Conditions: rows shorter than 2^20.
  An anchor of one's own, one of its places or one of its next spares written over. Conditions: each law's own.
-/
import Derived.Test.YtpcadoekhoediaaGreatDoorGAn
import Derived.Test.YtpcadoekhoediaaGreatDoorTail
namespace Go.Proofs.YtpcadoekhoediaaGreatDoor.anc
open Go.RowKit Go.Lib

/-- An anchor whose homes are one's own. -/
def AV.Own (w : World) (base : Nat) (y : AV) : Prop := OwnH w base (.slice y.HA y.hs.length y.hc) y.hs
theorem AV.Own.inn {w : World} {base : Nat} {y : AV} (h : AV.Own w base y) : y.In w w.heap.size := by
  obtain ⟨h1, h2, h3⟩ := ownH_in h
  exact ⟨h1, h2, h3⟩

/-- No two homes' places lie in one block. -/
def Parted (rs : List HomR) : Prop := rs.Pairwise fun r q => ∀ a b, r.A = some a → q.A = some b → a.block ≠ b.block
theorem parted_nil : Parted [] := List.Pairwise.nil
theorem Parted.more {rs : List HomR} {r : HomR} {B : Nat} (h : Parted rs) (hlt : ∀ q ∈ rs, ∀ a, q.A = some a → a.block < B) (hr : ∀ a, r.A = some a → B ≤ a.block) : Parted (rs ++ [r]) := by
  refine List.pairwise_append.2 ⟨h, List.pairwise_singleton _ _, fun q hq u hu => ?_⟩
  obtain rfl := List.mem_singleton.1 hu
  intro a b ha hb hab
  have h1 := hlt q hq a ha
  have h2 := hr b hb
  omega
theorem own_ge {w : World} {base : Nat} {e : TypeId} {A : Option Addr} {n c : Nat} {vs : List Value} (h : OwnV w base e (.slice A n c) vs) (a : Addr) (ha : A = some a) : base ≤ a.block ∧ a.block < w.heap.size := World.ownsRow.lt h a.block (by rw [ha]; rfl)
theorem OwnH.lt {w : World} {base : Nat} {v : Value} {rs : List HomR} (h : OwnH w base v rs) : ∀ q ∈ rs, ∀ a, q.A = some a → a.block < w.heap.size := fun q hq a ha => (own_ge (h.2 q hq) a ha).2

end Go.Proofs.YtpcadoekhoediaaGreatDoor.anc

namespace Go.Proofs.YtpcadoekhoediaaGreatDoor.anc
open Go.RowKit Go.Lib

theorem set_self {α : Type} (l : List α) (j : Nat) (x : α) (h : l[j]? = some x) : l.set j x = l := by
  obtain ⟨hj, rfl⟩ := List.getElem?_eq_some_iff.1 h
  exact List.set_getElem_self hj
theorem flat_set {α β : Type} (f : α → List β) (k : Nat) (hk : ∀ x, (f x).length = k) : ∀ (l : List α) (j i : Nat) (x : α) (v : β), i < k → (∀ y, l[j]? = some y → f x = (f y).set i v) → (l.set j x).flatMap f = (l.flatMap f).set (j * k + i) v
  | [], j, i, x, v, _, _ => by simp
  | y :: l, 0, i, x, v, hi, h => by
    rw [List.set_cons_zero, List.flatMap_cons, List.flatMap_cons, h y rfl, Nat.zero_mul, Nat.zero_add, List.set_append_left _ _ (by rw [hk]; exact hi)]
  | y :: l, j + 1, i, x, v, hi, h => by
    rw [List.set_cons_succ, List.flatMap_cons, List.flatMap_cons, List.set_append_right _ _ (by rw [hk, Nat.succ_mul]; omega), hk, show (j + 1) * k + i - k = j * k + i by rw [Nat.succ_mul]; omega, flat_set f k hk l j i x v hi (fun z hz => h z hz)]
theorem hvs_same {hs : List HomR} {j : Nat} {r r' : HomR} (hj : hs[j]? = some r) (h : r'.vs = r.vs) : hvs (hs.set j r') = hvs hs := by
  have e := flat_set HomR.vs 3 (fun _ => rfl) hs j 0 r' (.slice r.A r.ps.length r.c) (by omega) (fun y hy => by
    rw [hj] at hy
    obtain rfl := Option.some.inj hy
    rw [h]
    rfl)
  unfold hvs
  rw [e]
  exact set_self _ _ _ (by rw [flat_get HomR.vs 3 (fun _ => rfl) hs j 0 (by omega), hj]; rfl)
theorem hvs_next {hs : List HomR} {j : Nat} {r : HomR} (hj : hs[j]? = some r) (x : Int) : hvs (hs.set j { r with nx := x }) = (hvs hs).set (j * 3 + 1) (.int .i64 x) :=
  flat_set HomR.vs 3 (fun _ => rfl) hs j 1 { r with nx := x } (.int .i64 x) (by omega) (fun y hy => by
    rw [hj] at hy
    obtain rfl := Option.some.inj hy
    rfl)
theorem ints_set (l : List Int) (k : Nat) (x : Int) : ints (l.set k x) = (ints l).set k (.int .i64 x) := by simp [ints, List.map_set]
theorem Parted.apart {rs : List HomR} (h : Parted rs) {i j : Nat} {r q : HomR} (hi : rs[i]? = some r) (hj : rs[j]? = some q) (hne : i ≠ j) : ∀ a b, r.A = some a → q.A = some b → a.block ≠ b.block := by
  obtain ⟨hi', rfl⟩ := List.getElem?_eq_some_iff.1 hi
  obtain ⟨hj', rfl⟩ := List.getElem?_eq_some_iff.1 hj
  have hp := List.pairwise_iff_getElem.1 h
  intro a b ha hb
  rcases Nat.lt_or_ge i j with k | k
  · exact hp i j hi' hj' k a b ha hb
  · exact fun e => hp j i hj' hi' (by omega) b a hb ha e.symm
theorem Parted.set {rs : List HomR} (h : Parted rs) {j : Nat} {r r' : HomR} (hj : rs[j]? = some r) (e : r'.A = r.A) : Parted (rs.set j r') := by
  obtain ⟨hj', rfl⟩ := List.getElem?_eq_some_iff.1 hj
  refine List.pairwise_iff_getElem.2 fun i k hi hk hik a b ha hb => ?_
  rw [List.length_set] at hi hk
  have hA : ∀ (m : Nat) (hm : m < rs.length), ((rs.set j r')[m]'(by rw [List.length_set]; exact hm)).A = rs[m].A := fun m hm => by
    rw [List.getElem_set]
    split
    · rename_i hh
      subst hh
      exact e
    · rfl
  rw [hA i hi] at ha
  rw [hA k hk] at hb
  exact List.pairwise_iff_getElem.1 h i k hi hk hik a b ha hb
section
variable {w : World} {base j : Nat} {y : AV} {r : HomR}
/-- A home of one's own that has places: where they lie. -/
theorem AV.Own.row (h : y.Own w base) (hj : y.hs[j]? = some r) (hl : 0 < r.ps.length) : ∃ g, r.A = some ⟨g, 0, none⟩ ∧ OwnV w base 3 (.slice (some ⟨g, 0, none⟩) r.ps.length r.c) (ints r.ps) ∧ g < w.heap.size ∧ base ≤ g := by
  have hm := List.mem_of_getElem? hj
  have ho := h.2 r hm
  obtain ⟨g, c, hv, -, -, h1, h2⟩ := ho.at (by rw [ints_length]; exact hl)
  simp only [Value.slice.injEq] at hv
  obtain ⟨hA, -, -⟩ := hv
  exact ⟨g, hA, by rw [← hA]; exact ho, h2, h1⟩
theorem AV.Own.tab (h : y.Own w base) (hl : 0 < y.hs.length) : ∃ b, y.HA = some ⟨b, 0, none⟩ ∧ b < w.heap.size ∧ base ≤ b := by
  have h1 := h.1
  rcases h1.2 with ⟨e, -⟩ | ⟨g, cap, cur, e, -⟩
  · obtain ⟨h2, -⟩ := h1
    simp only [Value.slice.injEq] at e
    omega
  · simp only [Value.slice.injEq] at e
    obtain ⟨e, -, -⟩ := e
    have := World.ownsRow.lt h1 g (by rw [e]; rfl)
    exact ⟨g, e, this.2, this.1⟩
theorem AV.Own.set_place {g : Nat} (h : y.Own w base) (hp : Parted y.hs) (hj : y.hs[j]? = some r) (hg : r.A = some ⟨g, 0, none⟩) (k : Nat) (x : Int) :
    AV.Own (w.setCell ⟨g, k, none⟩ (.int .i64 x)) base { y with hs := y.hs.set j { r with ps := r.ps.set k x } } := by
  have hm := List.mem_of_getElem? hj
  have ho := h.2 r hm
  have hne : (Value.slice y.HA y.hs.length y.hc).ownBlock ≠ some g := by
    rcases row_apart ho h.1 int_home with k | k
    · rw [hg] at k
      cases k
    · intro e
      apply k
      rw [e, hg]
      rfl
  refine ⟨?_, fun q hq => ?_⟩
  · show World.ownsRow _ base 64 3 (.slice y.HA (y.hs.set j _).length y.hc) (y.hs.set j _).length (hvs (y.hs.set j _))
    rw [hvs_same (r' := { r with ps := r.ps.set k x }) hj (by unfold HomR.vs; simp), List.length_set]
    exact ownsRow_setCell_other h.1 hne _
  · obtain ⟨i, hi, rfl⟩ := List.mem_iff_getElem.1 hq
    rw [List.length_set] at hi
    rw [List.getElem_set]
    split
    · show OwnV _ base 3 (.slice r.A (r.ps.set k x).length r.c) (ints (r.ps.set k x))
      rw [ints_set, List.length_set, hg]
      rw [hg] at ho
      exact (OwnV.store (by rw [ints_length]) ho k (.int .i64 x)).1
    · rename_i hij
      refine ownsRow_setCell_other (h.2 _ (List.getElem_mem hi)) (fun e => ?_) _
      have := hp.apart hj (List.getElem?_eq_getElem hi) hij _ ⟨g, 0, none⟩ hg
      cases hA : (y.hs[i]).A with
      | none => rw [hA] at e; cases e
      | some b =>
        rw [hA] at e
        have e' : b.block = g := by simpa [Value.ownBlock] using e
        exact hp.apart hj (List.getElem?_eq_getElem hi) hij _ b hg hA e'.symm
theorem AV.Own.set_next {b : Nat} (h : y.Own w base) (hj : y.hs[j]? = some r) (hb : y.HA = some ⟨b, 0, none⟩) (x : Int) :
    AV.Own (w.setCell ⟨b, j * 3 + 1, none⟩ (.int .i64 x)) base { y with hs := y.hs.set j { r with nx := x } } := by
  have h1 := h.1
  refine ⟨?_, fun q hq => ?_⟩
  · show World.ownsRow _ base 64 3 (.slice y.HA (y.hs.set j _).length y.hc) (y.hs.set j _).length (hvs (y.hs.set j _))
    rw [hvs_next hj, List.length_set, hb]
    rw [hb] at h1
    exact (World.ownsRow.stored h1 (j * 3 + 1) (.int .i64 x)).1
  · have hk : ∀ u ∈ y.hs, OwnV (w.setCell ⟨b, j * 3 + 1, none⟩ (.int .i64 x)) base 3 (.slice u.A u.ps.length u.c) (ints u.ps) := fun u hu => by
      refine ownsRow_setCell_other (h.2 u hu) (fun e => ?_) _
      rcases row_apart (h.2 u hu) h1 int_home with k | k
      · rw [e] at k; cases k
      · exact k (by rw [e, hb]; rfl)
    obtain ⟨i, hi, rfl⟩ := List.mem_iff_getElem.1 hq
    rw [List.length_set] at hi
    rw [List.getElem_set]
    split
    · exact hk r (List.mem_of_getElem? hj)
    · exact hk _ (List.getElem_mem hi)
end
end Go.Proofs.YtpcadoekhoediaaGreatDoor.anc
