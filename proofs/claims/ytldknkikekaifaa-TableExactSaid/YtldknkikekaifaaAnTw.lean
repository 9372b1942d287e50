/-
  casematekeep.TwinAnchor: an anchor like it, its homes all of one's own. Conditions: rows shorter than 2^20.
-/
import Derived.Test.YtldknkikekaifaaAnT
import Derived.Test.YtldknkikekaifaaTail
namespace Go.Proofs.Ytldknkikekaifaa.anc
open Go.RowKit Go.Lib

/-- No two homes' places lie in one block. -/
def Parted (rs : List HomR) : Prop := rs.Pairwise fun r q => ∀ a b, r.A = some a → q.A = some b → a.block ≠ b.block
theorem parted_nil : Parted [] := List.Pairwise.nil
theorem Parted.more {rs : List HomR} {r : HomR} {B : Nat} (h : Parted rs) (hlt : ∀ q ∈ rs, ∀ a, q.A = some a → a.block < B) (hr : ∀ a, r.A = some a → B ≤ a.block) : Parted (rs ++ [r]) := by
  refine List.pairwise_append.2 ⟨h, List.pairwise_singleton _ _, fun q hq u hu => ?_⟩
  obtain rfl := List.mem_singleton.1 hu
  intro a b ha hb hab
  have h1 := hlt q hq a ha
  have h2 := hr b hb
  omega
theorem own_ge {w : World} {base : Nat} {e : TypeId} {A : Option Addr} {n c : Nat} {vs : List Value} (h : OwnV w base e (.slice A n c) vs) (a : Addr) (ha : A = some a) : base ≤ a.block ∧ a.block < w.heap.size := World.ownsRow.lt h a.block (by rw [ha]; rfl)
end Go.Proofs.Ytldknkikekaifaa.anc
