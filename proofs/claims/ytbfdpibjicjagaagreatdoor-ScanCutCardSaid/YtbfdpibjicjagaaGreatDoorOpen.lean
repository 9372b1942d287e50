/-
  What an argument is, read off the row's own words: a slice of bytes, a slice of integers. Conditions: each one's own.
-/
import Derived.Test.YtbfdpibjicjagaaGreatDoorBytes
import Derived.ProofKit
import Derived.OpenShut
import Derived.ChangeOld
namespace Go.Proofs.YtbfdpibjicjagaaGreatDoor
open Go.ChangeShapes Go.WideShapes Go.ChangeAt Go.RowKit
def SlK (k : IntKind) (w : World) (B : Nat) (A : Option Addr) (l : List Int) : Prop :=
 0 < l.length → ∃ b off, A = some ⟨b, off, none⟩ ∧ b < B ∧ ∀ j (h : j < l.length), w.cell? ⟨b, off + j, none⟩ = some (.int k l[j])
section
variable {H : Type} {enc : TypeId × Value → H} {P : Program} {W : World}
theorem open_row {t e : TypeId} {k : IntKind} {v : Value} {d : DataW H} {p : List MemPlace} {base : Nat} (ht : P.underlying t = some (.slice e)) (he : P.underlying e = some (.int k)) (hc : P.cellsOf e = 1)
  (hv : Value.okWide P W .any base t v) (h : DataW.Trod enc P W 0 (fun _ => true) true t v d p) :
  ∃ A c l, v = .slice A l.length c ∧ l.length ≤ c ∧ c ≤ maxLen ∧ SlK k W W.heap.size A l ∧ ∀ n ∈ l, (Lit.int k n).wf = true := by
 obtain ⟨a, len, cap, rfl⟩ := okWide_slice ht hv
 obtain ⟨fuel, hf⟩ := h
 rcases open_ints ht he hc hf with ⟨hcs, _⟩ | ⟨x, l, c, zs, hcs, _, hl, hm, hz, _, hcell, hwz⟩
 ·simp [Value.cells] at hcs
  obtain ⟨rfl, rfl, rfl⟩ := hcs
  exact ⟨none, 0, [], rfl, Nat.le_refl _, Nat.zero_le _, fun k => absurd k (by simp), fun n hn => by cases hn⟩
 ·simp [Value.cells] at hcs
  obtain ⟨rfl, rfl, rfl⟩ := hcs
  have hz' : zs.length = cap := by simpa using hz
  have hlen : (zs.take len).length = len := by rw [List.length_take]; omega
  refine ⟨some x, cap, zs.take len, by rw [hlen], by omega, hm, fun hp => ?_, fun n hn => hwz n (List.mem_of_mem_take hn)⟩
  rw [hlen] at hp
  obtain ⟨b, off, rfl, hcl⟩ := ints_at hcell (by omega)
  refine ⟨b, off, rfl, ?_, fun j hj => ?_⟩
  ·exact World.block_lt_of_cell? W _ (hcl 0 (by omega))
  ·rw [hlen] at hj
   rw [hcl j (by omega)]
   simp [List.getD, show j < zs.length by omega]
end
end Go.Proofs.YtbfdpibjicjagaaGreatDoor
