/-
  An argument that is a list of truths: its cells. Conditions: none.
-/
import Derived.Test.YthdahdopejapmaaGZn
import Derived.Test.YthdahdopejapmaaOpen
import Derived.Deep.Grids
namespace Go.Proofs.Ythdahdopejapmaa.zon
open Go.RowKit Go.Lib
open Go.ChangeShapes Go.WideShapes

section
variable {H : Type} {enc : TypeId × Value → H} {P : Program} {W : World}
theorem open_bools {t e : TypeId} {v : Value} {d : DataW H} {p : List MemPlace} {base : Nat} (ht : P.underlying t = some (.slice e)) (he : P.underlying e = some .bool) (hc : P.cellsOf e = 1)
    (hv : Value.okWide P W .any base t v) (h : DataW.Trod enc P W 0 (fun _ => true) true t v d p) :
    ∃ A c l, v = .slice A (List.length l) c ∧ l.length ≤ c ∧ c ≤ maxLen ∧ SlV W W.heap.size A (bools l) := by
  obtain ⟨a, len, cap, rfl⟩ := okWide_slice ht hv
  obtain ⟨fuel, hf⟩ := h
  rcases Go.Deep.open_bools ht he hc hf with ⟨hcs, _⟩ | ⟨x, l, c, B, hcs, _, hl, hm, _, hx⟩
  · simp [Value.cells] at hcs
    obtain ⟨rfl, rfl, rfl⟩ := hcs
    exact ⟨none, 0, [], rfl, Nat.le_refl _, Nat.zero_le _, SlV.nil _ _ _⟩
  · simp [Value.cells] at hcs
    obtain ⟨rfl, rfl, rfl⟩ := hcs
    have hlen : ((List.range len).map B).length = len := by simp
    refine ⟨some x, cap, (List.range len).map B, by rw [hlen], by omega, hm, fun hp => ?_⟩
    rw [bools_length, hlen] at hp
    obtain ⟨b, off, spot⟩ := x
    have h0 := hx 0 (by omega)
    have hspot : spot = none := by simpa [Addr.add] using World.cell?_spot h0
    subst hspot
    refine ⟨b, off, rfl, ?_, fun j hj => ?_⟩
    · have := World.block_lt_of_cell? W _ h0
      rwa [Go.WideShapes.add_plain] at this
    · have hj' : j < len := by rw [bools_length, hlen] at hj; exact hj
      have := hx j (by omega)
      rw [Go.WideShapes.add_plain] at this
      rw [this]
      simp [bools]
end
end Go.Proofs.Ythdahdopejapmaa.zon
