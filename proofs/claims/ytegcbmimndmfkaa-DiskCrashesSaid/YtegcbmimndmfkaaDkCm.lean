/-
  Lists of byte strings for the law DiskCrashes: what TwinRows hands back, as a block of its own. Conditions: as each says.
-/
import Derived.Test.YtegcbmimndmfkaaDkKm
import Derived.Test.YtegcbmimndmfkaaDkCp
namespace Go.Proofs.Ytegcbmimndmfkaa.dsk
open Go.RowKit Go.Lib

section
variable {W : World} {g : Nat} {rs : List Row}
theorem Want.slv (h : Want W g rs) : SlV W W.heap.size (some ⟨g, 0, none⟩) (vals rs) := fun _ => by
  refine ⟨g, 0, rfl, h.hi, fun i hi => ?_⟩
  have hi2 : i < rs.length := by rwa [vals_length] at hi
  rw [vals_get, Nat.zero_add]
  exact h.c i _ (List.getElem?_eq_getElem hi2)
theorem want_of {base n : Nat} {v : Value} {ls : List (List UInt8)} (h : OwnRows W base v rs ls) (hn : ls.length = n) (h0 : 0 < n) :
    ∃ g c, v = .slice (some ⟨g, 0, none⟩) n c ∧ n ≤ c ∧ c ≤ maxLen ∧ base ≤ g ∧ g < W.heap.size ∧ Want W g rs ∧ lists rs = ls ∧ ∀ r ∈ rs, RIn W W.heap.size r := by
  obtain ⟨h1, h2, h3⟩ := id h
  have hl := h.len
  obtain ⟨g, c, rfl, k1, k2, k3, k4⟩ := OwnV.at h1 (by rw [vals_length]; omega)
  have hv : (vals rs).length = n := by rw [vals_length]; omega
  rw [hv] at h1 k1 ⊢
  refine ⟨g, c, rfl, k1, k2, k3, k4, ⟨fun a x hx => ?_, fun a => OwnV.frozen hv h1 a, k4⟩, h2, fun r hr => own_rin (h3 r hr)⟩
  obtain ⟨ha, rfl⟩ := List.getElem?_eq_some_iff.1 hx
  have hc := OwnV.cell h1 a (by rw [vals_length]; exact ha)
  rw [hc, vals_get]
end
end Go.Proofs.Ytegcbmimndmfkaa.dsk
