/-
  Disks that are only read; Heavy, Right at plain disks; remainders. No condition.
-/
import Derived.Test.YtegcbmimndmfkaaDkY
import Derived.Test.YtegcbmimndmfkaaDkS
import Derived.Test.YtegcbmimndmfkaaDkZ
namespace Go.Proofs.Ytegcbmimndmfkaa.dsk
open Go.RowKit Go.Lib

/-- A variable with a disk that is only read. -/
structure RefI (w : World) (base g : Nat) (y : DV) : Prop where
  r : Four w g (.slice y.CA y.cs.length y.cc) (.slice y.WA y.ws.length y.wc) (.int .i64 y.reqs) (.int .i64 y.left)
  i : y.In w base
  lo : base ≤ g
  hi : g < w.heap.size
theorem RefI.below {w w' : World} {base g : Nat} {y : DV} (h : RefI w base g y) (hb : Below w.heap.size w w') : RefI w' base g y :=
  ⟨h.r.keep hb h.hi, h.i.below (hb.mono (Nat.le_of_lt (Nat.lt_of_le_of_lt h.lo h.hi))), h.lo, Nat.lt_of_lt_of_le h.hi hb.size⟩
theorem RefI.in {w : World} {base g : Nat} {y : DV} (h : RefI w base g y) : y.In w w.heap.size := h.i.more (Nat.le_of_lt (Nat.lt_of_le_of_lt h.lo h.hi))
theorem refi_new {w : World} {y : DV} (h : y.In w w.heap.size) (t : TypeId) : RefI (w.alloc (.cells #[.slice y.CA y.cs.length y.cc, .slice y.WA y.ws.length y.wc, .int .i64 y.reqs, .int .i64 y.left] t)) w.heap.size w.heap.size y :=
  ⟨four_new w _ _ _ _ t, h.below (bl w _), Nat.le_refl _, by simp⟩
theorem heavy_p (d : DV) (w : World) (hd : d.In w w.heap.size) :
    Calls Try.prog 10 #[.agg #[.slice d.CA d.cs.length d.cc, .slice d.WA d.ws.length d.wc, .int .i64 d.reqs, .int .i64 d.left]] w fun e w' => (∃ b, e = .returned (.bool b) ∧ (b = false → Light d)) ∧ Below w.heap.size w w' := heavy_at d w hd
theorem right_p (d : DV) (w : World) (hd : d.In w w.heap.size) (b : Bool) (hb : decide (Valid d.d) = b) :
    Calls Try.prog 18 #[.agg #[.slice d.CA d.cs.length d.cc, .slice d.WA d.ws.length d.wc, .int .i64 d.reqs, .int .i64 d.left]] w fun e w' => e = .returned (.bool b) ∧ Below w.heap.size w w' := by
  subst hb
  exact right_at d w hd
theorem wrap_nonneg' (z : Int) : 0 ≤ IntKind.u64.wrap z := by
  simp [IntKind.wrap, IntKind.bits, IntKind.signed]
  omega
theorem wmod (z : Int) (m : Nat) (hm : 0 < m) : ∃ N : Nat, N < m ∧ (IntKind.u64.wrap z).tmod (m : Int) = (N : Int) := by
  have h0 := wrap_nonneg' z
  generalize IntKind.u64.wrap z = y at *
  refine ⟨(y.tmod m).toNat, ?_, ?_⟩
  · have := Int.tmod_lt_of_pos y (b := (m : Int)) (by omega)
    have := Int.tmod_nonneg (m : Int) h0
    omega
  · have := Int.tmod_nonneg (m : Int) h0
    omega
end Go.Proofs.Ytegcbmimndmfkaa.dsk
