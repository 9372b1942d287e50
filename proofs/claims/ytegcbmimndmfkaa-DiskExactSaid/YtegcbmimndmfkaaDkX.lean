/-
  Bytes turned (seal.Flip, casemateref01.Flip), as an answer. Conditions: byte strings shorter than 2^20.
-/
import Derived.Test.YtegcbmimndmfkaaDkNw
import Derived.Test.YtegcbmimndmfkaaGSeal
namespace Go.Proofs.Ytegcbmimndmfkaa.dsk
open Go.RowKit Go.Lib
open Go.Proofs.Ytegcbmimndmfkaa.crc (TurnedAll)
open Go.Proofs.Ytegcbmimndmfkaa.sel (place maskOf FlipAns flip_all ref_flip_all turned_same turned_twice)

/-- What comes of bytes whose bits are turned. -/
noncomputable def flipd (l : List UInt8) (bit bits : Int) : List UInt8 := open Classical in if h : ∃ out, TurnedAll l out (place bit l.length) (maskOf bits) then h.choose else l
theorem flipd_eq {l out : List UInt8} {bit bits : Int} (h : TurnedAll l out (place bit l.length) (maskOf bits)) : out = flipd l bit bits := by
  unfold flipd
  rw [dif_pos ⟨out, h⟩]
  exact turned_same h (Exists.choose_spec (⟨out, h⟩ : ∃ out, TurnedAll l out (place bit l.length) (maskOf bits)))
theorem flip_row {w' : World} {base : Nat} {l : List UInt8} {bit bits : Int} {e : Ending} (h : FlipAns base l (place bit l.length) (maskOf bits) e w') : ∃ r : Row, e = .returned r.v ∧ r.l = flipd l bit bits ∧ r.l.length = l.length ∧ RIn w' w'.heap.size r ∧ TurnedAll l r.l (place bit l.length) (maskOf bits) := by
  obtain ⟨out, ht, v, rfl, ho⟩ := h
  obtain ⟨Y, y, rfl, -, -, -, -⟩ := id ho.form
  exact ⟨⟨Y, y, out⟩, rfl, flipd_eq ht, ht.1, own_rin (r := ⟨Y, y, out⟩) ho, ht⟩
theorem flip_c (b : Row) (bit bits : Int) (w : World) (hb : RIn w w.heap.size b) (hl : b.l.length ≤ 1048576) :
    Calls Try.prog 38 #[.slice b.A b.l.length b.c, .int .i64 bit, .int .i64 bits] w fun e w' => (∃ r : Row, e = .returned r.v ∧ r.l = flipd b.l bit bits ∧ r.l.length = b.l.length ∧ RIn w' w'.heap.size r ∧ TurnedAll b.l r.l (place bit b.l.length) (maskOf bits)) ∧ Below w.heap.size w w' :=
  (flip_all b.A b.c _ b.l.length b.l bit bits w rfl hb.1 hl).mono fun _ _ h => ⟨flip_row h.1, h.2⟩
theorem rflip_c (b : Row) (bit bits : Int) (w : World) (hb : RIn w w.heap.size b) (hl : b.l.length ≤ 1048576) :
    Calls Try.prog 44 #[.slice b.A b.l.length b.c, .int .i64 bit, .int .i64 bits] w fun e w' => (∃ r : Row, e = .returned r.v ∧ r.l = flipd b.l bit bits ∧ r.l.length = b.l.length ∧ RIn w' w'.heap.size r ∧ TurnedAll b.l r.l (place bit b.l.length) (maskOf bits)) ∧ Below w.heap.size w w' :=
  (ref_flip_all b.A b.c _ b.l.length b.l bit bits w rfl hb.1 hl).mono fun _ _ h => ⟨flip_row h.1, h.2⟩
end Go.Proofs.Ytegcbmimndmfkaa.dsk
