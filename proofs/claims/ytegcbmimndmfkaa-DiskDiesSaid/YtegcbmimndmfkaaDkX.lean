/-
  Bytes turned (seal.Flip, casemateref01.Flip), as an answer; a disk made anew (New, the program's). Conditions: byte strings shorter than 2^20.
-/
import Derived.Test.YtegcbmimndmfkaaDkCr
import Derived.Test.YtegcbmimndmfkaaSlF
namespace Go.Proofs.Ytegcbmimndmfkaa.dsk
open Go.RowKit Go.Lib
open Go.Proofs.Ytegcbmimndmfkaa.crc (TurnedAll)
open Go.Proofs.Ytegcbmimndmfkaa.sel (place maskOf FlipAns flip_all ref_flip_all turned_same turned_twice)

/-- What comes of bytes whose bits are turned. -/
noncomputable def flipd (l : List UInt8) (bit bits : Int) : List UInt8 := open Classical in if h : ∃ out, TurnedAll l out (place bit l.length) (maskOf bits) then h.choose else l
theorem flipd_eq {l out : List UInt8} {bit bits : Int} (h : TurnedAll l out (place bit l.length) (maskOf bits)) : out = flipd l bit bits := by
  unfold flipd
  rw [dif_pos ⟨out, h⟩]
  exact turned_same h (Exists.choose_spec (⟨out, h⟩ : ∃ out, TurnedAll l out (place bit l.length) (maskOf bits)))
theorem flip_row {w' : World} {base : Nat} {l : List UInt8} {bit bits : Int} {e : Ending} (h : FlipAns base l (place bit l.length) (maskOf bits) e w') : ∃ r : Row, e = .returned r.v ∧ r.l = flipd l bit bits ∧ r.l.length = l.length ∧ RIn w' w'.heap.size r ∧ TurnedAll l r.l (place bit l.length) (maskOf bits) := by
  obtain ⟨out, ht, v, rfl, ho⟩ := h
  obtain ⟨Y, y, rfl, -, -, -, -⟩ := id ho.form
  exact ⟨⟨Y, y, out⟩, rfl, flipd_eq ht, ht.1, own_rin (r := ⟨Y, y, out⟩) ho, ht⟩
theorem flip_c (b : Row) (bit bits : Int) (w : World) (hb : RIn w w.heap.size b) (hl : b.l.length ≤ 1048576) :
    Calls Try.prog 38 #[.slice b.A b.l.length b.c, .int .i64 bit, .int .i64 bits] w fun e w' => (∃ r : Row, e = .returned r.v ∧ r.l = flipd b.l bit bits ∧ r.l.length = b.l.length ∧ RIn w' w'.heap.size r ∧ TurnedAll b.l r.l (place bit b.l.length) (maskOf bits)) ∧ Below w.heap.size w w' :=
  (flip_all b.A b.c _ b.l.length b.l bit bits w rfl hb.1 hl).mono fun _ _ h => ⟨flip_row h.1, h.2⟩
theorem rflip_c (b : Row) (bit bits : Int) (w : World) (hb : RIn w w.heap.size b) (hl : b.l.length ≤ 1048576) :
    Calls Try.prog 44 #[.slice b.A b.l.length b.c, .int .i64 bit, .int .i64 bits] w fun e w' => (∃ r : Row, e = .returned r.v ∧ r.l = flipd b.l bit bits ∧ r.l.length = b.l.length ∧ RIn w' w'.heap.size r ∧ TurnedAll b.l r.l (place bit b.l.length) (maskOf bits)) ∧ Below w.heap.size w w' :=
  (ref_flip_all b.A b.c _ b.l.length b.l bit bits w rfl hb.1 hl).mono fun _ _ h => ⟨flip_row h.1, h.2⟩

theorem new_at (n : Int) (w : World) :
    Calls Try.prog 28 #[.int .i64 n] w fun e w' => Wd w.heap.size (newA n) e w' ∧ Below w.heap.size w w' := by
  have Q0 := four_new w (.slice none 0 0) (.slice none 0 0) (.int .i64 0) (.int .i64 0) 25
  have B0 := bl w (.cells #[.slice none 0 0, .slice none 0 0, .int .i64 0, .int .i64 0] 25)
  have S0 : (w.alloc (.cells #[.slice none 0 0, .slice none 0 0, .int .i64 0, .int .i64 0] 25)).heap.size = w.heap.size + 1 := by simp
  unfold newA
  by_cases h : 1 ≤ n ∧ n ≤ 300
  · rw [if_pos h]
    obtain ⟨k, rfl⟩ : ∃ k : Nat, n = k := ⟨n.toNat, by omega⟩
    have mc := make_cells k (by omega)
    have h1 : ¬ ((k : Int) < 1) := by omega
    have h2 : ¬ (300 < (k : Int)) := by omega
    go_enter Try.func28, Try.ntmps28
    go_wp2_with fail
    have k4 := (four_new w (.slice (some ⟨w.heap.size + 1, 0, none⟩) k k) (.slice none 0 0) (.int .i64 0) (.int .i64 (-1)) 25).alloc (by simp) (.cells (zcs k) 64)
    have hB := kal (bl w (.cells #[.slice (some ⟨w.heap.size + 1, 0, none⟩) k k, .slice none 0 0, .int .i64 0, .int .i64 (-1)] 25)) (.cells (zcs k) 64)
    have hz := own_zcs k w.heap.size (w.alloc (.cells #[.slice (some ⟨w.heap.size + 1, 0, none⟩) k k, .slice none 0 0, .int .i64 0, .int .i64 (-1)] 25)) (by simp) (by omega)
    rw [World.size_alloc] at hz
    refine bodyPost_ret (v := .tuple #[.agg #[.slice (some ⟨w.heap.size + 1, 0, none⟩) k k, .slice none 0 0, .int .i64 0, .int .i64 (-1)], .int .i64 0]) (by simp [results, Try.results28, go_sem, k4.c0, k4.c1, k4.c2, k4.c3]) rfl ⟨⟨⟨some ⟨w.heap.size + 1, 0, none⟩, k, List.replicate k zcell, none, 0, [], 0, -1⟩, by simp [DV.v], ?_, ⟨by simpa using hz, World.ownsRow_nil _ _ _ _, ?_, WIn.nil _ _⟩⟩, hB⟩
    · show (⟨cds (List.replicate k zcell), [], 0, -1⟩ : Dsk) = _
      rw [cds_zero]
    · intro r hr
      obtain rfl := List.eq_of_mem_replicate hr
      exact ⟨zrow_in _ _, zrow_in _ _⟩
  · rw [if_neg h]
    by_cases h1 : n < 1
    · clear h
      go_enter Try.func28, Try.ntmps28
      go_wp2_with fail
      refine bodyPost_ret (v := .tuple #[.agg #[.slice none 0 0, .slice none 0 0, .int .i64 0, .int .i64 0], .int .i64 1]) (by simp [results, Try.results28, go_sem, Q0.c0, Q0.c1, Q0.c2, Q0.c3]) rfl ⟨⟨zdv, rfl, rfl, zdv_own _ _⟩, B0⟩
    · have h2 : 300 < n := by omega
      clear h
      go_enter Try.func28, Try.ntmps28
      go_wp2_with fail
      refine bodyPost_ret (v := .tuple #[.agg #[.slice none 0 0, .slice none 0 0, .int .i64 0, .int .i64 0], .int .i64 1]) (by simp [results, Try.results28, go_sem, Q0.c0, Q0.c1, Q0.c2, Q0.c3]) rfl ⟨⟨zdv, rfl, rfl, zdv_own _ _⟩, B0⟩
end Go.Proofs.Ytegcbmimndmfkaa.dsk
