/-
  Package disk, its small functions: hasCell, isWrongCell, Check. Conditions: none.
-/
import Derived.Test.YtegcbmimndmfkaaDkF
import Derived.Test.YtegcbmimndmfkaaDkM
import Derived.Deep.RegionHeld3
namespace Go.Proofs.Ytegcbmimndmfkaa.dsk
open Go.RowKit Go.Lib

theorem has_cell (d : DV) (a : Int) (w : World) :
    Calls Try.prog 32 #[d.v, .int .i64 a] w fun e w' => e = .returned (.bool (decide (HasC d.d a))) ∧ Below w.heap.size w w' := by
  have hd : HasC d.d a ↔ 0 ≤ a ∧ a < d.cs.length := by unfold HasC DV.d; rw [cds_length]
  have P0 := four_new w (.slice d.CA d.cs.length d.cc) (.slice d.WA d.ws.length d.wc) (.int .i64 d.reqs) (.int .i64 d.left) 25
  have B0 := bl w (.cells #[.slice d.CA d.cs.length d.cc, .slice d.WA d.ws.length d.wc, .int .i64 d.reqs, .int .i64 d.left] 25)
  obtain ⟨c0, c1, c2, c3, -, -, -, -⟩ := id P0
  unfold DV.v
  by_cases h0 : 0 ≤ a
  · by_cases h1 : a < d.cs.length
    · have H : Hid (decide (HasC d.d a) = true) := decide_eq_true (hd.2 ⟨h0, h1⟩)
      clear hd
      go_enter Try.func32, Try.ntmps32
      go_wp2
      go_ret
      exact ⟨ret_bool H.out.symm, B0⟩
    · have H : Hid (decide (HasC d.d a) = false) := decide_eq_false fun h => h1 (hd.1 h).2
      clear hd
      go_enter Try.func32, Try.ntmps32
      go_wp2
      go_ret
      exact ⟨ret_bool H.out.symm, B0⟩
  · have H : Hid (decide (HasC d.d a) = false) := decide_eq_false fun h => h0 (hd.1 h).1
    clear hd
    go_enter Try.func32, Try.ntmps32
    go_wp2
    go_ret
    exact ⟨ret_bool H.out.symm, B0⟩
theorem three_new (w : World) (a b c : Value) (t : TypeId) : (w.alloc (.cells #[a, b, c] t)).cell? ⟨w.heap.size, 0, none⟩ = some a ∧ (w.alloc (.cells #[a, b, c] t)).cell? ⟨w.heap.size, 1, none⟩ = some b ∧ (w.alloc (.cells #[a, b, c] t)).cell? ⟨w.heap.size, 2, none⟩ = some c := by
  have h := heap_alloc_new w (.cells #[a, b, c] t)
  refine ⟨?_, ?_, ?_⟩
  · rw [cell_of_row _ _ 0 _ _ _ h]; rfl
  · rw [cell_of_row _ _ 1 _ _ _ h]; rfl
  · rw [cell_of_row _ _ 2 _ _ _ h]; rfl
theorem two_new (w : World) (a b : Value) (t : TypeId) : (w.alloc (.cells #[a, b] t)).cell? ⟨w.heap.size, 0, none⟩ = some a ∧ (w.alloc (.cells #[a, b] t)).cell? ⟨w.heap.size, 1, none⟩ = some b := by
  have h := heap_alloc_new w (.cells #[a, b] t)
  refine ⟨?_, ?_⟩
  · rw [cell_of_row _ _ 0 _ _ _ h]; rfl
  · rw [cell_of_row _ _ 1 _ _ _ h]; rfl
theorem wrong_cell (r : CellR) (w : World) :
    Calls Try.prog 41 #[.agg #[.int .i64 r.st, .slice r.b.A r.b.l.length r.b.c, .slice r.o.A r.o.l.length r.o.c]] w fun e w' => e = .returned (.bool (!decide (OkCel r.d))) ∧ Below w.heap.size w w' := by
  have hd : OkCel r.d ↔ 0 ≤ r.st ∧ r.st ≤ 2 ∧ r.b.l.length ≤ 200 ∧ r.o.l.length ≤ 200 := by unfold OkCel CellR.d; exact Iff.rfl
  obtain ⟨c0, c1, c2⟩ := three_new w (.int .i64 r.st) (.slice r.b.A r.b.l.length r.b.c) (.slice r.o.A r.o.l.length r.o.c) 64
  have B0 := bl w (.cells #[.int .i64 r.st, .slice r.b.A r.b.l.length r.b.c, .slice r.o.A r.o.l.length r.o.c] 64)
  by_cases h : OkCel r.d
  · have H : Hid ((!decide (OkCel r.d)) = false) := by show (!decide (OkCel r.d)) = false; rw [decide_eq_true h]; rfl
    obtain ⟨h0, h1, h2, h3⟩ := hd.1 h
    have n0 : ¬ (r.st < 0) := by omega
    have n1 : ¬ (2 < r.st) := by omega
    have n2 : ¬ (200 < (r.b.l.length : Int)) := by omega
    have n3 : ¬ (200 < (r.o.l.length : Int)) := by omega
    clear hd h
    go_enter Try.func41, Try.ntmps41
    go_wp2
    go_ret
    exact ⟨ret_bool H.out.symm, B0⟩
  · have H : Hid ((!decide (OkCel r.d)) = true) := by show (!decide (OkCel r.d)) = true; rw [decide_eq_false h]; rfl
    by_cases n0 : r.st < 0
    · clear hd h
      go_enter Try.func41, Try.ntmps41
      go_wp2
      go_ret
      exact ⟨ret_bool H.out.symm, B0⟩
    · by_cases n1 : 2 < r.st
      · clear hd h
        go_enter Try.func41, Try.ntmps41
        go_wp2
        go_ret
        exact ⟨ret_bool H.out.symm, B0⟩
      · by_cases n2 : 200 < (r.b.l.length : Int)
        · clear hd h
          go_enter Try.func41, Try.ntmps41
          go_wp2
          go_ret
          exact ⟨ret_bool H.out.symm, B0⟩
        · have n3 : 200 < (r.o.l.length : Int) := by
            rcases Nat.lt_or_ge 200 r.o.l.length with k | k
            · omega
            · exact absurd (hd.2 ⟨by omega, by omega, by omega, k⟩) h
          clear hd h
          go_enter Try.func41, Try.ntmps41
          go_wp2
          go_ret
          exact ⟨ret_bool H.out.symm, B0⟩
theorem index_wrong (A : Option Addr) (c n : Nat) (rs : List CellR) (w : World) (hn : rs.length = n) (hA : SlV w w.heap.size A (cvs rs)) (hR : CIn w w.heap.size rs) (hm : n ≤ maxLen) :
    Calls Try.prog 46 #[.slice A n c, .func (.func 41) #[] #[]] w fun e w' => (∃ i : Int, e = .returned (.int .i64 i) ∧ (0 ≤ i ↔ ∃ x ∈ cds rs, ¬ OkCel x)) ∧ Below w.heap.size w w' := by
  have hlen : (cds rs).length = n := by rw [cds_length, hn]
  unfold maxLen at hm
  go_enter Try.func46, Try.ntmps46
  go_wp2
  go_loopw [8] (fun i w' => ∃ k : Nat, k ≤ n ∧ i = .int .i64 k ∧ (∀ x ∈ (cds rs).take k, OkCel x) ∧ Below w.heap.size w w') (fun i _ => n - (RowKit.intOf i).toNat)
  case atStart => exact ⟨0, by omega, rfl, by simp, Below.refl _ _⟩
  case round =>
    rename_i wr
    obtain ⟨k, hk, rfl, hs, hbr⟩ := hrel
    by_cases hlt : k < n
    · obtain ⟨b1, off, x, rfl, hb1, g, g1, g2, m1, m2, hx, -, e1⟩ := cell_at (hA.below hbr) (hR.below hbr) (show k < rs.length by omega)
      have i1 : (k : Int) < (n : Int) := by omega
      have cW := wrong_cell x wr
      have H1 : Hid (OkCel x.d → ∀ y ∈ (cds rs).take (k + 1), OkCel y) := fun h y hy => by
        rw [take_next e1] at hy
        rcases List.mem_append.1 hy with q | q
        · exact hs y q
        · obtain rfl := List.mem_singleton.1 q
          exact h
      have H2 : Hid (¬ OkCel x.d → ∃ x ∈ cds rs, ¬ OkCel x) := fun h => ⟨x.d, List.mem_of_getElem? e1, h⟩
      clear hs e1 hA hR hx m1 m2 hlen
      by_cases ho : OkCel x.d
      · rw [decide_eq_true ho, Bool.not_true] at cW
        have H3 := Lib.hid (H1.out ho)
        clear H1 H2 ho
        go_wp2_with (go_at_call 41; refine cW.mono ?_; rintro e wx ⟨rfl, hbx⟩)
        go_roundw
        case rel => exact ⟨k + 1, by omega, by go_num, H3.out, bt hbr hbx⟩
        case measure => simp [RowKit.intOf]; omega
      · rw [decide_eq_false ho, Bool.not_false] at cW
        have H3 := Lib.hid (H2.out ho)
        clear H1 H2 ho
        go_wp2_with (go_at_call 41; refine cW.mono ?_; rintro e wx ⟨rfl, hbx⟩)
        go_ret
        exact ⟨⟨k, rfl, ⟨fun _ => H3.out, fun _ => by omega⟩⟩, bt hbr hbx⟩
    · have H : Hid (∀ x ∈ cds rs, OkCel x) := by
        intro x hx
        rw [List.take_of_length_le (by omega)] at hs
        exact hs x hx
      go_wp2
      go_ret
      exact ⟨⟨-1, rfl, ⟨fun h => by omega, fun ⟨x, hx, hn⟩ => absurd (H.out x hx) hn⟩⟩, hbr⟩
theorem contains_wrong (A : Option Addr) (c n : Nat) (rs : List CellR) (w : World) (hn : rs.length = n) (hA : SlV w w.heap.size A (cvs rs)) (hR : CIn w w.heap.size rs) (hm : n ≤ maxLen) :
    Calls Try.prog 40 #[.slice A n c, .func (.func 41) #[] #[]] w fun e w' => e = .returned (.bool (decide (∃ x ∈ cds rs, ¬ OkCel x))) ∧ Below w.heap.size w w' := by
  have cI := index_wrong A c n rs w hn hA hR hm
  go_enter Try.func40, Try.ntmps40
  clear hA hR hm hn
  go_wp2_with (go_at_call 46; refine cI.mono ?_; rintro e wx ⟨⟨i, rfl, hi⟩, hbx⟩)
  go_ret
  exact ⟨ret_bool (decide_eq_decide.2 Iff.rfl), hbx⟩
end Go.Proofs.Ytegcbmimndmfkaa.dsk
