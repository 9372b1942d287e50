/-
  The document's disk: in, Right. No condition.
-/
import Derived.Test.YtegcbmimndmfkaaGDkA
import Derived.Deep.QuietTactic
import Derived.BigQuiet
namespace Go.Proofs.Ytegcbmimndmfkaa.dsk
open Go.RowKit Go.Lib

theorem in_any (n lo hi : Int) (w : World) (b : Bool) (hb : decide (lo ≤ n ∧ n ≤ hi) = b) :
    Calls Try.prog 39 #[.int .i64 n, .int .i64 lo, .int .i64 hi] w fun e w' => e = .returned (.bool b) ∧ w' = w := by
  by_cases h1 : lo ≤ n
  · by_cases h2 : n ≤ hi
    · have H : Hid (b = true) := by show b = true; rw [← hb]; exact decide_eq_true ⟨h1, h2⟩
      clear hb
      go_enter Try.func39, Try.ntmps39
      go_wp2
      go_ret
      exact ⟨ret_bool H.out.symm, rfl⟩
    · have H : Hid (b = false) := by show b = false; rw [← hb]; exact decide_eq_false fun k => h2 k.2
      clear hb
      go_enter Try.func39, Try.ntmps39
      go_wp2
      go_ret
      exact ⟨ret_bool H.out.symm, rfl⟩
  · have H : Hid (b = false) := by show b = false; rw [← hb]; exact decide_eq_false fun k => h1 k.1
    clear hb
    go_enter Try.func39, Try.ntmps39
    go_wp2
    go_ret
    exact ⟨ret_bool H.out.symm, rfl⟩
theorem in_q (n lo hi : Int) (w : World) (b : Bool) (hb : decide (lo ≤ n ∧ n ≤ hi) = b) :
    Calls Try.prog 39 #[.int .i64 n, .int .i64 lo, .int .i64 hi] w fun e w' => e = .returned (.bool b) ∧ ∃ m, w' = w.drewN m :=
  (in_any n lo hi w b hb).mono fun _ _ h => ⟨h.1, 0, h.2⟩
theorem right_not (d : DV) (w : World) (h : ¬ Counts d.d) :
    Calls Try.prog 18 #[d.v] w fun e w' => e = .returned (.bool false) ∧ Below w.heap.size w w' := by
  have P0 := four_new w (.slice d.CA d.cs.length d.cc) (.slice d.WA d.ws.length d.wc) (.int .i64 d.reqs) (.int .i64 d.left) 25
  have B0 := bl w (.cells #[.slice d.CA d.cs.length d.cc, .slice d.WA d.ws.length d.wc, .int .i64 d.reqs, .int .i64 d.left] 25)
  obtain ⟨c0, c1, c2, c3, -, -, -, -⟩ := id P0
  rw [counts_iff] at h
  unfold DV.v
  clear P0
  generalize hW : w.alloc (.cells #[.slice d.CA d.cs.length d.cc, .slice d.WA d.ws.length d.wc, .int .i64 d.reqs, .int .i64 d.left] 25) = w1 at *
  by_cases a : (1 : Int) ≤ d.cs.length ∧ (d.cs.length : Int) ≤ 300
  · have i1 := in_any d.cs.length 1 300 w1 true (decide_eq_true a)
    by_cases b : 2000 < (d.ws.length : Int)
    · clear h a
      go_enter Try.func18, Try.ntmps18
      go_wp2_with (first | (rw [hW]) | (go_at_call 39; (with_reducible refine i1.mono ?_); rintro e wx ⟨rfl, rfl⟩))
      go_ret
      exact ⟨rfl, B0⟩
    · by_cases c : 0 ≤ d.reqs ∧ d.reqs ≤ 1048576
      · have i2 := in_any d.reqs 0 1048576 w1 true (decide_eq_true c)
        have i3 := in_any d.left (-1) 1048576 w1 false (decide_eq_false fun k => h ⟨by omega, c.1, c.2, k.1, k.2⟩)
        clear h a c
        go_enter Try.func18, Try.ntmps18
        go_wp2_with (first | (rw [hW]) | (go_at_call 39; (with_reducible refine i1.mono ?_); rintro e wx ⟨rfl, rfl⟩) | (go_at_call 39; (with_reducible refine i2.mono ?_); rintro e wx ⟨rfl, rfl⟩) | (go_at_call 39; (with_reducible refine i3.mono ?_); rintro e wx ⟨rfl, rfl⟩))
        go_ret
        exact ⟨rfl, B0⟩
      · have i2 := in_any d.reqs 0 1048576 w1 false (decide_eq_false c)
        clear h a c
        go_enter Try.func18, Try.ntmps18
        go_wp2_with (first | (rw [hW]) | (go_at_call 39; (with_reducible refine i1.mono ?_); rintro e wx ⟨rfl, rfl⟩) | (go_at_call 39; (with_reducible refine i2.mono ?_); rintro e wx ⟨rfl, rfl⟩))
        go_ret
        exact ⟨rfl, B0⟩
  · have i1 := in_any d.cs.length 1 300 w1 false (decide_eq_false a)
    clear h a
    go_enter Try.func18, Try.ntmps18
    go_wp2_with (first | (rw [hW]) | (go_at_call 39; (with_reducible refine i1.mono ?_); rintro e wx ⟨rfl, rfl⟩))
    go_ret
    exact ⟨rfl, B0⟩
end Go.Proofs.Ytegcbmimndmfkaa.dsk
