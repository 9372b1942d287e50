/-
  The law LabelCuts, walked: it returns true for every text and two numbers. Conditions: 'Tabs' (the library's two tables are as its text lays them).
-/
import Derived.Test.YtmdimngihpbcnaaDoorLblBackLaw
import Derived.Deep.RegionWith
import Derived.Deep.CutRange
import Derived.Deep.DeepCutAuto
import Derived.Deep.RegionHeld3
namespace Go.Proofs.YtmdimngihpbcnaaDoor.lbl
open Go.RowKit Go.Lib

theorem lc_long (s : ByteArray) (n m : Int) (w : World) (h : 400 < s.size) (hs : s.size ≤ maxLen) :
    Calls Tryd.prog 5 #[.string s, .int .i64 n, .int .i64 m] w fun e w' => e = .returned (.bool true) ∧ Below w.heap.size w w' := by
  unfold maxLen at hs
  have hi : (400 : Int) < (s.size : Int) := by omega
  go_enter Tryd.func5, Tryd.ntmps5
  go_wp2
  go_ret
  exact ⟨rfl, Below.refl _ _⟩

theorem ext_drop (t : ByteArray) (k : Nat) : (t.extract k t.size).data.toList = t.data.toList.drop k := by
  rw [Lib.extract_data, List.take_of_length_le (by rw [List.length_drop, size_list]; exact Nat.le_refl _)]

set_option maxHeartbeats 1000000 in
set_option maxRecDepth 100000 in
theorem lc_go (hV : ValidOk) (hC : CloneOk) (s a : ByteArray) (n m : Int) (w : World) (h : s.size ≤ 400) (hT : Tabs w) (N M RB RS : Nat) (RA : Int) (Q : Nat) (c2 : ByteArray) (hQ : min (N : Int) (M : Int) = (Q : Int)) (hN : (IntKind.u64.wrap n).tmod 500 = (N : Int)) (hM : (IntKind.u64.wrap m).tmod 500 = (M : Int)) (hN5 : N < 500) (hM5 : M < 500)
    (ha : a.size ≤ s.size) (hx : s.extract 0 a.size = a) (hRA : min (N : Int) (RS : Int) = RA) (hsum : RA + (RB : Int) = (RS : Int)) (hRS : RS ≤ 400)
    (tN : ∀ W : World, Calls Tryd.prog 19 #[.string s, .int .i64 N] W fun e w' => e = .returned (.string a) ∧ Below W.heap.size W w')
    (rA : ∀ W : World, Calls Tryd.prog 17 #[.string a] W fun e w' => e = .returned (.int .i64 RA) ∧ Below W.heap.size W w')
    (rS : ∀ W : World, Calls Tryd.prog 17 #[.string s] W fun e w' => e = .returned (.int .i64 RS) ∧ Below W.heap.size W w')
    (rB : ∀ W : World, Calls Tryd.prog 17 #[.string (s.extract a.size s.size)] W fun e w' => e = .returned (.int .i64 RB) ∧ Below W.heap.size W w')
    (tM : ∀ W : World, Calls Tryd.prog 19 #[.string a, .int .i64 M] W fun e w' => e = .returned (.string c2) ∧ Below W.heap.size W w')
    (tQ : ∀ W : World, Calls Tryd.prog 19 #[.string s, .int .i64 Q] W fun e w' => e = .returned (.string c2) ∧ Below W.heap.size W w')
    (tH : ∀ W : World, Calls Tryd.prog 19 #[.string s, .int .i64 500] W fun e w' => e = .returned (.string s) ∧ Below W.heap.size W w')
    (tL : ∀ W : World, Calls Tryd.prog 19 #[.string s, .int .i64 (-1)] W fun e w' => e = .returned (.string ⟨#[]⟩) ∧ Below W.heap.size W w') :
    Calls Tryd.prog 5 #[.string s, .int .i64 n, .int .i64 m] w fun e w' => e = .returned (.bool true) ∧ Below w.heap.size w w' := by
  have hi : ¬ (400 : Int) < (s.size : Int) := by omega
  have hai : ¬ ((s.size : Int) < (a.size : Int)) := by omega
  have hax : (a.size : Int) ≤ (s.size : Int) := by omega
  have hd : decide (s.size < a.size) = false := decide_eq_false (by omega)
  have hwr : IntKind.i64.wrap (RS : Int) = (RS : Int) := wrap_small _ (by omega) (by omega)
  go_enter Tryd.func5, Tryd.ntmps5
  go_wp2_with (first
    | (go_at_call 19; (with_reducible refine (tN _).mono ?_); rintro e w1 ⟨rfl, hb1⟩))
  go_region_held3 (fun W => Below w1.heap.size w1 W)
    (first | assumption | exact (Below.refl _ _).drew | (exact bt (by assumption) (by assumption)))
    (first
      | (go_at_call 17; (with_reducible refine (rA _).mono ?_); rintro e wx ⟨rfl, hbx⟩)
      | (go_at_call 17; (with_reducible refine (rS _).mono ?_); rintro e wx ⟨rfl, hbx⟩)
      | (go_at_call 17; (with_reducible refine (rB _).mono ?_); rintro e wx ⟨rfl, hbx⟩))
  all_goals
    have hbz := bt hb1 (by assumption)
    go_wp2_with (first
      | (go_at_call 19; (with_reducible refine (tM _).mono ?_); rintro e w2 ⟨rfl, hb2⟩; have hb3 := bt hbz hb2)
      | (go_at_call 19; (with_reducible refine (tQ _).mono ?_); rintro e w4 ⟨rfl, hb4⟩; have hb5 := bt hb3 hb4)
      | (go_at_call 19; (with_reducible refine (tL _).mono ?_); rintro e w6 ⟨rfl, hb6⟩; have hb7 := bt hb5 hb6)
      | (go_at_call 19; (with_reducible refine (tH _).mono ?_); rintro e w8 ⟨rfl, hb8⟩; have hb9 := bt hb7 hb8)
      | (go_at_call 21; (with_reducible refine (wakes_any hV hC _ (hT.next hb9)).mono ?_); rintro e wa ⟨rfl, hba⟩; have hbb := bt hb9 hba))
    go_ret
    exact ⟨rfl, hbb⟩

theorem wrap_mod (n : Int) : ∃ N : Nat, N < 500 ∧ (IntKind.u64.wrap n).tmod 500 = (N : Int) := by
  have h0 := wrap_nonneg n
  generalize IntKind.u64.wrap n = y at *
  rw [Int.tmod_eq_emod_of_nonneg h0]
  exact ⟨(y % 500).toNat, by omega, by omega⟩

theorem labelCuts_law (hV : ValidOk) (hC : CloneOk) (s : ByteArray) (n m : Int) (w : World) (hs : s.size ≤ maxLen) (hT : Tabs w) :
    Calls Tryd.prog 5 #[.string s, .int .i64 n, .int .i64 m] w fun e w' => e = .returned (.bool true) ∧ Below w.heap.size w w' := by
  by_cases h : 400 < s.size
  · exact lc_long s n m w h hs
  · obtain ⟨N, hN5, hN⟩ := wrap_mod n
    obtain ⟨M, hM5, hM⟩ := wrap_mod m
    have hle := wid_take_le s.data.toList N
    rw [size_list] at hle
    have hasz : (cutS s N).size = wid ((toks s.data.toList).take N) := by
      unfold cutS
      rw [ByteArray.size_extract]
      omega
    have htl := toks_len_le s.data.toList
    rw [size_list] at htl
    have hcut := toks_cut s.data.toList N
    rw [← cutS_list] at hcut
    have hRAn : (toks (cutS s N).data.toList).length = min N (toks s.data.toList).length := by rw [hcut.1, List.length_take]
    have hRBn : (toks (s.extract (cutS s N).size s.size).data.toList).length = (toks s.data.toList).length - N := by
      rw [ext_drop, ← size_list, hcut.2, List.length_drop]
    have h500 : cutS s 500 = s := by
      apply ByteArray.ext
      apply Array.ext'
      rw [cutS_list, cut_all _ _ (by omega)]
    have h2 : cutS (cutS s N) M = cutS s (min N M) := by
      apply ByteArray.ext
      apply Array.ext'
      rw [cutS_list, cutS_list, cutS_list, cut_cut]
    have hsz2 : (cutS s N).size ≤ 400 := by omega
    refine lc_go hV hC s (cutS s N) n m w (by omega) hT N M ((toks s.data.toList).length - N) (toks s.data.toList).length ((min N (toks s.data.toList).length : Nat) : Int) (min N M) (cutS s (min N M)) (by omega) hN hM hN5 hM5 (by omega) ?_ (by omega) (by omega) (by omega)
      (fun W => cut_any hC s N W (by omega)) (fun W => ?_) (fun W => runes_any s W (by omega)) (fun W => ?_) (fun W => ?_) (fun W => cut_any hC s (min N M) W (by omega)) (fun W => ?_) (fun W => cut_minus (-1) s W (by omega))
    · apply ByteArray.ext
      apply Array.ext'
      rw [Lib.extract_data, List.drop_zero, Nat.sub_zero, ← size_list, cutS_list, cut_prefix]
    · have := runes_any (cutS s N) W (by omega)
      rwa [hRAn] at this
    · have := runes_any (s.extract (cutS s N).size s.size) W (by rw [ByteArray.size_extract]; omega)
      rwa [hRBn] at this
    · have := cut_any hC (cutS s N) M W (by omega)
      rwa [h2] at this
    · have := cut_any hC s 500 W (by omega)
      rwa [h500] at this
end Go.Proofs.YtmdimngihpbcnaaDoor.lbl
