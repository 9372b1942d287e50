/-
  The law LabelBack, walked: it returns true for every text, bytes and cut. Conditions: 'Tabs' (the library's two tables are as its text lays them).
-/
import Derived.Test.YtmdimngihpbcnaaDoorLblRunesLaw
namespace Go.Proofs.YtmdimngihpbcnaaDoor.lbl
open Go.RowKit Go.Lib

def One (base : Nat) (l : List UInt8) (e : Ending) (w' : World) : Prop := ∃ v, e = .returned v ∧ Own w' base 5 v l
theorem twin_any (A : Option Addr) (c B : Nat) (l : List UInt8) (w : World) (hA : Sl w B A l) (hl : l.length ≤ 65536) :
    Calls Tryd.prog 9 #[.slice A l.length c] w fun e w' => One w.heap.size l e w' ∧ Below w.heap.size w w' := by
  go_enter Tryd.func9, Tryd.ntmps9
  go_wp2_with (first
    | (at_builtin
       refine wpList_app8 _ rfl (.tmp 4) (.tmp 5) _ _ rfl w.heap.size 5 t8 (.slice none 0 0) [] rfl (own_nil _ _ _) _ _ rfl (Sl.src hA Tryd.underlying22 c) ?_ ?_ ?_
       · simp; omega
       · exact Nat.le_refl _
       intro v2 w2 hown2 hg2 hat2))
  go_ret
  exact ⟨⟨v2, rfl, hown2⟩, (Below.refl _ _).grown hg2 (Nat.le_refl _) (fun k hk => by simp [Value.ownBlock] at hk)⟩

theorem Sl.take {w : World} {B : Nat} {A : Option Addr} {l : List UInt8} (h : Sl w B A l) (k : Nat) : Sl w B A (l.take k) := fun hl => by
  rw [List.length_take] at hl
  obtain ⟨b, off, he, hb, hc⟩ := h (by omega)
  refine ⟨b, off, he, hb, fun j hj => ?_⟩
  rw [List.length_take] at hj
  rw [hc j (by omega)]
  simp

theorem read_cut (A : Option Addr) (c B k : Nat) (l : List UInt8) (w : World) (hA : Sl w B A (encL l)) (hl : l.length ≤ 24) (hk : k < l.length + 1) :
    Calls Tryd.prog 11 #[.slice A k c] w fun e w' => e = .returned (.tuple #[.string ⟨#[]⟩, .int .i64 0, .int .i64 4]) ∧ Below w.heap.size w w' := by
  cases k with
  | zero => exact read_empty A c w
  | succ k =>
    have h := Sl.take hA (k + 1)
    have e : (encL l).take (k + 1) = UInt8.ofNat l.length :: l.take k := rfl
    rw [e] at h
    have hk' : (l.take k).length = k := by rw [List.length_take]; omega
    have := read_short A c B (UInt8.ofNat l.length) (l.take k) w h (by rw [hk']; simp; omega)
    rwa [List.length_cons, hk'] at this

theorem ba_long (s : ByteArray) (A : Option Addr) (c m : Nat) (cut : Int) (w : World) (h : 400 < s.size ∨ 400 < m) (hs : s.size ≤ maxLen) (hm : m ≤ maxLen) :
    Calls Tryd.prog 4 #[.string s, .slice A m c, .int .i64 cut] w fun e w' => e = .returned (.bool true) ∧ Below w.heap.size w w' := by
  unfold maxLen at hs hm
  by_cases h1 : 400 < s.size
  · have hi : (400 : Int) < (s.size : Int) := by omega
    clear h
    go_enter Tryd.func4, Tryd.ntmps4
    go_wp2
    go_ret
    exact ⟨rfl, Below.refl _ _⟩
  · have h2 : 400 < m := by omega
    have hi : ¬ (400 : Int) < (s.size : Int) := by omega
    have hj : (400 : Int) < (m : Int) := by omega
    clear h
    go_enter Tryd.func4, Tryd.ntmps4
    go_wp2
    go_ret
    exact ⟨rfl, Below.refl _ _⟩

set_option maxHeartbeats 1000000 in
set_option maxRecDepth 100000 in
theorem ba_not (hV : ValidOk) (hC : CloneOk) (s : ByteArray) (A : Option Addr) (c m : Nat) (cut : Int) (w : World) (hs : s.size ≤ 400) (hm : m ≤ 400) (hT : Tabs w) (hE : labE s.data.toList ≠ 0) :
    Calls Tryd.prog 4 #[.string s, .slice A m c, .int .i64 cut] w fun e w' => e = .returned (.bool true) ∧ Below w.heap.size w w' := by
  have hi : ¬ (400 : Int) < (s.size : Int) := by omega
  have hj : ¬ (400 : Int) < (m : Int) := by omega
  have cB := bytes_not hV s w (by omega) hT hE
  generalize labE s.data.toList = E at cB hE
  have k1 : (E != 0) = true := bne_iff_ne.2 hE
  have k2 : (E == 0) = false := beq_eq_false_iff_ne.2 hE
  go_enter Tryd.func4, Tryd.ntmps4
  go_wp2_with (first
    | (go_at_call 10; (with_reducible refine cB.mono ?_); rintro e w1 ⟨rfl, hb1⟩)
    | (go_at_call 21; (with_reducible refine (wakes_any hV hC _ (hT.next hb1)).mono ?_); rintro e w4 ⟨rfl, hb4⟩; have hb5 := bt hb1 hb4))
  go_ret
  exact ⟨rfl, hb5⟩

theorem read_whole (hV : ValidOk) (s : ByteArray) (hE : labE s.data.toList = 0) (m : List UInt8) (A : Option Addr) (c B : Nat) (w : World) (hT : Tabs w) (hA : Sl w B A (encL s.data.toList ++ m)) (hc : s.size + 1 + m.length ≤ c) (hm : c ≤ maxLen) :
    Calls Tryd.prog 11 #[.slice A (s.size + 1 + m.length) c] w fun e w' => e = .returned (.tuple #[.string s, .int .i64 (1 + (s.size : Int)), .int .i64 0]) ∧ Below w.heap.size w w' := by
  have hl := lab_len hE
  have hn : (UInt8.ofNat s.data.toList.length).toNat = s.size := by rw [size_list] at hl ⊢; simp; omega
  have e : encL s.data.toList ++ m = UInt8.ofNat s.data.toList.length :: (s.data.toList ++ m) := rfl
  rw [e] at hA
  have hlen : (UInt8.ofNat s.data.toList.length :: (s.data.toList ++ m)).length = s.size + 1 + m.length := by rw [List.length_cons, List.length_append, size_list]; omega
  have h := read_any hV A c B _ _ w hT hA (by rw [List.length_append, size_list]; omega) hm (by rw [hn, List.length_append, size_list]; omega)
  rw [hlen, hn, List.take_left' (by rw [size_list])] at h
  refine h.mono ?_
  rintro e w' ⟨S, hS, he, hb⟩
  have hS' : S = s := by
    apply ByteArray.ext
    apply Array.ext'
    exact hS
  rw [if_pos hE, hS'] at he
  exact ⟨he, hb⟩

set_option maxHeartbeats 1000000 in
set_option maxRecDepth 100000 in
theorem ba_yes (hV : ValidOk) (hC : CloneOk) (s : ByteArray) (A : Option Addr) (c : Nat) (m : List UInt8) (cut : Int) (w : World) (hs : s.size ≤ 400) (hm : m.length ≤ 400) (hT : Tabs w) (hA : Sl w w.heap.size A m) (hE : labE s.data.toList = 0)
    (k : Nat) (hk : k < s.size + 1) (hK : (IntKind.u64.wrap cut).tmod ((s.size : Int) + 1) = (k : Int)) :
    Calls Tryd.prog 4 #[.string s, .slice A m.length c, .int .i64 cut] w fun e w' => e = .returned (.bool true) ∧ Below w.heap.size w w' := by
  have hi : ¬ (400 : Int) < (s.size : Int) := by omega
  have hj : ¬ (400 : Int) < (m.length : Int) := by omega
  have cB := bytes_ok hV s w (by omega) hT hE
  have h24 := lab_len hE
  have hen : (encL s.data.toList).length = s.size + 1 := by rw [encL, List.length_cons, size_list]
  have HN := Lib.hid hen
  have cW := fun A c B w => read_whole hV s hE m A c B w
  have cT := fun A c B w h => twin_any A c B (encL s.data.toList) w h (by rw [hen]; omega)
  have cK := fun A c B w h => read_cut A c B k s.data.toList w h h24 (by rw [size_list]; exact hk)
  rw [hen] at cT
  clear hen hE
  go_enter Tryd.func4, Tryd.ntmps4
  go_wp2_with (first
    | (go_at_call 10
       (with_reducible refine cB.mono ?_)
       rintro e w1 ⟨⟨v, rfl, hown⟩, hb1⟩
       obtain ⟨A1, c1, hv, hc1, hm1, hs1, -⟩ := hown.form
       rw [HN.out] at hv hc1
       subst hv
       obtain ⟨b1, o1, rfl, -, -⟩ := hs1 (by rw [HN.out]; omega)
       unfold maxLen at hm1)
    | (go_at_call 9
       (with_reducible refine (cT _ _ _ _ hs1).mono ?_)
       rintro e w2 ⟨⟨v2, rfl, hown2⟩, hb2⟩
       have hb3 := bt hb1 hb2
       have hm2 := (hA.below hb3).src (P := Tryd.prog) Tryd.underlying22 c)
    | (at_builtin
       refine wpList_app8 _ rfl (.tmp 41) (.tmp 42) _ _ rfl w1.heap.size 5 t8 v2 _ rfl hown2 _ _ rfl hm2 ?_ ?_ ?_
       · rw [HN.out]; omega
       · exact hb2.size
       intro v4 w4 hown4 hg4 hat4
       have hb5 : Below w1.heap.size w1 w4 := hb2.grown hg4 hb2.size (fun k hk => (World.ownsRow.lt hown2 k hk).1)
       have hb6 := bt hb1 hb5
       obtain ⟨A4, c4, hv4, hc4, hm4, hs4, -⟩ := hown4.form
       rw [List.length_append, HN.out] at hv4 hc4
       subst hv4)
    | (go_at_call 11
       (with_reducible refine (cW _ _ _ _ (hT.next hb6) hs4 hc4 hm4).mono ?_)
       rintro e w7 ⟨rfl, hb7⟩
       have hb8 := bt hb5 hb7
       have hb9 := bt hb1 hb8
       have hs8 := hs1.below hb8)
    | (go_at_call 11
       (with_reducible refine (cK _ _ _ _ hs8).mono ?_)
       rintro e wa ⟨rfl, hba⟩
       have hbb := bt hb9 hba)
    | (go_at_call 21; (with_reducible refine (wakes_any hV hC _ (hT.next hbb)).mono ?_); rintro e wc ⟨rfl, hbc⟩; have hbd := bt hbb hbc))
  go_ret
  exact ⟨rfl, hbd⟩

theorem labelBack_law (hV : ValidOk) (hC : CloneOk) (s : ByteArray) (A : Option Addr) (c : Nat) (m : List UInt8) (cut : Int) (w : World) (hs : s.size ≤ maxLen) (hm : m.length ≤ maxLen) (hT : Tabs w) (hA : Sl w w.heap.size A m) :
    Calls Tryd.prog 4 #[.string s, .slice A m.length c, .int .i64 cut] w fun e w' => e = .returned (.bool true) ∧ Below w.heap.size w w' := by
  by_cases h : 400 < s.size ∨ 400 < m.length
  · exact ba_long s A c m.length cut w h hs hm
  · by_cases hE : labE s.data.toList = 0
    · have h0 := wrap_nonneg cut
      refine ba_yes hV hC s A c m cut w (by omega) (by omega) hT hA hE ((IntKind.u64.wrap cut).tmod ((s.size : Int) + 1)).toNat ?_ ?_
      · generalize IntKind.u64.wrap cut = y at *
        rw [Int.tmod_eq_emod_of_nonneg h0]
        have h1 := Int.emod_nonneg y (show ((s.size : Int) + 1) ≠ 0 by omega)
        have h2 := Int.emod_lt_of_pos y (show (0 : Int) < (s.size : Int) + 1 by omega)
        omega
      · generalize IntKind.u64.wrap cut = y at *
        rw [Int.tmod_eq_emod_of_nonneg h0]
        have h1 := Int.emod_nonneg y (show ((s.size : Int) + 1) ≠ 0 by omega)
        omega
    · exact ba_not hV hC s A c m.length cut w (by omega) (by omega) hT hE
end Go.Proofs.YtmdimngihpbcnaaDoor.lbl
