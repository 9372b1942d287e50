/-
  The law LabelJoins, walked: it returns true for every two texts. Conditions: 'Tabs' (the library's two tables are as its text lays them).
-/
import Derived.Test.YtmdimngihpbcnaaDoorLblE
namespace Go.Proofs.YtmdimngihpbcnaaDoor.lbl
open Go.RowKit Go.Lib

theorem app_list (a b : ByteArray) : (a ++ b).data.toList = a.data.toList ++ b.data.toList := by
  rw [ByteArray.data_append, Array.toList_append]
theorem app_size (a b : ByteArray) : (a ++ b).size = a.size + b.size := by rw [← size_list, app_list, List.length_append, size_list, size_list]

set_option maxHeartbeats 1000000 in
theorem lj_long (a b : ByteArray) (w : World) (h : 200 < a.size ∨ 200 < b.size) (ha : a.size ≤ maxLen) (hb : b.size ≤ maxLen) :
    Calls Tryd.prog 7 #[.string a, .string b] w fun e w' => e = .returned (.bool true) ∧ Below w.heap.size w w' := by
  unfold maxLen at ha hb
  by_cases h1 : 200 < a.size
  · have hi : (200 : Int) < (a.size : Int) := by omega
    clear h
    go_enter Tryd.func7, Tryd.ntmps7
    go_wp2
    go_ret
    exact ⟨rfl, Below.refl _ _⟩
  · have h2 : 200 < b.size := by omega
    have hi : ¬ (200 : Int) < (a.size : Int) := by omega
    have hj : (200 : Int) < (b.size : Int) := by omega
    clear h
    go_enter Tryd.func7, Tryd.ntmps7
    go_wp2
    go_ret
    exact ⟨rfl, Below.refl _ _⟩

set_option maxHeartbeats 1000000 in
set_option maxRecDepth 100000 in
theorem lj_not (hV : ValidOk) (hC : CloneOk) (a b : ByteArray) (w : World) (ha : a.size ≤ 200) (hb : b.size ≤ 200) (hT : Tabs w) (hE : labE a.data.toList ≠ 0 ∨ labE b.data.toList ≠ 0) :
    Calls Tryd.prog 7 #[.string a, .string b] w fun e w' => e = .returned (.bool true) ∧ Below w.heap.size w w' := by
  have hi : ¬ (200 : Int) < (a.size : Int) := by omega
  have hj : ¬ (200 : Int) < (b.size : Int) := by omega
  have cA := check_any hV a w (by omega) hT
  have cB := fun W hW => check_any hV b W (by omega) hW
  generalize labE a.data.toList = E at cA hE
  generalize labE b.data.toList = G at cB hE
  by_cases h1 : E = 0
  · have h2 : G ≠ 0 := by omega
    subst h1
    have k1 : (G != 0) = true := bne_iff_ne.2 h2
    have k2 : (G == 0) = false := beq_eq_false_iff_ne.2 h2
    clear hE h2
    go_enter Tryd.func7, Tryd.ntmps7
    go_wp2_with (first
      | (go_at_call 14; (with_reducible refine cA.mono ?_); rintro e w1 ⟨rfl, hb1⟩)
      | (go_at_call 14; (with_reducible refine (cB _ (hT.next hb1)).mono ?_); rintro e w2 ⟨rfl, hb2⟩; have hb3 := bt hb1 hb2)
      | (go_at_call 21; (with_reducible refine (wakes_any hV hC _ (hT.next hb3)).mono ?_); rintro e w4 ⟨rfl, hb4⟩; have hb5 := bt hb3 hb4))
    go_ret
    exact ⟨rfl, hb5⟩
  · have k1 : (E != 0) = true := bne_iff_ne.2 h1
    have k2 : (E == 0) = false := beq_eq_false_iff_ne.2 h1
    clear hE h1
    go_enter Tryd.func7, Tryd.ntmps7
    go_wp2_with (first
      | (go_at_call 14; (with_reducible refine cA.mono ?_); rintro e w1 ⟨rfl, hb1⟩)
      | (go_at_call 21; (with_reducible refine (wakes_any hV hC _ (hT.next hb1)).mono ?_); rintro e w4 ⟨rfl, hb4⟩; have hb5 := bt hb1 hb4))
    go_ret
    exact ⟨rfl, hb5⟩

set_option maxHeartbeats 1000000 in
set_option maxRecDepth 100000 in
theorem lj_yes (hV : ValidOk) (hC : CloneOk) (a b : ByteArray) (w : World) (ha : a.size ≤ 200) (hb : b.size ≤ 200) (hT : Tabs w) (hE : labE a.data.toList = 0) (hG : labE b.data.toList = 0) :
    Calls Tryd.prog 7 #[.string a, .string b] w fun e w' => e = .returned (.bool true) ∧ Below w.heap.size w w' := by
  have hi : ¬ (200 : Int) < (a.size : Int) := by omega
  have hj : ¬ (200 : Int) < (b.size : Int) := by omega
  have hsz := app_size a b
  have cA := check_any hV a w (by omega) hT
  have cB := fun W hW => check_any hV b W (by omega) hW
  have cAB := fun W hW => check_any hV (a ++ b) W (by omega) hW
  have rA := fun W => runes_any a W (by omega)
  have rB := fun W => runes_any b W (by omega)
  have rAB := fun W => runes_any (a ++ b) W (by omega)
  have tAB := fun W => cut_any hC (a ++ b) (toks a.data.toList).length W (by omega)
  have hok := (lab_ok hE).1
  have hokb := (lab_ok hG).1
  have h6a := (lab_ok hE).2
  have h6b := (lab_ok hG).2
  have hc : cutS (a ++ b) (toks a.data.toList).length = a := by
    apply ByteArray.ext
    apply Array.ext'
    rw [cutS_list, app_list, cut_append _ _ hok]
  have hl : (toks (a ++ b).data.toList).length = (toks a.data.toList).length + (toks b.data.toList).length := by
    rw [app_list, toks_append _ (ok_bad _ hok), List.length_append]
  have hle : labE (a ++ b).data.toList = if 6 < (toks a.data.toList).length + (toks b.data.toList).length then 2 else 0 := by
    rw [lab_of (by rw [app_list, okT_append _ _ hok]; exact hokb), hl]
  rw [hE] at cA
  rw [hG] at cB
  rw [hle] at cAB
  rw [hl] at rAB
  rw [hc] at tAB
  clear hc hl hle hE hG hok hokb hsz
  generalize (toks a.data.toList).length = n at *
  generalize (toks b.data.toList).length = m at *
  have rAB' : ∀ W : World, Calls Tryd.prog 17 #[.string (a ++ b)] W fun e w' => e = .returned (.int .i64 ((n : Int) + (m : Int))) ∧ Below W.heap.size W w' := fun W => rAB W
  clear rAB
  by_cases h : 6 < n + m
  · rw [if_pos h] at cAB
    have h6 : (6 : Int) < (n : Int) + (m : Int) := by omega
    go_enter Tryd.func7, Tryd.ntmps7
    go_wp2_with (first
      | (go_at_call 14; (with_reducible refine cA.mono ?_); rintro e w1 ⟨rfl, hb1⟩)
      | (go_at_call 14; (with_reducible refine (cB _ (hT.next hb1)).mono ?_); rintro e w2 ⟨rfl, hb2⟩; have hb3 := bt hb1 hb2)
      | (go_at_call 17; (with_reducible refine (rA _).mono ?_); rintro e w4 ⟨rfl, hb4⟩; have hb5 := bt hb3 hb4)
      | (go_at_call 17; (with_reducible refine (rB _).mono ?_); rintro e w6 ⟨rfl, hb6⟩; have hb7 := bt hb5 hb6)
      | (go_at_call 14; (with_reducible refine (cAB _ (hT.next hb7)).mono ?_); rintro e w8 ⟨rfl, hb8⟩; have hb9 := bt hb7 hb8)
      | (go_at_call 17; (with_reducible refine (rAB' _).mono ?_); rintro e wa ⟨rfl, hba⟩; have hbb := bt hb9 hba)
      | (go_at_call 19; (with_reducible refine (tAB _).mono ?_); rintro e wc ⟨rfl, hbc⟩; have hbd := bt hbb hbc)
      | (go_at_call 21; (with_reducible refine (wakes_any hV hC _ (hT.next hbd)).mono ?_); rintro e we ⟨rfl, hbe⟩; have hbf := bt hbd hbe))
    go_ret
    exact ⟨rfl, hbf⟩
  · rw [if_neg h] at cAB
    have h6 : ¬ (6 : Int) < (n : Int) + (m : Int) := by omega
    go_enter Tryd.func7, Tryd.ntmps7
    go_wp2_with (first
      | (go_at_call 14; (with_reducible refine cA.mono ?_); rintro e w1 ⟨rfl, hb1⟩)
      | (go_at_call 14; (with_reducible refine (cB _ (hT.next hb1)).mono ?_); rintro e w2 ⟨rfl, hb2⟩; have hb3 := bt hb1 hb2)
      | (go_at_call 17; (with_reducible refine (rA _).mono ?_); rintro e w4 ⟨rfl, hb4⟩; have hb5 := bt hb3 hb4)
      | (go_at_call 17; (with_reducible refine (rB _).mono ?_); rintro e w6 ⟨rfl, hb6⟩; have hb7 := bt hb5 hb6)
      | (go_at_call 14; (with_reducible refine (cAB _ (hT.next hb7)).mono ?_); rintro e w8 ⟨rfl, hb8⟩; have hb9 := bt hb7 hb8)
      | (go_at_call 17; (with_reducible refine (rAB' _).mono ?_); rintro e wa ⟨rfl, hba⟩; have hbb := bt hb9 hba)
      | (go_at_call 19; (with_reducible refine (tAB _).mono ?_); rintro e wc ⟨rfl, hbc⟩; have hbd := bt hbb hbc)
      | (go_at_call 21; (with_reducible refine (wakes_any hV hC _ (hT.next hbd)).mono ?_); rintro e we ⟨rfl, hbe⟩; have hbf := bt hbd hbe))
    go_ret
    exact ⟨rfl, hbf⟩

theorem labelJoins_law (hV : ValidOk) (hC : CloneOk) (a b : ByteArray) (w : World) (ha : a.size ≤ maxLen) (hb : b.size ≤ maxLen) (hT : Tabs w) :
    Calls Tryd.prog 7 #[.string a, .string b] w fun e w' => e = .returned (.bool true) ∧ Below w.heap.size w w' := by
  by_cases h : 200 < a.size ∨ 200 < b.size
  · exact lj_long a b w h ha hb
  · by_cases hE : labE a.data.toList = 0
    · by_cases hG : labE b.data.toList = 0
      · exact lj_yes hV hC a b w (by omega) (by omega) hT hE hG
      · exact lj_not hV hC a b w (by omega) (by omega) hT (.inr hG)
    · exact lj_not hV hC a b w (by omega) (by omega) hT (.inl hE)
end Go.Proofs.YtmdimngihpbcnaaDoor.lbl
