/-
  The law LabelRunes, walked: it returns true for every row of integers. Conditions: 'Tabs' (the library's two tables are as its text lays them).
-/
import Derived.Test.YtmdimngihpbcnaaDoorLblJoinsLaw
import Derived.Test.YtmdimngihpbcnaaDoorOpen
namespace Go.Proofs.YtmdimngihpbcnaaDoor.lbl
open Go.RowKit Go.Lib

def letters : List ByteArray := [⟨#[97]⟩, ⟨#[195, 169]⟩, ⟨#[195, 159]⟩, ⟨#[230, 176, 180]⟩, ⟨#[240, 159, 152, 128]⟩, ⟨#[32]⟩, ⟨#[126]⟩]
/-- Which letter a number stands for. -/
def pick (z : Int) : Nat := ((IntKind.u64.wrap z).tmod 7).toNat
def letter (z : Int) : ByteArray := letters.getD (pick z) ⟨#[]⟩
def text (l : List Int) : ByteArray := l.foldl (fun s z => s ++ letter z) ⟨#[]⟩

theorem wrap_nonneg (z : Int) : 0 ≤ IntKind.u64.wrap z := by
  unfold IntKind.wrap
  simp [IntKind.bits, IntKind.signed]
  omega
theorem pick_eq (z : Int) : (IntKind.u64.wrap z).tmod 7 = (pick z : Int) ∧ pick z < 7 := by
  have h := wrap_nonneg z
  unfold pick
  generalize IntKind.u64.wrap z = y at *
  rw [Int.tmod_eq_emod_of_nonneg h]
  omega
theorem text_snoc (l : List Int) (z : Int) : text (l ++ [z]) = text l ++ letter z := by
  unfold text; rw [List.foldl_append]; rfl
theorem letter_ok (z : Int) : okT (letter z).data.toList = true ∧ (toks (letter z).data.toList).length = 1 := by
  unfold letter
  have h := (pick_eq z).2
  generalize pick z = q at h
  rcases (by omega : q = 0 ∨ q = 1 ∨ q = 2 ∨ q = 3 ∨ q = 4 ∨ q = 5 ∨ q = 6) with rfl | rfl | rfl | rfl | rfl | rfl | rfl <;> decide
theorem text_ok (l : List Int) : okT (text l).data.toList = true ∧ (toks (text l).data.toList).length = l.length := by
  obtain ⟨r, rfl⟩ : ∃ r : List Int, l = r.reverse := ⟨l.reverse, by simp⟩
  induction r with
  | nil => exact ⟨by decide, by decide⟩
  | cons z r ih =>
    have hz := letter_ok z
    rw [List.reverse_cons, text_snoc, app_list]
    refine ⟨by rw [okT_append _ _ ih.1]; exact hz.1, ?_⟩
    rw [toks_append _ (ok_bad _ ih.1), List.length_append, ih.2, hz.2, List.length_append]
    rfl
theorem text_size (l : List Int) : (text l).size ≤ 4 * l.length := by
  rw [← size_list]
  have := len_le (text l).data.toList
  rw [(text_ok l).2] at this
  exact this
theorem text_bad (l : List Int) (x : UInt8) (hx : okT [x] = false) : labE (text l ++ ⟨#[x]⟩).data.toList = 3 := by
  unfold labE
  rw [app_list, okT_append _ _ (text_ok l).1]
  have e : ((⟨#[x]⟩ : ByteArray)).data.toList = [x] := rfl
  rw [e, hx]
  simp

theorem lr_long (A : Option Addr) (c : Nat) (l : List Int) (w : World) (h : 12 < l.length) (hm : l.length ≤ maxLen) :
    Calls Tryd.prog 6 #[.slice A l.length c] w fun e w' => e = .returned (.bool true) ∧ Below w.heap.size w w' := by
  unfold maxLen at hm
  have hi : (12 : Int) < (l.length : Int) := by omega
  go_enter Tryd.func6, Tryd.ntmps6
  go_wp2
  go_ret
  exact ⟨rfl, Below.refl _ _⟩

set_option maxHeartbeats 2000000 in
set_option maxRecDepth 100000 in
theorem lr_go (hV : ValidOk) (hC : CloneOk) (A : Option Addr) (c : Nat) (l : List Int) (w : World) (h : l.length ≤ 12) (hT : Tabs w) (hS : SlK .i64 w w.heap.size A l) (W : Int) (hW : (if 6 < l.length then 2 else 0) = W) :
    Calls Tryd.prog 6 #[.slice A l.length c] w fun e w' => e = .returned (.bool true) ∧ Below w.heap.size w w' := by
  have hi : ¬ (12 : Int) < (l.length : Int) := by omega
  have hsz := text_size l
  have rS := fun X => runes_any (text l) X (by omega)
  have cS := fun X hX => check_any hV (text l) X (by omega) hX
  have c7 := fun X hX => check_any hV (text l ++ ⟨#[127]⟩) X (by rw [app_size]; show (text l).size + 1 < _; omega) hX
  have cF := fun X hX => check_any hV (text l ++ ⟨#[255]⟩) X (by rw [app_size]; show (text l).size + 1 < _; omega) hX
  rw [(text_ok l).2] at rS
  rw [lab_of (text_ok l).1, (text_ok l).2, hW] at cS
  rw [text_bad l 127 (by decide)] at c7
  rw [text_bad l 255 (by decide)] at cF
  have HW := Lib.hid hW
  clear hW
  go_enter Tryd.func6, Tryd.ntmps6
  go_wp2
  go_loop [4, 5] (fun s i => ∃ k : Nat, k ≤ l.length ∧ i = .int .i64 k ∧ s = .string (text (l.take k))) (fun _ i => l.length - (RowKit.intOf i).toNat)
  case atStart => exact ⟨0, by omega, rfl, rfl⟩
  case round =>
    obtain ⟨k, hk, rfl, rfl⟩ := hrel
    by_cases hlt : k < l.length
    · obtain ⟨b, off, rfl, hbw, hcell⟩ := hS (by omega)
      have hc := hcell k hlt
      have hp := pick_eq l[k]
      have HX : Hid (text (l.take (k + 1)) = text (l.take k) ++ letters.getD (pick l[k]) ⟨#[]⟩) := by
        have e : l.take (k + 1) = l.take k ++ [l[k]] := by rw [List.take_succ_eq_append_getElem hlt]
        rw [e, text_snoc]
        rfl
      generalize pick l[k] = q at hp HX
      have hsk : (text (l.take k)).size ≤ 48 := by
        have := text_size (l.take k)
        rw [List.length_take] at this
        omega
      clear hcell rS cS c7 cF hsz
      obtain ⟨h7, hq⟩ := hp
      rcases (by omega : q = 0 ∨ q = 1 ∨ q = 2 ∨ q = 3 ∨ q = 4 ∨ q = 5 ∨ q = 6) with rfl | rfl | rfl | rfl | rfl | rfl | rfl
      all_goals
        clear hq
        go_wp2
        go_round
        case rel => exact ⟨k + 1, by omega, by go_num, by rw [HX.out]; rfl⟩
        case measure => simp [RowKit.intOf]; omega
    · have hkl : k = l.length := by omega
      subst hkl
      rw [List.take_length]
      have hB : Below w.heap.size w (w.alloc (.cells #[.string ⟨#[97]⟩, .string ⟨#[195, 169]⟩, .string ⟨#[195, 159]⟩, .string ⟨#[230, 176, 180]⟩, .string ⟨#[240, 159, 152, 128]⟩, .string ⟨#[32]⟩, .string ⟨#[126]⟩] 9)) := (Below.refl _ _).alloc (Nat.le_refl _) _
      have hsk : (text l).size ≤ 48 := by omega
      by_cases h6 : 6 < l.length
      · have hi6 : (6 : Int) < (l.length : Int) := by omega
        obtain rfl : W = 2 := by rw [← HW.out, if_pos h6]
        clear HW hS
        go_wp2_with (first
          | (go_at_call 17; (with_reducible refine (rS _).mono ?_); rintro e w1 ⟨rfl, hb1⟩; have hb2 := bt hB hb1)
          | (go_at_call 14; (with_reducible refine (cS _ (hT.next hb2)).mono ?_); rintro e w3 ⟨rfl, hb3⟩; have hb4 := bt hb2 hb3)
          | (go_at_call 14; (with_reducible refine (c7 _ (hT.next hb4)).mono ?_); rintro e w5 ⟨rfl, hb5⟩; have hb6 := bt hb4 hb5)
          | (go_at_call 14; (with_reducible refine (cF _ (hT.next hb6)).mono ?_); rintro e w7 ⟨rfl, hb7⟩; have hb8 := bt hb6 hb7)
          | (go_at_call 21; (with_reducible refine (wakes_any hV hC _ (hT.next hb8)).mono ?_); rintro e we ⟨rfl, hbe⟩; have hbf := bt hb8 hbe))
        go_ret
        exact ⟨rfl, hbf⟩
      · have hi6 : ¬ (6 : Int) < (l.length : Int) := by omega
        obtain rfl : W = 0 := by rw [← HW.out, if_neg h6]
        clear HW hS
        go_wp2_with (first
          | (go_at_call 17; (with_reducible refine (rS _).mono ?_); rintro e w1 ⟨rfl, hb1⟩; have hb2 := bt hB hb1)
          | (go_at_call 14; (with_reducible refine (cS _ (hT.next hb2)).mono ?_); rintro e w3 ⟨rfl, hb3⟩; have hb4 := bt hb2 hb3)
          | (go_at_call 14; (with_reducible refine (c7 _ (hT.next hb4)).mono ?_); rintro e w5 ⟨rfl, hb5⟩; have hb6 := bt hb4 hb5)
          | (go_at_call 14; (with_reducible refine (cF _ (hT.next hb6)).mono ?_); rintro e w7 ⟨rfl, hb7⟩; have hb8 := bt hb6 hb7)
          | (go_at_call 21; (with_reducible refine (wakes_any hV hC _ (hT.next hb8)).mono ?_); rintro e we ⟨rfl, hbe⟩; have hbf := bt hb8 hbe))
        go_ret
        exact ⟨rfl, hbf⟩

theorem labelRunes_law (hV : ValidOk) (hC : CloneOk) (A : Option Addr) (c : Nat) (l : List Int) (w : World) (hm : l.length ≤ maxLen) (hT : Tabs w) (hS : SlK .i64 w w.heap.size A l) :
    Calls Tryd.prog 6 #[.slice A l.length c] w fun e w' => e = .returned (.bool true) ∧ Below w.heap.size w w' := by
  by_cases h : 12 < l.length
  · exact lr_long A c l w h hm
  · exact lr_go hV hC A c l w (by omega) hT hS _ rfl
end Go.Proofs.YtmdimngihpbcnaaDoor.lbl
