/-
  The small functions of package anchor, and of package slices at integers, each by its contract. Conditions: rows shorter than 2^20.
-/
import Derived.Test.YtkpbfhjpmhgmoaaDoorGAn
import Derived.Test.YtkpbfhjpmhgmoaaDoorGGm
import Derived.Deep.CutRange
namespace Go.Proofs.YtkpbfhjpmhgmoaaDoor.anc
open Go.RowKit Go.Lib
open Go.Proofs.YtkpbfhjpmhgmoaaDoor.gmt (Ok five_new)

theorem isNum_at (c : Bool) (n : Int) (w : World) (hc : c = true ↔ 0 ≤ n ∧ n ≤ 4294967295) :
    Calls Tryd.prog 58 #[.int .i64 n] w fun e w' => e = .returned (.bool c) ∧ w = w' := by
  by_cases h1 : 0 ≤ n
  · by_cases h2 : n ≤ 4294967295
    · obtain rfl : c = true := hc.2 ⟨h1, h2⟩
      clear hc
      go_enter Tryd.func58, Tryd.ntmps58
      go_wp2
      go_ret
      exact ⟨rfl, rfl⟩
    · obtain rfl : c = false := by
        cases c with
        | false => rfl
        | true => exact absurd (hc.1 rfl).2 h2
      clear hc
      go_enter Tryd.func58, Tryd.ntmps58
      go_wp2
      go_ret
      exact ⟨rfl, rfl⟩
  · obtain rfl : c = false := by
      cases c with
      | false => rfl
      | true => exact absurd (hc.1 rfl).1 h1
    clear hc
    go_enter Tryd.func58, Tryd.ntmps58
    go_wp2
    go_ret
    exact ⟨rfl, rfl⟩

theorem placeCount_at (z d s l a : Int) (w : World) (ho : Ok z d s l a) :
    Calls Tryd.prog 51 #[.agg #[.int .i64 z, .int .i64 d, .int .i64 s, .int .i64 l, .int .i64 a]] w fun e w' => e = .returned (.int .i64 (d + 1)) ∧ Below w.heap.size w w' := by
  obtain ⟨-, o2, -⟩ := ho
  obtain ⟨-, g1, -⟩ := five_new w z d s l a
  have B0 := bl w (.cells #[.int .i64 z, .int .i64 d, .int .i64 s, .int .i64 l, .int .i64 a] 23)
  go_enter Tryd.func51, Tryd.ntmps51
  go_wp2
  go_ret
  exact ⟨rfl, B0⟩

/-- What a call that makes a row of n integers answers. -/
def OneI (base n : Nat) (l : List Int) (e : Ending) (w' : World) : Prop := ∃ A c, e = .returned (.slice A n c) ∧ l.length = n ∧ OwnV w' base 3 (.slice A n c) (ints l)
theorem oneI_of {w : World} {base n : Nat} {v : Value} {l : List Int} (h : OwnV w base 3 v (ints l)) (hn : l.length = n) : OneI base n l (.returned v) w := by
  obtain ⟨A, c, rfl, -⟩ := h.form
  rw [ints_length, hn] at h ⊢
  exact ⟨A, c, rfl, hn, h⟩

theorem sizes_at (w : World) :
    Calls Tryd.prog 33 #[] w fun e w' => OneI w.heap.size 5 [4, 4, 4, 4, 1] e w' ∧ Below w.heap.size w w' := by
  have ho := ownV_lit (base := w.heap.size) (e := 3) w #[.int .i64 4, .int .i64 4, .int .i64 4, .int .i64 4, .int .i64 1] (Nat.le_refl _) (by unfold maxLen; simp)
  have B0 := bl w (.cells #[.int .i64 4, .int .i64 4, .int .i64 4, .int .i64 4, .int .i64 1] 3)
  go_enter Tryd.func33, Tryd.ntmps33
  go_wp2
  go_ret
  exact ⟨oneI_of (l := [4, 4, 4, 4, 1]) ho rfl, B0⟩

theorem nilI_eq (n c : Nat) (W : World) : (binOp .eql 52 (.slice none n c) (.slice none 0 0)).run Tryd.prog W = .ok (.bool true) W := by kernel_rfl
theorem someI_eq (a : Addr) (n c : Nat) (W : World) : (binOp .eql 52 (.slice (some a) n c) (.slice none 0 0)).run Tryd.prog W = .ok (.bool false) W := by kernel_rfl
theorem cloneI_any (A : Option Addr) (c B n : Nat) (l : List Int) (w : World) (hln : l.length = n) (hA : SlV w B A (ints l)) (hB : B ≤ w.heap.size) (hl : n ≤ 1048576) :
    Calls Tryd.prog 35 #[.slice A n c] w fun e w' => OneI w.heap.size n l e w' ∧ Below w.heap.size w w' := by
  cases A with
  | none =>
    have hn0 : n = 0 := by
      rcases Nat.eq_zero_or_pos n with h | h
      · exact h
      · obtain ⟨b, off, h2, -⟩ := hA (by rw [ints_length]; omega)
        cases h2
    subst hn0
    obtain rfl : l = [] := List.eq_nil_of_length_eq_zero hln
    have hq := nilI_eq 0 c
    go_enter Tryd.func35, Tryd.ntmps35
    go_wp2
    go_ret
    exact ⟨⟨none, 0, rfl, rfl, ownV_nil _ _ _⟩, Below.refl _ _⟩
  | some a =>
    have hq := someI_eq a n c
    have src := (hA.below ((bl w (.cells #[] 3)).mono hB)).src (ints_one l) Tryd.underlying52 c
    have hil := ints_length l
    rw [hil, hln] at src
    have HL := Lib.hid hil
    have HN := Lib.hid hln
    have HS := Lib.hid src
    clear hil hln src
    go_enter Tryd.func35, Tryd.ntmps35
    go_wp2_with (first
      | (at_builtin
         refine wpList_appV _ rfl (.tmp 5) (.tmp 6) _ _ rfl w.heap.size 3 tvI (.slice (some ⟨w.heap.size, 0, none⟩) 0 0) [] rfl (ownV_lit w #[] (Nat.le_refl _) (Nat.zero_le _)) _ (ints l) rfl (by rw [HL.out, HN.out]; exact HS.out) ?_ ?_ ?_ ?_
         · rw [HL.out, HN.out]; unfold maxLen; simp; omega
         · rw [HL.out, HN.out]; simp; omega
         · simp
         intro v2 w2 hown2 hg2 hat2))
    go_ret
    exact ⟨oneI_of (by simpa using hown2) HN.out, (bl w (.cells #[] 3)).grown hg2 (by simp) (fun k hk => by simp [Value.ownBlock] at hk; omega)⟩

/-- What Index answers. -/
def Found (x : Int) (l : List Int) (w : World) (e : Ending) (w' : World) : Prop := ∃ i : Int, e = .returned (.int .i64 i) ∧ (0 ≤ i ↔ x ∈ l) ∧ w = w'
theorem index_any (A : Option Addr) (c B n : Nat) (x : Int) (l : List Int) (w : World) (hln : l.length = n) (hA : SlV w B A (ints l)) (hl : n ≤ 9223372036854775807) :
    Calls Tryd.prog 66 #[.slice A n c, .int .i64 x] w (Found x l w) := by
  go_enter Tryd.func66, Tryd.ntmps66
  go_wp2
  go_loop [5, 8] (fun _ i => ∃ k : Nat, k ≤ n ∧ i = .int .i64 k ∧ x ∉ l.take k) (fun _ i => n - (RowKit.intOf i).toNat)
  case atStart => exact ⟨0, by omega, rfl, by simp⟩
  case round =>
    obtain ⟨k, hk, rfl, hx⟩ := hrel
    by_cases hlt : k < n
    · obtain ⟨b1, off, rfl, hb, hc⟩ := hA (by rw [ints_length]; omega)
      have g := hc k (by rw [ints_length]; omega)
      rw [ints_get] at g
      have i1 : (k : Int) < (n : Int) := by omega
      have ht := List.take_succ_eq_append_getElem (show k < l.length by omega)
      obtain ⟨y, hy⟩ : ∃ y, y = l[k] := ⟨_, rfl⟩
      rw [← hy] at g ht
      by_cases he : x = y
      · have e1 : (x == y) = true := beq_iff_eq.2 he
        have H : Hid (0 ≤ (k : Int) ↔ x ∈ l) := Lib.hid (iff_of_true (by omega) (by rw [he, hy]; exact List.getElem_mem _))
        clear hc hA hx ht hy he hln
        go_wp2
        go_ret
        exact ⟨k, rfl, H.out, rfl⟩
      · have e1 : (x == y) = false := beq_eq_false_iff_ne.2 he
        have H : Hid (x ∉ l.take (k + 1)) := Lib.hid (by rw [ht, List.mem_append, List.mem_singleton]; exact fun h => h.elim hx he)
        clear hc hA hx ht hy he hln
        go_wp2
        go_round
        case rel => exact ⟨k + 1, by omega, by go_num, H.out⟩
        case measure => simp [RowKit.intOf]; omega
    · rw [List.take_of_length_le (by omega)] at hx
      have H : Hid (0 ≤ (-1 : Int) ↔ x ∈ l) := Lib.hid (iff_of_false (by omega) hx)
      clear hx hA hln
      go_wp2
      go_ret
      exact ⟨-1, rfl, H.out, rfl⟩
theorem contains_any (b : Bool) (A : Option Addr) (c B n : Nat) (x : Int) (l : List Int) (w : World) (hln : l.length = n) (hA : SlV w B A (ints l)) (hl : n ≤ 9223372036854775807) (hb : b = true ↔ x ∈ l) :
    Calls Tryd.prog 59 #[.slice A n c, .int .i64 x] w fun e w' => e = .returned (.bool b) ∧ w = w' := by
  have cI := index_any A c B n x l w hln hA hl
  cases b with
  | true =>
    have hm := hb.1 rfl
    clear hb hA hln hl
    go_enter Tryd.func59, Tryd.ntmps59
    go_wp2_with (go_at_call 66; refine cI.mono ?_; rintro e w1 ⟨i, rfl, hi, rfl⟩; replace hi := hi.2 hm)
    go_ret
    exact ⟨rfl, rfl⟩
  | false =>
    have hm : x ∉ l := fun h => by have := hb.2 h; cases this
    clear hb hA hln hl
    go_enter Tryd.func59, Tryd.ntmps59
    go_wp2_with (go_at_call 66; refine cI.mono ?_; rintro e w1 ⟨i, rfl, hi, rfl⟩; replace hi : decide (0 ≤ i) = false := decide_eq_false fun h => hm (hi.1 h))
    go_ret
    exact ⟨rfl, rfl⟩
end Go.Proofs.YtkpbfhjpmhgmoaaDoor.anc
