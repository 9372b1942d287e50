/-
  Are readings more than the statements play? Conditions: none.
-/
import Derived.Test.YtejfehkcjcohdaaNwV
namespace Go.Proofs.Ytejfehkcjcohdaa.nwt
open Go.RowKit Go.Lib
open Go.Proofs.Ytejfehkcjcohdaa.anc (bl)

def HeavyG (ds : List (Int × List UInt8)) : Prop := 80 < ds.length ∨ ∃ x ∈ ds, 300 < x.2.length
theorem take_more {α : Type} {l : List α} {k : Nat} {x : α} (h : l[k]? = some x) : l.take (k + 1) = l.take k ++ [x] := by
  rw [List.take_add_one, h]
  rfl
set_option maxRecDepth 100000 in
set_option maxHeartbeats 2000000 in
theorem heavyG_any (b : Bool) (A : Option Addr) (n c : Nat) (rs : List GotR) (w : World) (hn : rs.length = n) (hA : SlV w w.heap.size A (gvs rs)) (hR : GIn w w.heap.size rs) (hb : b = true ↔ HeavyG (gds rs)) :
    Calls Try.prog 8 #[.slice A n c] w fun e w' => e = .returned (.bool b) ∧ w = w' := by
  by_cases h1 : 80 < n
  · obtain rfl : b = true := hb.2 (.inl (by rw [gds_length]; omega))
    have i1 : (80 : Int) < (n : Int) := by omega
    clear hb hA hR
    go_enter Try.func8, Try.ntmps8
    go_wp2
    go_ret
    exact ⟨rfl, rfl⟩
  have i1 : (n : Int) ≤ 80 := by omega
  have HC : Hid (b = true ↔ ∃ x ∈ gds rs, 300 < x.2.length) := Lib.hid (hb.trans ⟨fun h => h.resolve_left (by rw [gds_length]; omega), fun h => .inr h⟩)
  clear hb
  go_enter Try.func8, Try.ntmps8
  go_wp2_with fail
  go_loop [3] (fun i => ∃ k : Nat, i = .int .i64 k ∧ k ≤ n ∧ ∀ x ∈ (gds rs).take k, ¬ 300 < x.2.length) (fun i => n - (RowKit.intOf i).toNat)
  case atStart => exact ⟨0, rfl, by omega, fun h hh => by simp at hh⟩
  case round =>
    obtain ⟨k, rfl, hk, hs2⟩ := hrel
    by_cases hlt : k < n
    · have j1 : (k : Int) < (n : Int) := by omega
      obtain ⟨b1, off, r, rfl, hb1, r0, r1, -, -, -, e1⟩ := got_at hA hR (show k < rs.length by omega)
      by_cases h3 : 300 < r.l.length
      · have j3 : (300 : Int) < (r.l.length : Int) := by omega
        have H : Hid (b = true) := Lib.hid (HC.out.2 ⟨r.d, List.mem_of_getElem? e1, h3⟩)
        clear hs2 e1
        go_wp2_with fail
        go_ret
        exact ⟨ret_bool H.out.symm, rfl⟩
      · have j3 : (r.l.length : Int) ≤ 300 := by omega
        have HN : Hid (∀ x ∈ (gds rs).take (k + 1), ¬ 300 < x.2.length) := Lib.hid fun x hm => by
          rw [take_more e1] at hm
          rcases List.mem_append.1 hm with hm | hm
          · exact hs2 x hm
          · obtain rfl := List.mem_singleton.1 hm
            exact h3
        clear hs2 e1
        go_wp2_with fail
        go_round
        case rel => exact ⟨k + 1, by go_num, by omega, HN.out⟩
        case measure => simp [RowKit.intOf]; omega
    · have j1 : ¬ (k : Int) < (n : Int) := by omega
      have H : Hid (b = false) := Lib.hid (by
        cases b
        · rfl
        · obtain ⟨x, hx, h20⟩ := HC.out.1 rfl
          exact absurd h20 (hs2 x (by rw [List.take_of_length_le (by rw [gds_length]; omega)]; exact hx)))
      clear hs2
      go_wp2_with fail
      go_ret
      exact ⟨ret_bool H.out.symm, rfl⟩
/-- What is not more. -/
theorem lightG {rs : List GotR} (h : ¬ HeavyG (gds rs)) : rs.length ≤ 80 ∧ ∀ r ∈ rs, r.l.length ≤ 300 := by
  refine ⟨Nat.le_of_not_lt fun k => h (.inl (by rw [gds_length]; exact k)), fun r hr => Nat.le_of_not_lt fun k => h (.inr ⟨r.d, List.mem_map_of_mem hr, k⟩)⟩
end Go.Proofs.Ytejfehkcjcohdaa.nwt
