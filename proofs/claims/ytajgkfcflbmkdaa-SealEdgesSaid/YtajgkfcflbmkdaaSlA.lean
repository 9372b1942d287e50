/-
  The library's Concat of byte strings, and package seal's Make, each by its contract. Conditions: byte strings shorter than 2^20.
-/
import Derived.Test.YtajgkfcflbmkdaaSlMath
import Derived.Test.YtajgkfcflbmkdaaSumA
import Derived.Test.YtajgkfcflbmkdaaPkC
import Derived.Test.YtajgkfcflbmkdaaSlices
import Derived.Lib.AppendZerosOnto
import Derived.Deep.RegionHeld3
namespace Go.Proofs.Ytajgkfcflbmkdaa.sel
open Go.RowKit Go.Lib
open Go.Proofs.Ytajgkfcflbmkdaa.pck (Put AllFit Rowed bytesOf le le_length row_any part_ok part_long put_ok Fits own_far)

theorem bl (w : World) (o : Obj) : Below w.heap.size w (w.alloc o) := (Below.refl _ _).alloc (Nat.le_refl _) o
/-- append of k noughts onto nil. -/
theorem grow_run (k : Nat) (ty : TypeId) (w : World) (h0 : 0 < k) (hk : k ≤ 1048576) :
    ∃ (cap : Nat) (cur : Array Value), cap ≤ maxLen ∧ cur.size = cap ∧ (Builtin.append_ #[22, 3] ty #[.slice none 0 0, .int .i64 (k : Int)]).run Try.prog w = .ok (.slice (some ⟨w.heap.size, 0, none⟩) k cap) (w.drew.alloc (.cells cur 5)) := by
  obtain ⟨ht, _, i, hi, hz, h1, hb⟩ := t8
  have hr := run_append_grow_zeros (P := Try.prog) w 22 3 ty 5 i (.int .u8 0) .i64 .i64 ht Try.underlying3 hi hz none 0 0 [] (run_firstCells_none w.drew i.size 0 0 0) k h0 (by omega) (by omega) (by omega) (by rw [hb]; omega) (growslice_fits (by omega) (by rw [hb]; omega))
  rw [Nat.zero_add] at hr
  have hge := grownCap_ge w k 0 5
  refine ⟨_, _, grownCap_le_maxLen w k 0 5 (by unfold maxLen; omega), ?_, hr⟩
  have hz1 : (Value.int .u8 0).cells.size = 1 := rfl
  simp [size_zeroCells, hz1]
  omega
theorem grow_any (k : Nat) (w : World) (hk : k ≤ 1048576) :
    Calls Try.prog 39 #[.slice none 0 0, .int .i64 k] w fun e w' => One w.heap.size [] e w' ∧ Below w.heap.size w w' := by
  by_cases h0 : k = 0
  · subst h0
    go_enter Try.func39, Try.ntmps39
    go_wp2
    go_ret
    exact ⟨⟨_, rfl, own_nil _ _ _⟩, Below.refl _ _⟩
  · have i1 : (0 : Int) < (k : Int) := by omega
    have i2 : ¬ (k : Int) < 0 := by omega
    obtain ⟨cap, cur, hm, hs, hr⟩ := grow_run k 22 w (by omega) hk
    go_enter Try.func39, Try.ntmps39
    go_wp2_with (first
      | (at_builtin
         refine wpList_appRun _ rfl (.tmp 20) (.tmp 21) _ _ rfl _ _ _ _ rfl rfl hr ?_))
    go_ret
    exact ⟨⟨_, rfl, World.ownsRow_made w.drew cur cap (Nat.le_refl _) hm (by omega)⟩, below_dr (Below.refl _ _) |>.trans (bl w.drew _)⟩

/-- All rows, one behind the other. -/
def flats (rs : List Row) : List UInt8 := rs.flatMap Row.l
theorem flats_next (rs : List Row) (k : Nat) (h : k < rs.length) : flats (rs.take (k + 1)) = flats (rs.take k) ++ (rs[k]).l := by
  unfold flats
  rw [List.take_succ_eq_append_getElem h, List.flatMap_append]
  simp
theorem flats_take_le (rs : List Row) (k : Nat) : (flats (rs.take k)).length ≤ (flats rs).length := by
  conv => rhs; rw [← List.take_append_drop k rs]
  unfold flats
  rw [List.flatMap_append, List.length_append]
  omega
set_option maxHeartbeats 1000000 in
theorem concat_any (A : Option Addr) (c B n : Nat) (rs : List Row) (w : World) (hn : rs.length = n) (hA : SlV w B A (vals rs)) (hR : Rws w B rs) (hB : B ≤ w.heap.size) (hq : n ≤ 1048576) (hl : (flats rs).length ≤ 1048576) :
    Calls Try.prog 26 #[.slice A n c] w fun e w' => One w.heap.size (flats rs) e w' ∧ Below w.heap.size w w' := by
  subst hn
  go_enter Try.func26, Try.ntmps26
  go_wp2
  go_loop [3, 5, 11] (fun s _ i => ∃ k : Nat, i = .int .i64 k ∧ k ≤ rs.length ∧ s = .int .i64 ((flats (rs.take k)).length : Nat)) (fun _ _ i => rs.length - (RowKit.intOf i).toNat)
  case atStart => exact ⟨0, rfl, by omega, rfl⟩
  case round =>
    obtain ⟨k, rfl, hk, rfl⟩ := hrel
    by_cases hlt : k < rs.length
    · have i1 : (k : Int) < (rs.length : Int) := by omega
      obtain ⟨b, off, rfl, hb, hc⟩ := hA (by rw [vals_length]; omega)
      have g := hc k (by rw [vals_length]; omega)
      rw [vals_get] at g
      have hn : (flats (rs.take (k + 1))).length = (flats (rs.take k)).length + (rs[k]'hlt).l.length := by rw [flats_next rs k hlt, List.length_append]
      have hle := flats_take_le rs (k + 1)
      have HN := Lib.hid hn
      rw [hn] at hle
      clear hn hc hA hR
      generalize (flats (rs.take k)).length = s at *
      generalize (rs[k]'hlt).l.length = m at *
      have i2 : ¬ (s : Int) + (m : Int) < 0 := by omega
      go_wp2
      go_round
      case rel => exact ⟨k + 1, by go_num, by omega, by rw [HN.out]; go_num⟩
      case measure => simp [RowKit.intOf]; omega
    · have i1 : ¬ (k : Int) < (rs.length : Int) := by omega
      rw [List.take_of_length_le (by omega)]
      generalize hS : (flats rs).length = S at *
      have HS := Lib.hid hS
      clear hS
      go_wp2_with (go_at_call 39; (with_reducible refine (grow_any _ _ hl).mono ?_); rintro e w1 ⟨⟨v, rfl, hown1⟩, hb1⟩)
      clear i1 hlt
      go_loopw [6, 8, 27] (fun v _ i w' => ∃ k : Nat, i = .int .i64 k ∧ k ≤ rs.length ∧ Own w' w.heap.size 5 v (flats (rs.take k)) ∧ Below w.heap.size w w') (fun _ _ i _ => rs.length - (RowKit.intOf i).toNat)
      case atStart => exact ⟨0, rfl, by omega, hown1, hb1⟩
      case round =>
        rename_i wr
        obtain ⟨j, rfl, hj, hown, hbr⟩ := hrel
        by_cases hlt : j < rs.length
        · have i1 : (j : Int) < (rs.length : Int) := by omega
          obtain ⟨b, off, rfl, hb, hc⟩ := (hA.below (hbr.mono hB)) (by rw [vals_length]; omega)
          have g := hc j (by rw [vals_length]; omega)
          rw [vals_get] at g
          have hsl := (hR _ (List.getElem_mem hlt)).below (hbr.mono hB)
          have hn := flats_next rs j hlt
          have hle := flats_take_le rs (j + 1)
          rw [HS.out, hn, List.length_append] at hle
          have HN := Lib.hid hn
          clear hn hc hA hR
          generalize flats (rs.take j) = F at *
          generalize (rs[j]'hlt).l = vs at *
          generalize (rs[j]'hlt).A = X at *
          generalize (rs[j]'hlt).c = x at *
          go_wp2_with (first
            | (at_builtin
               refine wpList_app8 _ rfl (.tmp 31) (.tmp 32) _ _ rfl w.heap.size 5 t8 _ F rfl hown _ vs rfl (hsl.src Try.underlying22 x) (by omega) hbr.size ?_
               intro v2 w2 hown2 hg2 hat2))
          have hb2 := hbr.grown hg2 hbr.size (fun q hq => (World.ownsRow.lt hown q hq).1)
          go_roundw
          case rel => exact ⟨j + 1, by go_num, by omega, by rw [HN.out]; exact hown2, hb2⟩
          case measure => simp [RowKit.intOf]; omega
        · have i1 : ¬ (j : Int) < (rs.length : Int) := by omega
          rw [List.take_of_length_le (by omega)] at hown
          go_wp2
          go_ret
          exact ⟨⟨_, rfl, hown⟩, hbr⟩

/-- The sizes of an address and of a stamp. -/
theorem sizes_any (w : World) :
    Calls Try.prog 24 #[] w fun e w' => e = .returned (.slice (some ⟨w.heap.size, 0, none⟩) 2 2) ∧ w' = w.alloc (.cells #[.int .i64 2, .int .i64 4] 3) := by
  go_enter Try.func24, Try.ntmps24
  go_wp2
  go_ret
  exact ⟨rfl, rfl⟩
end Go.Proofs.Ytajgkfcflbmkdaa.sel
