/-
  The program's functions for parity, each by its contract. Conditions: byte strings shorter than 2^20, lists shorter than 2^20.
-/
import Derived.Test.YthdahdopejapmaaKeep
import Derived.Test.YthdahdopejapmaaSlices
import Derived.Test.YthdahdopejapmaaXorMath
import Derived.Lib.AppendZerosOnto
import Derived.Laws.BitsAllLaws
namespace Go.Proofs.Ythdahdopejapmaa.par
open Go.RowKit Go.Lib

theorem xor_u8 (x y : UInt8) : bits .xor .u8 (x.toNat : Int) (y.toNat : Int) = ((x ^^^ y).toNat : Int) := by
  have := u8_xor_nat x.toNat y.toNat x.toNat_lt y.toNat_lt
  rwa [← UInt8.toNat_xor] at this
theorem made_zeros (n : Nat) : (madeCells (Value.int .u8 0).cells n).toList = cells8 (zeros n) := by
  unfold madeCells zeros cells8
  have h1 : (Value.int .u8 0).cells = #[.int .u8 0] := rfl
  rw [h1]
  apply List.ext_getElem
  · simp
  · intro i h2 h3
    simp [by8, Nat.mod_one]
theorem make8 (base n : Nat) (W : World) (hn : n ≤ 16777216) (hb : base ≤ W.heap.size) :
    ∃ w', (Instr.makeSlice 29 (.int .i64 (n : Int)) (.int .i64 (n : Int))).run Try.prog W = .ok (.slice (some ⟨W.heap.size, 0, none⟩) n n) w' ∧
      Own w' base 5 (.slice (some ⟨W.heap.size, 0, none⟩) n n) (zeros n) ∧ W.grownBy w' none := by
  obtain ⟨ht, _, i, hi, hz, h1, hb8⟩ := t8
  obtain ⟨w', hr, ho, hg⟩ := run_makeSlice_full (P := Try.prog) (w := W) base 29 5 i (.int .u8 0) 1 ht hi hz h1 .i64 .i64 n (by omega) (by rw [hb8]; omega) (by unfold maxLen; omega) hb
  refine ⟨w', hr, ?_, hg⟩
  unfold Own
  rw [zeros_length, ← made_zeros]
  rwa [Nat.mul_one] at ho

/-- Each has n bytes: what 'together' answers. -/
theorem together_ok (n : Nat) (A : Option Addr) (c B : Nat) (rs : List Row) (w : World) (hA : SlV w B A (vals rs)) (hR : Rws w B rs) (hB : B ≤ w.heap.size) (hn : n ≤ 1048576) (hr : rs.length ≤ 1048576) (hl : AllLen n (lists rs)) :
    Calls Try.prog 71 #[.int .i64 n, .slice A rs.length c] w fun e w' => (∃ v, e = .returned (.tuple #[v, .int .i64 0]) ∧ Own w' w.heap.size 5 v (xall n (lists rs))) ∧ Below w.heap.size w w' := by
  go_enter Try.func71, Try.ntmps71
  go_wp2
  go_loop [7, 15] (fun _ i => ∃ k : Nat, i = .int .i64 k ∧ k ≤ rs.length) (fun _ i => rs.length - (RowKit.intOf i).toNat)
  case atStart => exact ⟨0, rfl, by omega⟩
  case round =>
    obtain ⟨k, rfl, hk⟩ := hrel
    by_cases hlt : k < rs.length
    · have i1 : (k : Int) < (rs.length : Int) := by omega
      obtain ⟨b, off, rfl, hb, hc⟩ := hA (by rw [vals_length]; omega)
      have g := hc k (by rw [vals_length]; omega)
      rw [vals_get] at g
      have hln : (rs[k]'hlt).l.length = n := by
        have := hl.get (i := k) (by rw [lists_length]; exact hlt)
        rwa [show (lists rs)[k]'(by rw [lists_length]; exact hlt) = (rs[k]'hlt).l by simp [lists]] at this
      rw [hln] at g
      have n1 : ((n : Int) != (n : Int)) = false := bne_self_eq_false _
      clear hc hA hln
      go_wp2
      go_round
      case rel => exact ⟨k + 1, by go_num, by omega⟩
      case measure => simp [RowKit.intOf]; omega
    · have i1 : ¬ (k : Int) < (rs.length : Int) := by omega
      obtain ⟨w1, hmk, hown1, hg1⟩ := make8 w.heap.size n w (by omega) (Nat.le_refl _)
      go_wp2
      have hb1 : Below w.heap.size w w1 := (Below.refl _ _).grown hg1 (Nat.le_refl _) (fun k hk => by cases hk)
      go_loopw [10, 11, 12, 28, 34] (fun _ _ _ i _ w' => ∃ (k : Nat) (l : List UInt8), i = .int .i64 k ∧ k ≤ rs.length ∧ l.length = n ∧ Own w' w.heap.size 5 (.slice (some ⟨w.heap.size, 0, none⟩) n n) l ∧ Below w.heap.size w w' ∧ ((lists rs).drop k).foldl zx l = xall n (lists rs)) (fun _ _ _ i _ _ => rs.length - (RowKit.intOf i).toNat)
      case atStart => exact ⟨0, _, rfl, by omega, zeros_length n, hown1, hb1, rfl⟩
      case round =>
        rename_i wr
        obtain ⟨k, l, rfl, hk, hln, hown, hbr, hfd⟩ := hrel
        by_cases hlt : k < rs.length
        · have i1 : (k : Int) < (rs.length : Int) := by omega
          obtain ⟨b, off, rfl, hb, hc⟩ := (hA.below (hbr.mono hB)) (by rw [vals_length]; omega)
          have g := hc k (by rw [vals_length]; omega)
          rw [vals_get] at g
          have hmem : rs[k]'hlt ∈ rs := List.getElem_mem hlt
          have hsl := hR _ hmem
          have hll : k < (lists rs).length := by rw [lists_length]; exact hlt
          have hlk : (lists rs)[k]'hll = (rs[k]'hlt).l := by simp [lists]
          have hrn : (rs[k]'hlt).l.length = n := by rw [← hlk]; exact hl.get hll
          rw [List.drop_eq_getElem_cons hll, hlk, List.foldl_cons] at hfd
          have HF := Lib.hid hfd
          clear hfd hlk hmem hc
          generalize (rs[k]'hlt).l = r at *
          generalize (rs[k]'hlt).A = RA at *
          generalize (rs[k]'hlt).c = rc at *
          rw [hrn] at g
          go_wp2
          go_loopw [11, 12, 34] (fun _ _ i w' => ∃ (j : Nat), i = .int .i64 j ∧ j ≤ n ∧ Own w' w.heap.size 5 (.slice (some ⟨w.heap.size, 0, none⟩) n n) (part l r j) ∧ Below w.heap.size w w') (fun _ _ i _ => n - (RowKit.intOf i).toNat)
          case atStart => exact ⟨0, rfl, by omega, by rw [part_zero]; exact hown, hbr⟩
          case round =>
            rename_i wq
            obtain ⟨j, rfl, hj, hownj, hbj⟩ := hrel
            by_cases hjn : j < n
            · have i2 : (j : Int) < (n : Int) := by omega
              have hpl : (part l r j).length = n := part_length hln hrn hj
              obtain ⟨b2, off2, rfl, hb2, hc2⟩ := (hsl.below (hbj.mono hB)) (by omega)
              have g2 := hc2 j (by omega)
              have g3 := hownj.cell j (by omega)
              rw [part_get hln hrn hjn] at g3
              have g4 := hownj.frozen hpl j
              obtain ⟨ho5, hg5⟩ := hownj.store hpl j (l[j]'(by omega) ^^^ r[j]'(by omega))
              rw [part_set hln hrn hjn] at ho5
              have hx := xor_u8 (l[j]'(by omega)) (r[j]'(by omega))
              unfold by8 at g2 g3 ho5 hg5
              generalize (l[j]'(by omega)) = x at *
              generalize (r[j]'(by omega)) = y at *
              have hb5 := hbj.grown hg5 (by simpa using hbj.size) (fun q hq => by cases hq; exact Nat.le_refl _)
              clear hc2 hpl hownj hln hrn hl
              have HO := Lib.hid ho5
              clear ho5 hg5
              go_wp2
              go_roundw
              case rel => exact ⟨j + 1, by go_num, by omega, HO.out, hb5⟩
              case measure => simp [RowKit.intOf]; omega
            · have i2 : ¬ (j : Int) < (n : Int) := by omega
              have hjj : j = n := by omega
              subst hjj
              rw [part_full hln hrn] at hownj
              have hzl : (zx l r).length = j := zx_length hln hrn
              clear hln hrn
              go_wp2
              go_roundw
              case rel => exact ⟨k + 1, zx l r, by go_num, by omega, hzl, hownj, hbj, HF.out⟩
              case measure => simp [RowKit.intOf]; omega
        · have i1 : ¬ (k : Int) < (rs.length : Int) := by omega
          rw [List.drop_eq_nil_of_le (by rw [lists_length]; omega)] at hfd
          have hfd' : l = xall n (lists rs) := hfd
          rw [hfd'] at hown
          clear hfd hfd' hln
          go_wp2
          go_ret2
          exact ⟨⟨_, rfl, hown⟩, hbr⟩
/-- One has not: the error. -/
theorem together_bad (n : Nat) (A : Option Addr) (c B : Nat) (rs : List Row) (w : World) (hA : SlV w B A (vals rs)) (hr : rs.length ≤ 1048576) (hl : ¬ AllLen n (lists rs)) :
    Calls Try.prog 71 #[.int .i64 n, .slice A rs.length c] w fun e w' => e = .returned (.tuple #[.slice none 0 0, .int .i64 2]) ∧ w = w' := by
  go_enter Try.func71, Try.ntmps71
  go_wp2
  go_loop [7, 15] (fun _ i => ∃ k : Nat, i = .int .i64 k ∧ k ≤ rs.length ∧ AllLen n ((lists rs).take k)) (fun _ i => rs.length - (RowKit.intOf i).toNat)
  case atStart => exact ⟨0, rfl, by omega, AllLen.nil n⟩
  case round =>
    obtain ⟨k, rfl, hk, hal⟩ := hrel
    by_cases hlt : k < rs.length
    · have i1 : (k : Int) < (rs.length : Int) := by omega
      obtain ⟨b, off, rfl, hb, hc⟩ := hA (by rw [vals_length]; omega)
      have g := hc k (by rw [vals_length]; omega)
      rw [vals_get] at g
      by_cases hln : (rs[k]'hlt).l.length = n
      · have HA : Hid (AllLen n ((lists rs).take (k + 1))) := by
          show AllLen n _
          rw [List.take_succ_eq_append_getElem (by rw [lists_length]; exact hlt)]
          refine hal.append (AllLen.cons ?_ (AllLen.nil n))
          simpa [lists] using hln
        rw [hln] at g
        have n1 : ((n : Int) != (n : Int)) = false := bne_self_eq_false _
        clear hc hA hln hal hl
        go_wp2
        go_round
        case rel => exact ⟨k + 1, by go_num, by omega, HA.out⟩
        case measure => simp [RowKit.intOf]; omega
      · generalize (rs[k]'hlt).l.length = m at *
        have n1 : ((m : Int) == (n : Int)) = false := beq_eq_false_iff_ne.2 (by omega)
        have n2 : ((m : Int) != (n : Int)) = true := bne_iff_ne.2 (by omega)
        have n3 : (m == n) = false := beq_eq_false_iff_ne.2 hln
        have n4 : (m != n) = true := bne_iff_ne.2 hln
        clear hc hA hal hl
        go_wp2
        go_ret2
        exact ⟨rfl, rfl⟩
    · exact absurd (by rwa [List.take_of_length_le (by rw [lists_length]; omega)] at hal) hl

/-- What Two, All, Rest and Turn answer where all is right: the bytes l, in memory of their own. -/
def Ans (base : Nat) (l : List UInt8) (e : Ending) (w' : World) : Prop := ∃ v, e = .returned (.tuple #[v, .int .i64 0]) ∧ Own w' base 5 v l
theorem Ans.less {base base' : Nat} {l : List UInt8} {e : Ending} {w' : World} (h : Ans base l e w') (hb : base' ≤ base) : Ans base' l e w' := by
  obtain ⟨v, rfl, ho⟩ := h
  exact ⟨v, rfl, ho.less hb⟩
theorem bl (w : World) (o : Obj) : Below w.heap.size w (w.alloc o) := (Below.refl _ _).alloc (Nat.le_refl _) _
/-- 'together' of a list just laid. -/
theorem tog_ok (n m : Nat) (cs : Array Value) (t : TypeId) (rs : List Row) (w : World) (hcs : cs.toList = vals rs) (hm : rs.length = m) (hR : Rws w w.heap.size rs) (hn : n ≤ 1048576) (hr : m ≤ 1048576) (hl : AllLen n (lists rs)) :
    Calls Try.prog 71 #[.int .i64 n, .slice (some ⟨w.heap.size, 0, none⟩) m m] (w.alloc (.cells cs t)) fun e w' => Ans w.heap.size (xall n (lists rs)) e w' ∧ Below w.heap.size w w' := by
  subst hm
  refine (together_ok n (some ⟨w.heap.size, 0, none⟩) rs.length (w.heap.size + 1) rs (w.alloc (.cells cs t)) (SlV.of_block (heap_alloc_new _ _) hcs (by omega)) ((hR.below (bl w _)).more (by omega)) (by simp) hn hr hl).mono ?_
  rintro e w' ⟨h, hb⟩
  exact ⟨Ans.less h (by simp), (bl w _).trans (hb.mono (by simp))⟩
theorem tog_bad (n m : Nat) (cs : Array Value) (t : TypeId) (rs : List Row) (w : World) (hcs : cs.toList = vals rs) (hm : rs.length = m) (hr : m ≤ 1048576) (hl : ¬ AllLen n (lists rs)) :
    Calls Try.prog 71 #[.int .i64 n, .slice (some ⟨w.heap.size, 0, none⟩) m m] (w.alloc (.cells cs t)) fun e w' => e = .returned (.tuple #[.slice none 0 0, .int .i64 2]) ∧ Below w.heap.size w w' := by
  subst hm
  refine (together_bad n (some ⟨w.heap.size, 0, none⟩) rs.length (w.heap.size + 1) rs (w.alloc (.cells cs t)) (SlV.of_block (heap_alloc_new _ _) hcs (by omega)) hr hl).mono ?_
  rintro e w' ⟨rfl, rfl⟩
  exact ⟨rfl, bl w _⟩

theorem all_ok (n : Nat) (A : Option Addr) (c : Nat) (rs : List Row) (w : World) (hA : SlV w w.heap.size A (vals rs)) (hR : Rws w w.heap.size rs) (hn : n ≤ 96) (hr : rs.length ≤ 1048576) (hl : AllLen n (lists rs)) :
    Calls Try.prog 54 #[.slice A rs.length c, .int .i64 n] w fun e w' => Ans w.heap.size (xall n (lists rs)) e w' ∧ Below w.heap.size w w' := by
  have c1 := together_ok n A c _ rs w hA hR (Nat.le_refl _) (by omega) hr hl
  have i1 : ¬ (96 : Int) < (n : Int) := by omega
  have i2 : ¬ (n : Int) < 0 := by omega
  clear hA hR hl
  go_enter Try.func54, Try.ntmps54
  go_wp2_with (go_at_call 71; (with_reducible refine c1.mono ?_); rintro e w1 ⟨⟨v, rfl, hown⟩, hb1⟩)
  go_ret2
  exact ⟨⟨v, rfl, hown⟩, hb1⟩
theorem all_bad (n : Nat) (A : Option Addr) (c B : Nat) (rs : List Row) (w : World) (hA : SlV w B A (vals rs)) (hn : n ≤ 96) (hr : rs.length ≤ 1048576) (hl : ¬ AllLen n (lists rs)) :
    Calls Try.prog 54 #[.slice A rs.length c, .int .i64 n] w fun e w' => e = .returned (.tuple #[.slice none 0 0, .int .i64 2]) ∧ w = w' := by
  have c1 := together_bad n A c _ rs w hA hr hl
  have i1 : ¬ (96 : Int) < (n : Int) := by omega
  have i2 : ¬ (n : Int) < 0 := by omega
  clear hA hl
  go_enter Try.func54, Try.ntmps54
  go_wp2_with (go_at_call 71; (with_reducible refine c1.mono ?_); rintro e w1 ⟨rfl, rfl⟩)
  go_ret2
  exact ⟨rfl, rfl⟩
theorem all_arg (n : Int) (A : Option Addr) (c m : Nat) (w : World) (hn : n < 0 ∨ 96 < n) :
    Calls Try.prog 54 #[.slice A m c, .int .i64 n] w fun e w' => e = .returned (.tuple #[.slice none 0 0, .int .i64 1]) ∧ w = w' := by
  by_cases h : n < 0
  · clear hn
    go_enter Try.func54, Try.ntmps54
    go_wp2
    go_ret2
    exact ⟨rfl, rfl⟩
  · have h2 : 96 < n := by omega
    clear hn
    go_enter Try.func54, Try.ntmps54
    go_wp2
    go_ret2
    exact ⟨rfl, rfl⟩
end Go.Proofs.Ythdahdopejapmaa.par
