/-
  The document's own answers for parity (as the statements' package gives them), each by its contract. Conditions: lists and byte strings shorter than 2^20.
-/
import Derived.Test.YtgpgjbdjjanhaaaXorR
namespace Go.Proofs.Ytgpgjbdjjanhaaa.par
open Go.RowKit Go.Lib

set_option maxHeartbeats 1000000 in
theorem ref_two (A A' : Option Addr) (c c' B B' : Nat) (a b : List UInt8) (w : World) (hab : a.length = b.length) (hA : Sl w B A a) (hA' : Sl w B' A' b) (hB : B ≤ w.heap.size) (hB' : B' ≤ w.heap.size) (hl : a.length ≤ 1048576) :
    Calls Try.prog 16 #[.slice A a.length c, .slice A' a.length c'] w fun e w' => One w.heap.size (zx a b) e w' ∧ Below w.heap.size w w' := by
  go_enter Try.func16, Try.ntmps16
  go_wp2
  go_loopw [5, 6] (fun v i w' => ∃ k : Nat, k ≤ a.length ∧ i = .int .i64 k ∧ Own w' w.heap.size 5 v (List.zipWith (· ^^^ ·) (a.take k) (b.take k)) ∧ Below w.heap.size w w') (fun _ i _ => a.length - (RowKit.intOf i).toNat)
  case atStart => exact ⟨0, by omega, rfl, own_nil _ _ _, Below.refl _ _⟩
  case round =>
    rename_i wr
    obtain ⟨k, hk, rfl, hown, hbr⟩ := hrel
    by_cases hlt : k < a.length
    · obtain ⟨b1, off, rfl, hb, hc⟩ := (hA.below (hbr.mono hB)) (by omega)
      obtain ⟨b2, off', rfl, hb', hc'⟩ := (hA'.below (hbr.mono hB')) (by omega)
      have g := hc k hlt
      have g' := hc' k (by omega)
      have i1 : (k : Int) < (a.length : Int) := by omega
      have hz : List.zipWith (· ^^^ ·) (a.take (k + 1)) (b.take (k + 1)) = List.zipWith (· ^^^ ·) (a.take k) (b.take k) ++ [a[k] ^^^ b[k]'(by omega)] := by
        rw [List.take_succ_eq_append_getElem hlt, List.take_succ_eq_append_getElem (show k < b.length by omega), List.zipWith_append (by rw [List.length_take, List.length_take]; omega)]
        rfl
      have hxy := xor_u8 a[k] (b[k]'(by omega))
      unfold by8 at g g'
      clear hc hc' hA hA'
      have HZ := Lib.hid hz
      have hzl : (List.zipWith (· ^^^ ·) (a.take k) (b.take k)).length = k := by rw [List.length_zipWith, List.length_take, List.length_take]; omega
      have HL := Lib.hid hzl
      clear hz hzl
      generalize List.zipWith (· ^^^ ·) (a.take k) (b.take k) = z at hown HZ HL
      generalize a[k] = x at g hxy HZ
      generalize (b[k]'(by omega)) = y at g' hxy HZ
      have hx := x.toNat_lt
      have hy := y.toNat_lt
      clear hab
      go_wp2_with fail
      have hfar : ∀ q, u5.ownBlock = some q → w.heap.size ≤ q := fun q hq => (World.ownsRow.lt hown q hq).1
      have hlw := hbr.size
      have n1 : some b1 ≠ u5.ownBlock := fun h => by have := hfar b1 h.symm; omega
      have n2 : some b2 ≠ u5.ownBlock := fun h => by have := hfar b2 h.symm; omega
      go_region_held3 (fun W => W.cell? ⟨b1, off + k, none⟩ = some (.int .u8 (x.toNat : Int)) ∧ W.cell? ⟨b2, off' + k, none⟩ = some (.int .u8 (y.toNat : Int)))
        (first
          | go_keep
          | (go_split_ands
             refine ⟨?_, ?_⟩
             · (rw [hg3.cell_far _ (by simp; omega) n1]; assumption)
             · (rw [hg3.cell_far _ (by simp; omega) n2]; assumption)))
        ((refine step_app8 _ (by rfl) _ _ _ _ (by rfl) w.heap.size 5 t8 u5 z (by rfl) (hown.alloc _).drew _ [x ^^^ y] (by rfl) (src_at Try.underlying22 (x ^^^ y) _ (by rw [UInt8.toNat_xor]) _ _ (0, 0) (heap_alloc_new wr _)) (by rw [HL.out, List.length_singleton]; omega) (by simp; omega) ?_; intro v3 w3 hown3 hg3 hat3))
      go_wp2
      have hb4 : Below w.heap.size w w3 := (below_dr (hbr.alloc hbr.size _)).grown hg3 (by simp; omega) hfar
      go_roundw
      case rel => exact ⟨k + 1, by omega, by go_num, by rw [HZ.out]; exact hown3, hb4⟩
      case measure => simp [RowKit.intOf]; omega
    · have hz : List.zipWith (· ^^^ ·) (a.take k) (b.take k) = List.zipWith (· ^^^ ·) a b := by rw [List.take_of_length_le (by omega), List.take_of_length_le (by omega)]
      rw [hz] at hown
      clear hz hab
      go_wp2
      go_ret
      exact ⟨⟨_, rfl, hown⟩, hbr⟩


theorem ref_all (n : Nat) (A : Option Addr) (c m : Nat) (rs : List Row) (w : World) (hm : rs.length = m) (hA : SlV w w.heap.size A (vals rs)) (hR : Rws w w.heap.size rs) (hn : n ≤ 1048576) (hr : m ≤ 1048576) (hl : AllLen n (lists rs)) :
    Calls Try.prog 18 #[.slice A m c, .int .i64 n] w fun e w' => One w.heap.size (xall n (lists rs)) e w' ∧ Below w.heap.size w w' := by
  obtain ⟨w1, hmk, hown1, hg1⟩ := make8 w.heap.size n w (by omega) (Nat.le_refl _)
  have hb1 : Below w.heap.size w w1 := (Below.refl _ _).grown hg1 (Nat.le_refl _) (fun k hk => by cases hk)
  go_enter Try.func18, Try.ntmps18
  go_wp2
  go_loopw [5, 6] (fun v i w' => ∃ k : Nat, k ≤ m ∧ i = .int .i64 k ∧ Own w' w.heap.size 5 v (xall n ((lists rs).take k)) ∧ Below w.heap.size w w') (fun _ i _ => m - (RowKit.intOf i).toNat)
  case atStart => exact ⟨0, by omega, rfl, hown1, hb1⟩
  case round =>
    clear hmk hown1 hg1 hb1
    rename_i wr
    obtain ⟨k, hk, rfl, hown, hbr⟩ := hrel
    by_cases hlt : k < m
    · obtain ⟨b1, off, x, rfl, hb1, g, m1, hx, -, e1⟩ := row_at (hA.below hbr) (hR.below hbr) (show k < rs.length by omega)
      have i1 : (k : Int) < (m : Int) := by omega
      have hxl : x.l.length = n := hl _ (List.mem_of_getElem? e1)
      have htl := xall_length (take_len hl k)
      have HZ : Hid (zx (xall n ((lists rs).take k)) x.l = xall n ((lists rs).take (k + 1))) := by
        show _ = _
        rw [take_next e1, xall_append (take_len hl k) (AllLen.cons hxl (AllLen.nil n)), xall_one hxl]
      have lw := hbr.size
      generalize xall n ((lists rs).take k) = z at *
      obtain ⟨X, cx, rfl, -, -, hs, -⟩ := hown.form
      rw [hxl] at g
      rw [htl]
      have c2 : Calls Try.prog 16 #[.slice X n cx, .slice x.A n x.c] wr fun e w' => One wr.heap.size (zx z x.l) e w' ∧ Below wr.heap.size wr w' := by
        have := ref_two X x.A cx x.c _ _ z x.l wr (by omega) hs m1 (Nat.le_refl _) lw (by omega)
        rwa [htl] at this
      clear e1 hA hR hl hx hxl m1 hm htl hs hown
      go_wp2_with (go_at_call 16; (with_reducible refine c2.mono ?_); rintro e w1 ⟨⟨v1, rfl, hown1⟩, hb2⟩)
      go_roundw
      case rel => exact ⟨k + 1, by omega, by go_num, by rw [← HZ.out]; exact hown1.less lw, bt hbr hb2⟩
      case measure => simp [RowKit.intOf]; omega
    · rw [List.take_of_length_le (by rw [lists_length]; omega)] at hown
      go_wp2
      go_ret
      exact ⟨⟨_, rfl, hown⟩, hbr⟩

/-- Each has n bytes, but for the one at miss. -/
def LongP (n : Nat) (miss : Int) (ls : List (List UInt8)) : Prop := ∀ (i : Nat) (l : List UInt8), ls[i]? = some l → (i : Int) ≠ miss → l.length = n
theorem long_all {n : Nat} {ls : List (List UInt8)} : LongP n (-1) ls ↔ AllLen n ls := by
  constructor
  · intro h l hl
    obtain ⟨i, hi⟩ := List.getElem?_of_mem hl
    exact h i l hi (by omega)
  · intro h i l hi _
    exact h l (List.mem_of_getElem? hi)
theorem long_others {n k : Nat} {ls : List (List UInt8)} (hk : k < ls.length) : LongP n k ls ↔ AllLen n (ls.take k ++ ls.drop (k + 1)) := by
  constructor
  · intro h l hl
    rcases List.mem_append.1 hl with hl | hl
    · obtain ⟨i, hi⟩ := List.getElem?_of_mem hl
      have hik : i < k := by
        have := (List.getElem?_eq_some_iff.1 hi).1
        rw [List.length_take] at this
        omega
      rw [List.getElem?_take, if_pos hik] at hi
      exact h i l hi (by omega)
    · obtain ⟨i, hi⟩ := List.getElem?_of_mem hl
      rw [List.getElem?_drop] at hi
      exact h _ l hi (by omega)
  · intro h i l hi hik
    have hi' := hi
    obtain ⟨hil, rfl⟩ := List.getElem?_eq_some_iff.1 hi
    by_cases hlt : i < k
    · exact h.left _ (List.mem_of_getElem? (i := i) (by rw [List.getElem?_take, if_pos hlt]; exact hi'))
    · exact h.right _ (List.mem_of_getElem? (i := i - (k + 1)) (by rw [List.getElem?_drop, show k + 1 + (i - (k + 1)) = i by omega]; exact hi'))
theorem ref_long (b : Bool) (n : Nat) (miss : Int) (A : Option Addr) (c m B : Nat) (rs : List Row) (w : World) (hm : rs.length = m) (hA : SlV w B A (vals rs)) (hr : m ≤ 1048576) (hb : b = true ↔ LongP n miss (lists rs)) :
    Calls Try.prog 17 #[.slice A m c, .int .i64 n, .int .i64 miss] w fun e w' => e = .returned (.bool b) ∧ w = w' := by
  go_enter Try.func17, Try.ntmps17
  go_wp2
  go_loop [7] (fun i => ∃ k : Nat, k ≤ m ∧ i = .int .i64 k ∧ ∀ (i : Nat) (l : List UInt8), i < k → (lists rs)[i]? = some l → (i : Int) ≠ miss → l.length = n) (fun i => m - (RowKit.intOf i).toNat)
  case atStart => exact ⟨0, by omega, rfl, fun i l hi => absurd hi (by omega)⟩
  case round =>
    obtain ⟨k, hk, rfl, hall⟩ := hrel
    by_cases hlt : k < m
    · obtain ⟨b1, off, rfl, hb1, hc⟩ := hA (by rw [vals_length]; omega)
      have g := hc k (by rw [vals_length]; omega)
      rw [vals_get] at g
      have e1 : (lists rs)[k]? = some (rs[k]'(by omega)).l := by simp [lists, show k < rs.length by omega]
      generalize (rs[k]'(by omega)) = x at *
      have i1 : (k : Int) < (m : Int) := by omega
      by_cases hkm : (k : Int) = miss
      · have n1 : ((k : Int) != miss) = false := by rw [hkm]; exact bne_self_eq_false _
        have H : Hid (∀ (i : Nat) (l : List UInt8), i < k + 1 → (lists rs)[i]? = some l → (i : Int) ≠ miss → l.length = n) := fun i l hi hl hne => by
          by_cases hik : i = k
          · subst hik
            exact absurd hkm hne
          · exact hall i l (by omega) hl hne
        subst hkm
        clear hb hc hall e1 hA hm
        go_wp2
        go_round
        case rel => exact ⟨k + 1, by omega, by go_num, H.out⟩
        case measure => simp [RowKit.intOf]; omega
      · have n1 : ((k : Int) != miss) = true := bne_iff_ne.2 hkm
        have n2 : ((k : Int) == miss) = false := beq_eq_false_iff_ne.2 hkm
        by_cases hxl : x.l.length = n
        · have H : Hid (∀ (i : Nat) (l : List UInt8), i < k + 1 → (lists rs)[i]? = some l → (i : Int) ≠ miss → l.length = n) := fun i l hi hl hne => by
            by_cases hik : i = k
            · subst hik
              rw [e1] at hl
              rw [← Option.some.inj hl]
              exact hxl
            · exact hall i l (by omega) hl hne
          have n3 : ((n : Int) != (n : Int)) = false := bne_self_eq_false _
          rw [hxl] at g
          clear hb hc hall e1 hA hm hxl
          go_wp2
          go_round
          case rel => exact ⟨k + 1, by omega, by go_num, H.out⟩
          case measure => simp [RowKit.intOf]; omega
        · have H : Hid (b = false) := by
            show b = false
            cases b with
            | false => rfl
            | true => exact absurd (hb.1 rfl k _ e1 hkm) hxl
          clear hb hc hall e1 hA hm
          generalize x.l.length = y at *
          have n3 : ((y : Int) != (n : Int)) = true := bne_iff_ne.2 (by omega)
          have n4 : ((y : Int) == (n : Int)) = false := beq_eq_false_iff_ne.2 (by omega)
          have n5 : (y == n) = false := beq_eq_false_iff_ne.2 hxl
          have n6 : (y != n) = true := bne_iff_ne.2 hxl
          go_wp2
          go_ret
          exact ⟨ret_bool H.out.symm, rfl⟩
    · have H : Hid (b = true) := hb.2 fun i l hl hne => hall i l (by have := (List.getElem?_eq_some_iff.1 hl).1; rw [lists_length] at this; omega) hl hne
      clear hb hall
      go_wp2
      go_ret
      exact ⟨ret_bool H.out.symm, rfl⟩
end Go.Proofs.Ytgpgjbdjjanhaaa.par
