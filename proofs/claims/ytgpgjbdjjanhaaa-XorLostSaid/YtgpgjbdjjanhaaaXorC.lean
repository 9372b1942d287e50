/-
  The document's Rest; what is too heavy to be played; 'wakes' of the statements on parity. Conditions: lists and byte strings shorter than 2^20.
-/
import Derived.Test.YtgpgjbdjjanhaaaXorB
namespace Go.Proofs.Ytgpgjbdjjanhaaa.par
open Go.RowKit Go.Lib

/-- Of the first j the others than k. -/
def oth (ls : List (List UInt8)) (k j : Nat) : List (List UInt8) := (ls.take j).take k ++ (ls.take j).drop (k + 1)
theorem oth_same {ls : List (List UInt8)} {k : Nat} {x : List UInt8} (h : ls[k]? = some x) : oth ls k (k + 1) = oth ls k k := by
  have hl := (List.getElem?_eq_some_iff.1 h).1
  have hlt : (ls.take k).length = k := by rw [List.length_take]; omega
  unfold oth
  rw [take_next h, List.take_append_of_le_length (by omega), List.drop_eq_nil_of_le (by rw [List.length_append, hlt, List.length_singleton]; omega), List.drop_eq_nil_of_le (by omega)]
theorem oth_next {ls : List (List UInt8)} {k j : Nat} {x : List UInt8} (h : ls[j]? = some x) (hjk : j ≠ k) : oth ls k (j + 1) = oth ls k j ++ [x] := by
  have hl := (List.getElem?_eq_some_iff.1 h).1
  have hlt : (ls.take j).length = j := by rw [List.length_take]; omega
  unfold oth
  rw [take_next h]
  rcases Nat.lt_or_ge j k with hk | hk
  · rw [List.take_of_length_le (l := ls.take j ++ [x]) (by simp; omega), List.take_of_length_le (l := ls.take j) (by omega), List.drop_eq_nil_of_le (by simp; omega), List.drop_eq_nil_of_le (by omega)]
    simp
  · rw [List.take_append_of_le_length (by omega), List.drop_append_of_le_length (by omega), List.append_assoc]
theorem oth_full {ls : List (List UInt8)} {k j : Nat} (h : ls.length ≤ j) : oth ls k j = ls.take k ++ ls.drop (k + 1) := by
  unfold oth
  rw [List.take_of_length_le h]
set_option maxHeartbeats 1000000 in
theorem ref_rest (k n : Nat) (A A' : Option Addr) (c c' m : Nat) (rs : List Row) (p : List UInt8) (w : World) (hm : rs.length = m) (hA : SlV w w.heap.size A (vals rs)) (hR : Rws w w.heap.size rs) (hP : Sl w w.heap.size A' p) (hn : n ≤ 1048576) (hr : m ≤ 1048576) (hpl : p.length = n) (hk : k < m)
    (hl : AllLen n ((lists rs).take k ++ (lists rs).drop (k + 1))) :
    Calls Try.prog 19 #[.slice A m c, .int .i64 k, .slice A' n c'] w fun e w' => One w.heap.size (xall n ((lists rs).take k ++ (lists rs).drop (k + 1) ++ [p])) e w' ∧ Below w.heap.size w w' := by
  have cT : Calls Try.prog 22 #[.slice A' n c'] w fun e w' => One w.heap.size p e w' ∧ Below w.heap.size w w' := by
    have := twin_any A' c' _ p w hP (by omega)
    rwa [hpl] at this
  have hln : (lists rs).length = m := by rw [lists_length, hm]
  have HE : Hid (zx p (xall n (oth (lists rs) k m)) = xall n ((lists rs).take k ++ (lists rs).drop (k + 1) ++ [p])) := by
    show _ = _
    rw [oth_full (by omega), xall_append hl (AllLen.cons hpl (AllLen.nil n)), xall_one hpl, zx_comm]
  have hlo := long_others (n := n) (k := k) (ls := lists rs) (by omega)
  have hlp := hlo.2 hl
  have hol : ∀ j, j ≤ m → AllLen n (oth (lists rs) k j) := fun j hj x hx => by
    obtain ⟨i, hi⟩ := List.getElem?_of_mem hx
    refine hl x ?_
    unfold oth at hx
    rcases List.mem_append.1 hx with hx | hx
    · rw [List.take_take] at hx
      refine List.mem_append_left _ ?_
      have : (lists rs).take (min k j) = ((lists rs).take k).take j := by rw [List.take_take, Nat.min_comm]
      rw [this] at hx
      exact List.mem_of_mem_take hx
    · refine List.mem_append_right _ ?_
      rw [List.drop_take] at hx
      exact List.mem_of_mem_take hx
  clear hlo hl hP
  go_enter Try.func19, Try.ntmps19
  go_wp2_with (go_at_call 22; (with_reducible refine cT.mono ?_); rintro e w1 ⟨⟨v1, rfl, hown1⟩, hb1⟩)
  go_loopw [7, 8] (fun v i w' => ∃ j : Nat, j ≤ m ∧ i = .int .i64 j ∧ Own w' w.heap.size 5 v (zx p (xall n (oth (lists rs) k j))) ∧ Below w.heap.size w w') (fun _ i _ => m - (RowKit.intOf i).toNat)
  case atStart =>
    refine ⟨0, by omega, rfl, ?_, hb1⟩
    rw [show xall n (oth (lists rs) k 0) = zeros n by simp [oth, xall], zx_zeros hpl]
    exact hown1
  case round =>
    clear cT hown1 hb1
    rename_i wr
    obtain ⟨j, hj, rfl, hown, hbr⟩ := hrel
    by_cases hlt : j < m
    · obtain ⟨b1, off, x, rfl, hb1, g, m1, hx, -, e1⟩ := row_at (hA.below hbr) (hR.below hbr) (show j < rs.length by omega)
      have i1 : (j : Int) < (m : Int) := by omega
      by_cases hjk : j = k
      · subst hjk
        rw [← oth_same e1] at hown
        have n1 : ((j : Int) != (j : Int)) = false := bne_self_eq_false _
        have HO := Lib.hid hown
        clear e1 hA hR hx m1 hm hlp hol hown hln
        go_wp2
        go_roundw
        case rel => exact ⟨j + 1, by omega, by go_num, HO.out, hbr⟩
        case measure => simp [RowKit.intOf]; omega
      · have n1 : ((j : Int) != (k : Int)) = true := bne_iff_ne.2 (by omega)
        have n2 : ((j : Int) == (k : Int)) = false := beq_eq_false_iff_ne.2 (by omega)
        have n3 : (j != k) = true := bne_iff_ne.2 hjk
        have n4 : (j == k) = false := beq_eq_false_iff_ne.2 hjk
        have hxl : x.l.length = n := hlp j _ e1 (by omega)
        have ho := hol j hj
        have hzl : (zx p (xall n (oth (lists rs) k j))).length = n := zx_length hpl (xall_length ho)
        have HZ : Hid (zx (zx p (xall n (oth (lists rs) k j))) x.l = zx p (xall n (oth (lists rs) k (j + 1)))) := by
          show _ = _
          rw [oth_next e1 hjk, xall_append ho (AllLen.cons hxl (AllLen.nil n)), xall_one hxl, zx_assoc]
        have lw := hbr.size
        generalize zx p (xall n (oth (lists rs) k j)) = z at *
        obtain ⟨X, cx, rfl, -, -, hs, -⟩ := hown.form
        rw [hxl] at g
        rw [hzl]
        have c2 : Calls Try.prog 16 #[.slice X n cx, .slice x.A n x.c] wr fun e w' => One wr.heap.size (zx z x.l) e w' ∧ Below wr.heap.size wr w' := by
          have := ref_two X x.A cx x.c _ _ z x.l wr (by omega) hs m1 (Nat.le_refl _) lw (by omega)
          rwa [hzl] at this
        clear e1 hA hR hx hxl m1 hm hzl hs hown hlp hol ho hln
        go_wp2_with (go_at_call 16; (with_reducible refine c2.mono ?_); rintro e w1 ⟨⟨v1, rfl, hown1⟩, hb2⟩)
        go_roundw
        case rel => exact ⟨j + 1, by omega, by go_num, by rw [← HZ.out]; exact hown1.less lw, bt hbr hb2⟩
        case measure => simp [RowKit.intOf]; omega
    · obtain rfl : j = m := by omega
      rw [HE.out] at hown
      go_wp2
      go_ret
      exact ⟨⟨_, rfl, hown⟩, hbr⟩

def HeavyP (rs : List Row) : Prop := 20 < rs.length ∨ ∃ r ∈ rs, 200 < r.l.length
theorem heavy_any (b : Bool) (A : Option Addr) (c m B : Nat) (rs : List Row) (w : World) (hm : rs.length = m) (hA : SlV w B A (vals rs)) (hb : b = true ↔ HeavyP rs) :
    Calls Try.prog 9 #[.slice A m c] w fun e w' => e = .returned (.bool b) ∧ w = w' := by
  by_cases h20 : 20 < m
  · have i1 : (20 : Int) < (m : Int) := by omega
    have H : Hid (b = true) := hb.2 (.inl (by omega))
    clear hb hA
    go_enter Try.func9, Try.ntmps9
    go_wp2
    go_ret
    exact ⟨ret_bool H.out.symm, rfl⟩
  · have i1 : ¬ (20 : Int) < (m : Int) := by omega
    go_enter Try.func9, Try.ntmps9
    go_wp2
    go_loop [3] (fun i => ∃ k : Nat, k ≤ m ∧ i = .int .i64 k ∧ ∀ (i : Nat) (r : Row), i < k → rs[i]? = some r → r.l.length ≤ 200) (fun i => m - (RowKit.intOf i).toNat)
    case atStart => exact ⟨0, by omega, rfl, fun i l hi => absurd hi (by omega)⟩
    case round =>
      obtain ⟨k, hk, rfl, hall⟩ := hrel
      by_cases hlt : k < m
      · obtain ⟨b1, off, rfl, hb1, hc⟩ := hA (by rw [vals_length]; omega)
        have g := hc k (by rw [vals_length]; omega)
        rw [vals_get] at g
        have e1 : rs[k]? = some (rs[k]'(by omega)) := by simp [show k < rs.length by omega]
        generalize (rs[k]'(by omega)) = x at *
        have i2 : (k : Int) < (m : Int) := by omega
        by_cases hxl : 200 < x.l.length
        · have i3 : (200 : Int) < (x.l.length : Int) := by omega
          have H : Hid (b = true) := hb.2 (.inr ⟨x, List.mem_of_getElem? e1, hxl⟩)
          clear hb hc hall e1 hA hm
          go_wp2
          go_ret
          exact ⟨ret_bool H.out.symm, rfl⟩
        · have i3 : ¬ (200 : Int) < (x.l.length : Int) := by omega
          have H : Hid (∀ (i : Nat) (r : Row), i < k + 1 → rs[i]? = some r → r.l.length ≤ 200) := fun i r hi hr => by
            by_cases hik : i = k
            · subst hik
              rw [e1] at hr
              rw [← Option.some.inj hr]
              omega
            · exact hall i r (by omega) hr
          clear hb hc hall e1 hA hm
          go_wp2
          go_round
          case rel => exact ⟨k + 1, by omega, by go_num, H.out⟩
          case measure => simp [RowKit.intOf]; omega
      · have H : Hid (b = false) := by
          show b = false
          cases b with
          | false => rfl
          | true =>
            rcases hb.1 rfl with h | ⟨r, hr, h⟩
            · omega
            · obtain ⟨i, hi⟩ := List.getElem?_of_mem hr
              have := hall i r (by have := (List.getElem?_eq_some_iff.1 hi).1; omega) hi
              omega
        clear hb hall
        go_wp2
        go_ret
        exact ⟨ret_bool H.out.symm, rfl⟩
theorem al1 (w : World) (o o' : Obj) : ((w.alloc o).alloc o').heap[w.heap.size]? = some o :=
  (heap_alloc_old (w.alloc o) o' (r := w.heap.size) (by simp)).trans (heap_alloc_new w o)
theorem al2 (w : World) (o o' : Obj) : ((w.alloc o).alloc o').heap[w.heap.size + 1]? = some o' := by
  have := heap_alloc_new (w.alloc o) o'
  rwa [show (w.alloc o).heap.size = w.heap.size + 1 by simp] at this
theorem wakes_two (t t' : TypeId) (w : World) :
    Calls Try.prog 11 #[.slice (some ⟨w.heap.size, 0, none⟩) 1 1, .slice (some ⟨w.heap.size + 1, 0, none⟩) 1 1] ((w.alloc (.cells #[.int .u8 5] t)).alloc (.cells #[.int .u8 3] t')) fun e w' => Ans w.heap.size [6] e w' ∧ Below w.heap.size w w' := by
  have hb : Below w.heap.size w ((w.alloc (.cells #[.int .u8 5] t)).alloc (.cells #[.int .u8 3] t')) := ((Below.refl _ _).alloc (Nat.le_refl _) _).alloc (by simp) _
  refine (two_ok (some ⟨w.heap.size, 0, none⟩) (some ⟨w.heap.size + 1, 0, none⟩) 1 1 1 [5] [3] _ rfl rfl (Sl.of_block (al1 w _ _) rfl (by simp; omega)) (Sl.of_block (al2 w _ _) rfl (by simp)) (by omega)).mono ?_
  rintro e w' ⟨h, hb'⟩
  exact ⟨Ans.less h hb.size, hb.trans (hb'.mono hb.size)⟩
theorem wakes_rest (t t' t'' : TypeId) (w : World) :
    Calls Try.prog 13 #[.slice (some ⟨w.heap.size + 1, 0, none⟩) 2 2, .int .i64 0, .slice (some ⟨w.heap.size + 1 + 1, 0, none⟩) 1 1] (((w.alloc (.cells #[.int .u8 3] t)).alloc (.cells #[.slice none 0 0, .slice (some ⟨w.heap.size, 0, none⟩) 1 1] t')).alloc (.cells #[.int .u8 6] t''))
      fun e w' => Ans w.heap.size [5] e w' ∧ Below w.heap.size w w' := by
  generalize ho1 : Obj.cells #[.int .u8 3] t = o1
  generalize ho2 : Obj.cells #[.slice none 0 0, .slice (some ⟨w.heap.size, 0, none⟩) 1 1] t' = o2
  generalize ho3 : Obj.cells #[.int .u8 6] t'' = o3
  have h1 := (heap_alloc_old ((w.alloc o1).alloc o2) o3 (r := w.heap.size) (by simp; omega)).trans (al1 w o1 o2)
  have h2 := (heap_alloc_old ((w.alloc o1).alloc o2) o3 (r := w.heap.size + 1) (by simp)).trans (al2 w o1 o2)
  have h3 := heap_alloc_new ((w.alloc o1).alloc o2) o3
  rw [show ((w.alloc o1).alloc o2).heap.size = w.heap.size + 1 + 1 by simp] at h3
  have hb : Below w.heap.size w (((w.alloc o1).alloc o2).alloc o3) := (((Below.refl _ _).alloc (Nat.le_refl _) _).alloc (by simp) _).alloc (by simp; omega) _
  have hs : (((w.alloc o1).alloc o2).alloc o3).heap.size = w.heap.size + 3 := by simp
  generalize ((w.alloc o1).alloc o2).alloc o3 = W at *
  subst ho1 ho2 ho3
  refine (rest_ok 0 (some ⟨w.heap.size + 1, 0, none⟩) (some ⟨w.heap.size + 1 + 1, 0, none⟩) 2 1 2 1 [⟨none, 0, []⟩, ⟨some ⟨w.heap.size, 0, none⟩, 1, [3]⟩] [6] W rfl rfl (SlV.of_block h2 rfl (by omega))
    ((Rws.one (Sl.nil _ _ _)).append (Rws.one (Sl.of_block h1 rfl (by omega)))) (Sl.of_block h3 rfl (by omega)) (by omega) (by omega) (by omega) (by decide) (by omega) (AllLen.cons rfl (AllLen.nil 1))).mono ?_
  rintro e w' ⟨h, hb'⟩
  exact ⟨Ans.less h hb.size, hb.trans (hb'.mono hb.size)⟩
set_option maxHeartbeats 1000000 in
theorem wakes_any (w : World) :
    Calls Try.prog 21 #[] w fun e w' => e = .returned (.bool true) ∧ Below w.heap.size w w' := by
  go_enter Try.func21, Try.ntmps21
  go_wp2_with (first
    | (go_at_call 11; (with_reducible refine (wakes_two _ _ _).mono ?_); rintro e w1 ⟨⟨v1, rfl, hown1⟩, hb1⟩; obtain ⟨g1, k1, rfl, -, -, -, hg1⟩ := hown1.at (by decide))
    | (go_at_call 13; (with_reducible refine (wakes_rest _ _ _ _).mono ?_); rintro e w2 ⟨⟨v2, rfl, hown2⟩, hb2⟩; obtain ⟨g2, k2, rfl, -, -, -, hg2⟩ := hown2.at (by decide); have x1 := (hown1.below hb2).cell 0 (by decide); have x2 := hown2.cell 0 (by decide)))
  go_ret
  exact ⟨rfl, bt hb1 hb2⟩
end Go.Proofs.Ytgpgjbdjjanhaaa.par
