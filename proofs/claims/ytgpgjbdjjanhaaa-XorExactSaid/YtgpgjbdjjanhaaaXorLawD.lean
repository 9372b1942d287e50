/-
  The law XorOrder, walked: it returns true for every input. No condition.
-/
import Derived.Test.YtgpgjbdjjanhaaaXorLawC
namespace Go.Proofs.Ytgpgjbdjjanhaaa.par
open Go.RowKit Go.Lib

theorem order_out (A : Option Addr) (c m : Nat) (n at' : Int) (rs : List Row) (w : World) (hm : rs.length = m) (hr : m ≤ 1048576 ∨ HeavyP rs) (hA : SlV w w.heap.size A (vals rs)) (h : HeavyP rs ∨ n < 0 ∨ 96 < n ∨ ¬ LongP n.toNat (-1) (lists rs)) :
    Calls Try.prog 7 #[.slice A m c, .int .i64 n, .int .i64 at'] w fun e w' => e = .returned (.bool true) ∧ Below w.heap.size w w' := by
  by_cases hH : HeavyP rs
  · have cH := heavy_any true A c m _ rs w hm hA (iff_yes hH)
    clear h hA hH hm hr
    go_enter Try.func7, Try.ntmps7
    go_wp2_with (first
      | (go_at_call 9; (with_reducible refine cH.mono ?_); rintro e w1 ⟨rfl, rfl⟩)
      | (go_at_call 17; (with_reducible refine cL.mono ?_); rintro e w2 ⟨rfl, rfl⟩))
    all_goals
      go_ret
      exact ⟨rfl, Below.refl _ _⟩
  · have cH := heavy_any false A c m _ rs w hm hA (iff_no hH)
    have hr : m ≤ 1048576 := hr.resolve_right hH
    by_cases h0 : n < 0
    · clear h hA hH hm hr
      go_enter Try.func7, Try.ntmps7
      go_wp2_with (first
        | (go_at_call 9; (with_reducible refine cH.mono ?_); rintro e w1 ⟨rfl, rfl⟩)
        | (go_at_call 17; (with_reducible refine cL.mono ?_); rintro e w2 ⟨rfl, rfl⟩))
      all_goals
        go_ret
        exact ⟨rfl, Below.refl _ _⟩
    · by_cases h1 : 96 < n
      · clear h hA hH hm hr
        go_enter Try.func7, Try.ntmps7
        go_wp2_with (first
          | (go_at_call 9; (with_reducible refine cH.mono ?_); rintro e w1 ⟨rfl, rfl⟩)
          | (go_at_call 17; (with_reducible refine cL.mono ?_); rintro e w2 ⟨rfl, rfl⟩))
        all_goals
          go_ret
          exact ⟨rfl, Below.refl _ _⟩
      · obtain ⟨k, rfl⟩ : ∃ k : Nat, n = k := ⟨n.toNat, by omega⟩
        rw [Int.toNat_natCast] at h
        by_cases hL : LongP k (-1) (lists rs)
        · have cL := ref_long true k (-1) A c m _ rs w hm hA hr (iff_yes hL)
          rcases h with h | h | h | h
          · exact absurd h hH
          · omega
          · omega
          · exact absurd hL h
        · have cL := ref_long false k (-1) A c m _ rs w hm hA hr (iff_no hL)
          clear h hA hH hm hr hL
          go_enter Try.func7, Try.ntmps7
          go_wp2_with (first
            | (go_at_call 9; (with_reducible refine cH.mono ?_); rintro e w1 ⟨rfl, rfl⟩)
            | (go_at_call 17; (with_reducible refine cL.mono ?_); rintro e w2 ⟨rfl, rfl⟩))
          all_goals
            go_ret
            exact ⟨rfl, Below.refl _ _⟩

theorem nought_len {rs rs5 : List Row} {n m : Nat} (h : lists rs5 = lists rs ++ [zeros n]) (hm : rs.length = m) : (vals rs5).length = m + 1 := by
  have := congrArg List.length h
  rw [lists_length, List.length_append, lists_length, List.length_singleton] at this
  rw [vals_length]
  omega
theorem beside_len {rs rs5 : List Row} {n m : Nat} {x : Row} (h : lists rs5 = lists rs ++ [zeros n]) (hm : rs.length = m) : (vals (rs5 ++ [x, x])).length = m + 3 := by
  rw [vals_append, List.length_append, nought_len h hm]
  rfl
theorem all_beside (n m k : Nat) (rs rs5 : List Row) (x : Row) (X : Option Addr) (w : World) (h : lists rs5 = lists rs ++ [zeros n]) (hl : AllLen n (lists rs)) (hm : rs.length = m) (hm20 : m ≤ 20) (hx : x.l.length = n) (hs : SlV w w.heap.size X (vals (rs5 ++ [x, x]))) (hr : Rws w w.heap.size rs5) (hxs : Sl w w.heap.size x.A x.l) (hn : n ≤ 96) :
    Calls Try.prog 12 #[.slice X (m + 3) k, .int .i64 n] w fun e w' => Ans w.heap.size (xall n (lists rs)) e w' ∧ Below w.heap.size w w' := by
  have h5 : (rs5 ++ [x, x]).length = m + 3 := by rw [← vals_length, beside_len h hm]
  have hls : lists (rs5 ++ [x, x]) = lists rs ++ [zeros n] ++ [x.l, x.l] := by rw [lists_append, h]; rfl
  have := all_ok n X k (rs5 ++ [x, x]) w hs (hr.append ((Rws.one hxs).append (Rws.one hxs))) hn (by omega) (by rw [hls]; exact (hl.append (AllLen.cons (zeros_length n) (AllLen.nil n))).append (AllLen.cons hx (AllLen.cons hx (AllLen.nil n))))
  rwa [h5, hls, xall_beside hl hx] at this
theorem all_nought (n m k : Nat) (rs rs5 : List Row) (X : Option Addr) (w : World) (h : lists rs5 = lists rs ++ [zeros n]) (hl : AllLen n (lists rs)) (hm : rs.length = m) (hm20 : m ≤ 20) (hs : SlV w w.heap.size X (vals rs5)) (hr : Rws w w.heap.size rs5) (hn : n ≤ 96) :
    Calls Try.prog 12 #[.slice X (m + 1) k, .int .i64 n] w fun e w' => Ans w.heap.size (xall n (lists rs)) e w' ∧ Below w.heap.size w w' := by
  have h5 : rs5.length = m + 1 := by rw [← vals_length, nought_len h hm]
  have := all_ok n X k rs5 w hs hr hn (by omega) (by rw [h]; exact hl.append (AllLen.cons (zeros_length n) (AllLen.nil n)))
  rwa [h5, h, xall_nought hl] at this
set_option maxHeartbeats 4000000 in
theorem order_go (A : Option Addr) (c m n : Nat) (at' : Int) (rs : List Row) (w : World) (hm : rs.length = m) (hH : ¬ HeavyP rs) (hn : n ≤ 96) (hl : AllLen n (lists rs)) (hA : SlV w w.heap.size A (vals rs)) (hR : Rws w w.heap.size rs) :
    Calls Try.prog 7 #[.slice A m c, .int .i64 n, .int .i64 at'] w fun e w' => e = .returned (.bool true) ∧ Below w.heap.size w w' := by
  have hm20 : m ≤ 20 := Nat.le_of_not_lt fun h => hH (.inl (by omega))
  have hS : Short 1048576 rs := fun r hr => Nat.le_of_not_lt fun h => hH (.inr ⟨r, hr, by omega⟩)
  have cH := heavy_any false A c m _ rs w hm hA (iff_no hH)
  have cL := ref_long true n (-1) A c m _ rs w hm hA (by omega) (iff_yes (long_all.2 hl))
  have i1 : ¬ (n : Int) < 0 := by omega
  have i2 : ¬ (96 : Int) < (n : Int) := by omega
  have c1 := all_ok n A c rs w hA hR hn (by omega) hl
  rw [hm] at c1
  have hP : Hid ((xall n (lists rs)).length = n) := xall_length hl
  generalize hPP : xall n (lists rs) = P at *
  have HPP := Lib.hid hPP
  clear hPP
  go_enter Try.func7, Try.ntmps7
  go_wp2_with (first
    | (go_at_call 9; (with_reducible refine cH.mono ?_); rintro e w1 ⟨rfl, rfl⟩)
    | (go_at_call 17; (with_reducible refine cL.mono ?_); rintro e w2 ⟨rfl, rfl⟩)
    | (go_at_call 12; (with_reducible refine c1.mono ?_); rintro e w1 ⟨⟨v1, rfl, hown1⟩, hb1⟩; obtain ⟨X1, k1, hv1, -, -, hs1, -⟩ := hown1.form; rw [hP.out] at hv1; subst hv1))
  clear cH cL c1
  have lw := hb1.size
  go_loopw [9, 10] (fun v i w' => ∃ k : Nat, k ≤ m ∧ i = .int .i64 ((k : Int) - 1) ∧ OwnV w' w1.heap.size 22 v (vals (rs.drop k).reverse) ∧ Below w1.heap.size w1 w') (fun _ i _ => (RowKit.intOf i + 1).toNat)
  case atStart => exact ⟨m, Nat.le_refl _, by go_num, by rw [List.drop_eq_nil_of_le (by omega)]; exact ownV_nil _ _ _, Below.refl _ _⟩
  case round =>
    rename_i wr
    obtain ⟨k, hk, rfl, hown, hbr⟩ := hrel
    by_cases hk0 : 0 < k
    · obtain ⟨j, rfl⟩ : ∃ j, k = j + 1 := ⟨k - 1, by omega⟩
      have hbw := bt hb1 hbr
      obtain ⟨b1, off, x, rfl, hb, g, -, -, e1, -⟩ := row_at (hA.below hbw) (hR.below hbw) (show j < rs.length by omega)
      have hrv : vals (rs.drop j).reverse = vals (rs.drop (j + 1)).reverse ++ [.slice x.A x.l.length x.c] := by
        obtain ⟨hj, rfl⟩ := List.getElem?_eq_some_iff.1 e1
        rw [List.drop_eq_getElem_cons hj, List.reverse_cons, vals_append]
        rfl
      have hvl : (vals (rs.drop (j + 1)).reverse).length = m - (j + 1) := by rw [vals_length, List.length_reverse, List.length_drop]; omega
      have HR := Lib.hid hrv
      have HL := Lib.hid hvl
      clear hrv hvl e1
      generalize vals (rs.drop (j + 1)).reverse = F at *
      have j1 : (0 : Int) ≤ ((j + 1 : Nat) : Int) - 1 := by omega
      have j2 : ((j + 1 : Nat) : Int) - 1 < (m : Int) := by omega
      have j3 : ((j + 1 : Nat) : Int) - 1 = (j : Int) := by omega
      rw [j3] at j1 j2 ⊢
      go_wp2_with (first
        | (at_builtin
           refine wpList_appV _ rfl (.tmp 45) (.tmp 50) _ _ rfl w1.heap.size 22 tv _ F rfl (hown.alloc _) _ [.slice x.A x.l.length x.c] rfl (srcV_one wr Try.underlying23 _ rfl _) (by rw [HL.out]; unfold maxLen; simp; omega) (by rw [HL.out]; simp; omega) (by have := hbr.size; simp; omega) ?_
           intro v2 w2 hown2 hg2 hat2))
      have hb2 := (hbr.alloc hbr.size (.cells #[.slice x.A x.l.length x.c] 22)).grown hg2 (by have := hbr.size; simp; omega) (fun q hq => (World.ownsRow.lt hown q hq).1)
      go_roundw
      case rel => exact ⟨j, by omega, by go_num, by rw [HR.out]; exact hown2, hb2⟩
      case measure => simp [RowKit.intOf]
    · obtain rfl : k = 0 := by omega
      rw [List.drop_zero] at hown
      have hbw := bt hb1 hbr
      have hvl : (vals rs.reverse).length = m := by rw [vals_length, List.length_reverse, hm]
      obtain ⟨X2, k2, hv2, -, -, hs2, -⟩ := hown.form
      rw [hvl] at hv2
      subst hv2
      have c2 : Calls Try.prog 12 #[.slice X2 m k2, .int .i64 n] wr fun e w' => Ans wr.heap.size P e w' ∧ Below wr.heap.size wr w' := by
        have hlr : lists rs.reverse = (lists rs).reverse := by simp [lists]
        have := all_ok n X2 k2 rs.reverse wr hs2 (fun r hr => ((hR.below hbw).more hbw.size) r (List.mem_reverse.1 hr)) hn (by rw [List.length_reverse]; omega) (by rw [hlr]; exact fun l h => hl l (List.mem_reverse.1 h))
        rw [hlr, xall_reverse hl, List.length_reverse, hm, HPP.out] at this
        exact this
      clear hown
      go_wp2_with (go_at_call 12; (with_reducible refine c2.mono ?_); rintro e w3 ⟨⟨v3, rfl, hown3⟩, hb3⟩; obtain ⟨X3, k3, hv3, -, -, hs3, -⟩ := hown3.form; rw [hP.out] at hv3; subst hv3; have hb13 := bt hb1 (bt hbr hb3); have hs13 := hs1.next (bt hbr hb3))
      have cT : ∀ W, Below w3.heap.size w3 W → Calls Try.prog 10 #[.slice A m c] W fun e w' => (∃ v rs2, e = .returned v ∧ OwnRows w' w3.heap.size v rs2 (lists rs)) ∧ Below W.heap.size W w' ∧ Below w3.heap.size w3 w' := fun W hW => by
        have hWW := bt hb13 hW
        refine (twins_any A c m rs W hm ((hA.below hWW).more hWW.size) ((hR.below hWW).more hWW.size) (by omega) hS).mono ?_
        rintro e w' ⟨⟨v, rs2, rfl, ho⟩, hb⟩
        exact ⟨⟨v, rs2, rfl, ho.less hW.size⟩, hb, bt hW hb⟩
      have hmk := make_run n (by omega)
      have hll : (lists rs).length ≤ 1048576 := by rw [lists_length]; omega
      have hHl := Lib.hid hl
      clear hS hl hH hb3 hbr hb1 hbw c2 i1 i2 lw hk hk0 hvl
      go_region_held3 (fun W => Below w3.heap.size w3 W)
        (first
          | assumption
          | exact Below.trans (by assumption) hb5
          | exact below_dr (Below.refl _ _)
          | exact Below.alloc (by assumption) (Below.size (by assumption)) _
          | exact below_dr (bl _ _)
          | exact below_dr (Below.alloc (bl _ _) (by simp) _))
        (first
          | (go_at_call 10; (with_reducible refine (cT _ (by assumption)).mono ?_); rintro e w4 ⟨⟨v4, rs4, rfl, ho4⟩, hb4, hb34⟩)
          | (refine step_more _ (by rfl) _ _ (by rfl) w3.heap.size v4 rs4 (lists rs) (by rfl) ((ho4.alloc _).alloc _) _ ⟨some ⟨w4.heap.size, 0, none⟩, n, zeros n⟩ (by rfl) (srcV_at Try.underlying23 _ rfl _ _ (0, 0) (by unfold Row.v; rw [zeros_length]; exact al2 w4 _ _)) (by unfold Row.v; rw [zeros_length]; exact (own_zeros n w4 _ hb34.size (by omega)).alloc _) hll (by have := hb34.size; simp; omega) ?_
             intro v5 w5 ho5 hb5)
          | (refine step_more _ (by rfl) _ _ (by rfl) w3.heap.size v4 rs4 (lists rs) (by rfl) (ho4.alloc _) _ ⟨some ⟨w3.heap.size, 0, none⟩, n, zeros n⟩ (by rfl) (srcV_at Try.underlying23 _ rfl _ _ (0, 0) (by unfold Row.v; rw [zeros_length]; exact heap_alloc_new w4 _)) (by unfold Row.v; rw [zeros_length]; exact (Own.below (Own.drew (own_zeros n w3 _ (Nat.le_refl _) (by omega))) hb4).alloc _) hll (by have := hb34.size; simp; omega) ?_
             intro v5 w5 ho5 hb5)
          | (refine step_more _ (by rfl) _ _ (by rfl) w3.heap.size v4 rs4 (lists rs) (by rfl) ho4 _ ⟨some ⟨w3.heap.size, 0, none⟩, n, zeros n⟩ (by rfl) (srcV_at Try.underlying23 _ rfl _ _ (0, 0) (by unfold Row.v; rw [zeros_length]; exact (hb4.block (w3.heap.size + 1) (by simp)).trans (al2 w3 _ _))) (by unfold Row.v; rw [zeros_length]; exact Own.below (Own.drew ((own_zeros n w3 _ (Nat.le_refl _) (by omega)).alloc _)) hb4) hll hb34.size ?_
             intro v5 w5 ho5 hb5))
      all_goals
        have hb35 : Below w3.heap.size w3 w5 := by assumption
        have hb15 := bt hb13 hb35
        have hs15 := hs13.next hb35
        have hs35 := hs3.next hb35
        clear ho4 hb4 hb34 hb5 hmk cT
        have hl5 := ho5.2.1
        have c8 := fun (W : World) (X Y : Option Addr) (k k' : Nat) (hX : Sl W W.heap.size X P) (hY : Sl W W.heap.size Y P) => same_any n X Y k k' P W hP.out hX hY (by omega)
        by_cases hm0 : 0 < m
        · obtain ⟨q, hq, hQ⟩ := wrap_mod at' m hm0
          obtain ⟨b, off, x, rfl, hb, g, hx, -, -, e1⟩ := row_at hA hR (show q < rs.length by omega)
          have hxl : x.l.length = n := hHl.out _ (List.mem_of_getElem? e1)
          rw [hxl] at g
          have hlt5 : b < w5.heap.size := Nat.lt_of_lt_of_le hb hb15.size
          have g5 := (hb15.cell (p := ⟨b, off + q, none⟩) hb).trans g
          have i5 : (0 : Int) < (m : Int) := by omega
          have i6 : (q : Int) < (m : Int) := by omega
          have i7 : (0 : Int) ≤ (q : Int) := by omega
          have hvx : Hid (vals [x, x] = [.slice x.A n x.c, .slice x.A n x.c]) := by
            show _ = _
            simp [vals, Row.v, hxl]
          have hl5l : (lists rs ++ [zeros n]).length + 2 ≤ 1048576 := by rw [List.length_append, lists_length, List.length_singleton]; omega
          have HX := Lib.hid hxl
          have srcX : ∀ t : TypeId, Src Try.prog 1 23 (.slice (some ⟨w5.heap.size, 0, none⟩) 2 2) (vals [x, x]).length (vals [x, x]) ((w5.alloc (.cells #[.slice x.A n x.c, .slice x.A n x.c] t)).drew) := fun t => by
            have hsx : SlV ((w5.alloc (.cells #[.slice x.A n x.c, .slice x.A n x.c] t)).drew) (w5.heap.size + 1) (some ⟨w5.heap.size, 0, none⟩) (vals [x, x]) := SlV.of_block (heap_alloc_new w5 _) hvx.out.symm (Nat.lt_succ_self _)
            exact hsx.src (vals_one [x, x]) Try.underlying23 2
          have hsz : w3.heap.size ≤ (w5.alloc (.cells #[.slice x.A n x.c, .slice x.A n x.c] 22)).drew.heap.size := Nat.le_trans hb35.size (bl w5 _).size
          clear hxl e1 hA
          go_wp2
          go_region_held3 (fun W => W.cell? ⟨b, off + q, none⟩ = some (.slice x.A n x.c) ∧ Below w3.heap.size w3 W)
            (first
              | exact ⟨g5, below_dr hb35⟩
              | exact ⟨((below_dr (bl w5 _)).cell (p := ⟨b, off + q, none⟩) hlt5).trans g5, below_dr (hb35.alloc hb35.size _)⟩
              | exact ⟨g6, hb36⟩)
            (first
              | (refine step_rows _ (by rfl) _ _ (by rfl) w3.heap.size v5 _ _ (by rfl) (ho5.alloc _) _ [x, x] (by rfl) (srcX _) hl5l hsz ?_
                 intro v6 w6 ho6 hr6 hb6
                 have hb36 : Below w3.heap.size w3 w6 := Below.trans (below_dr (hb35.alloc hb35.size _)) hb6
                 have hb16 := bt hb13 hb36
                 have g6 := (hb16.cell (p := ⟨b, off + q, none⟩) hb).trans g))
          obtain ⟨X6, k6, hv6, -, -, hs6, -⟩ := ho6.form
          rw [beside_len hl5 hm] at hv6
          subst hv6
          have c6 := all_beside n m k6 rs _ x X6 w6 hl5 hHl.out hm hm20 HX.out hs6 hr6 ((hx.below hb16).more hb16.size) hn
          rw [HPP.out] at c6
          have hs16 := hs13.next hb36
          have hs36 := hs3.next hb36
          clear g5 g6 hb6 hr6 ho6 hs6 hx hR ho5
          go_wp2_with (first
            | (go_at_call 12; (with_reducible refine c6.mono ?_); rintro e w7 ⟨⟨v7, rfl, hown7⟩, hb7⟩; obtain ⟨X7, k7, hv7, -, -, hs7, -⟩ := hown7.form; rw [hP.out] at hv7; subst hv7; have hb17 := bt hb16 hb7; have hs17 := hs16.next hb7; have hs37 := hs36.next hb7)
            | (go_at_call 15; (with_reducible refine (c8 _ _ _ _ _ hs17 hs37).mono ?_); rintro e w8 ⟨rfl, hb8⟩; have hb18 := bt hb17 hb8; have hs18 := hs17.next hb8; have hs78 := hs7.next hb8)
            | (go_at_call 15; (with_reducible refine (c8 _ _ _ _ _ hs18 hs78).mono ?_); rintro e w9 ⟨rfl, hb9⟩; have hb19 := bt hb18 hb9)
            | (go_at_call 21; (with_reducible refine (wakes_any _).mono ?_); rintro e w10 ⟨rfl, hb10⟩))
          go_ret
          exact ⟨rfl, bt hb19 hb10⟩
        · have i5 : ¬ (0 : Int) < (m : Int) := by omega
          have i6 : (m : Int) = 0 := by omega
          obtain ⟨X6, k6, hv6, -, -, hs6, -⟩ := ho5.1.form
          rw [nought_len hl5 hm] at hv6
          subst hv6
          have c6 := all_nought n m k6 rs _ X6 w5 hl5 hHl.out hm hm20 hs6 ho5.rws hn
          rw [HPP.out] at c6
          clear hs6 hR ho5 hA
          go_wp2_with (first
            | (go_at_call 12; (with_reducible refine c6.mono ?_); rintro e w7 ⟨⟨v7, rfl, hown7⟩, hb7⟩; obtain ⟨X7, k7, hv7, -, -, hs7, -⟩ := hown7.form; rw [hP.out] at hv7; subst hv7; have hb17 := bt hb15 hb7; have hs17 := hs15.next hb7; have hs37 := hs35.next hb7)
            | (go_at_call 15; (with_reducible refine (c8 _ _ _ _ _ hs17 hs37).mono ?_); rintro e w8 ⟨rfl, hb8⟩; have hb18 := bt hb17 hb8; have hs18 := hs17.next hb8; have hs78 := hs7.next hb8)
            | (go_at_call 15; (with_reducible refine (c8 _ _ _ _ _ hs18 hs78).mono ?_); rintro e w9 ⟨rfl, hb9⟩; have hb19 := bt hb18 hb9)
            | (go_at_call 21; (with_reducible refine (wakes_any _).mono ?_); rintro e w10 ⟨rfl, hb10⟩))
          go_ret
          exact ⟨rfl, bt hb19 hb10⟩
theorem xorOrder_law (A : Option Addr) (c : Nat) (n at' : Int) (rs : List Row) (w : World) (hA : SlV w w.heap.size A (vals rs)) (hR : Rws w w.heap.size rs) :
    Calls Try.prog 7 #[.slice A rs.length c, .int .i64 n, .int .i64 at'] w fun e w' => e = .returned (.bool true) ∧ Below w.heap.size w w' := by
  by_cases h : HeavyP rs ∨ n < 0 ∨ 96 < n ∨ ¬ LongP n.toNat (-1) (lists rs)
  · exact order_out A c _ n at' rs w rfl (by by_cases hH : HeavyP rs; exact .inr hH; exact .inl (Nat.le_trans (Nat.le_of_not_lt fun k => hH (.inl k)) (by omega))) hA h
  · simp only [not_or, Classical.not_not] at h
    obtain ⟨hH, h0, h1, hL⟩ := h
    obtain ⟨k, rfl⟩ : ∃ k : Nat, n = k := ⟨n.toNat, by omega⟩
    rw [Int.toNat_natCast] at hL
    exact order_go A c _ k at' rs w rfl hH (by omega) (long_all.1 hL) hA hR
end Go.Proofs.Ytgpgjbdjjanhaaa.par
