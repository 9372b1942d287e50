/-
  The laws XorRest and XorTurn, walked: each returns true for every input. No condition.
-/
import Derived.Test.YtgpgjbdjjanhaaaXorLawB
namespace Go.Proofs.Ytgpgjbdjjanhaaa.par
open Go.RowKit Go.Lib

theorem iff_yes {p : Prop} (h : p) : true = true ↔ p := ⟨fun _ => h, fun _ => rfl⟩
theorem iff_no {p : Prop} (h : ¬ p) : false = true ↔ p := ⟨fun k => (by cases k), fun k => absurd k h⟩
theorem rest_out (A : Option Addr) (c m : Nat) (n at' : Int) (rs : List Row) (w : World) (hm : rs.length = m) (hr : m ≤ 1048576 ∨ HeavyP rs) (hA : SlV w w.heap.size A (vals rs)) (h : HeavyP rs ∨ n < 0 ∨ 96 < n ∨ ¬ LongP n.toNat (-1) (lists rs) ∨ m = 0) :
    Calls Try.prog 4 #[.slice A m c, .int .i64 n, .int .i64 at'] w fun e w' => e = .returned (.bool true) ∧ Below w.heap.size w w' := by
  by_cases hH : HeavyP rs
  · have cH := heavy_any true A c m _ rs w hm hA (iff_yes hH)
    clear h hA hH hm hr
    go_enter Try.func4, Try.ntmps4
    go_wp2_with (first
      | (go_at_call 9; (with_reducible refine cH.mono ?_); rintro e w1 ⟨rfl, rfl⟩)
      | (go_at_call 17; (with_reducible refine cL.mono ?_); rintro e w2 ⟨rfl, rfl⟩))
    all_goals
      go_ret
      exact ⟨rfl, Below.refl _ _⟩
  · have cH := heavy_any false A c m _ rs w hm hA (iff_no hH)
    have hr : m ≤ 1048576 := hr.resolve_right hH
    by_cases h0 : n < 0
    · clear h hA hH hm hr
      go_enter Try.func4, Try.ntmps4
      go_wp2_with (first
        | (go_at_call 9; (with_reducible refine cH.mono ?_); rintro e w1 ⟨rfl, rfl⟩)
        | (go_at_call 17; (with_reducible refine cL.mono ?_); rintro e w2 ⟨rfl, rfl⟩))
      all_goals
        go_ret
        exact ⟨rfl, Below.refl _ _⟩
    · by_cases h1 : 96 < n
      · clear h hA hH hm hr
        go_enter Try.func4, Try.ntmps4
        go_wp2_with (first
          | (go_at_call 9; (with_reducible refine cH.mono ?_); rintro e w1 ⟨rfl, rfl⟩)
          | (go_at_call 17; (with_reducible refine cL.mono ?_); rintro e w2 ⟨rfl, rfl⟩))
        all_goals
          go_ret
          exact ⟨rfl, Below.refl _ _⟩
      · obtain ⟨k, rfl⟩ : ∃ k : Nat, n = k := ⟨n.toNat, by omega⟩
        rw [Int.toNat_natCast] at h
        by_cases hL : LongP k (-1) (lists rs)
        · have cL := ref_long true k (-1) A c m _ rs w hm hA hr (iff_yes hL)
          by_cases hm0 : m = 0
          · have _h := h
            clear h hA hH hm hr hL
            subst hm0
            go_enter Try.func4, Try.ntmps4
            go_wp2_with (first
              | (go_at_call 9; (with_reducible refine cH.mono ?_); rintro e w1 ⟨rfl, rfl⟩)
              | (go_at_call 17; (with_reducible refine cL.mono ?_); rintro e w2 ⟨rfl, rfl⟩))
            all_goals
              go_ret
              exact ⟨rfl, Below.refl _ _⟩
          · rcases h with h | h | h | h | h
            · exact absurd h hH
            · omega
            · omega
            · exact absurd hL h
            · exact absurd h hm0
        · have cL := ref_long false k (-1) A c m _ rs w hm hA hr (iff_no hL)
          clear h hA hH hm hr hL
          go_enter Try.func4, Try.ntmps4
          go_wp2_with (first
            | (go_at_call 9; (with_reducible refine cH.mono ?_); rintro e w1 ⟨rfl, rfl⟩)
            | (go_at_call 17; (with_reducible refine cL.mono ?_); rintro e w2 ⟨rfl, rfl⟩))
          all_goals
            go_ret
            exact ⟨rfl, Below.refl _ _⟩

theorem turn_out (A A' : Option Addr) (c c' m m' : Nat) (n at' : Int) (rs : List Row) (w : World) (hm : rs.length = m) (hr : m ≤ 1048576 ∨ HeavyP rs) (hA : SlV w w.heap.size A (vals rs)) (h : HeavyP rs ∨ n < 0 ∨ 96 < n ∨ ¬ LongP n.toNat (-1) (lists rs) ∨ m = 0 ∨ (m' : Int) ≠ n) :
    Calls Try.prog 5 #[.slice A m c, .int .i64 n, .int .i64 at', .slice A' m' c'] w fun e w' => e = .returned (.bool true) ∧ Below w.heap.size w w' := by
  by_cases hH : HeavyP rs
  · have cH := heavy_any true A c m _ rs w hm hA (iff_yes hH)
    clear h hA hH hm hr
    go_enter Try.func5, Try.ntmps5
    go_wp2_with (first
      | (go_at_call 9; (with_reducible refine cH.mono ?_); rintro e w1 ⟨rfl, rfl⟩)
      | (go_at_call 17; (with_reducible refine cL.mono ?_); rintro e w2 ⟨rfl, rfl⟩))
    all_goals
      go_ret
      exact ⟨rfl, Below.refl _ _⟩
  · have cH := heavy_any false A c m _ rs w hm hA (iff_no hH)
    have hr : m ≤ 1048576 := hr.resolve_right hH
    by_cases h0 : n < 0
    · clear h hA hH hm hr
      go_enter Try.func5, Try.ntmps5
      go_wp2_with (first
        | (go_at_call 9; (with_reducible refine cH.mono ?_); rintro e w1 ⟨rfl, rfl⟩)
        | (go_at_call 17; (with_reducible refine cL.mono ?_); rintro e w2 ⟨rfl, rfl⟩))
      all_goals
        go_ret
        exact ⟨rfl, Below.refl _ _⟩
    · by_cases h1 : 96 < n
      · clear h hA hH hm hr
        go_enter Try.func5, Try.ntmps5
        go_wp2_with (first
          | (go_at_call 9; (with_reducible refine cH.mono ?_); rintro e w1 ⟨rfl, rfl⟩)
          | (go_at_call 17; (with_reducible refine cL.mono ?_); rintro e w2 ⟨rfl, rfl⟩))
        all_goals
          go_ret
          exact ⟨rfl, Below.refl _ _⟩
      · obtain ⟨k, rfl⟩ : ∃ k : Nat, n = k := ⟨n.toNat, by omega⟩
        rw [Int.toNat_natCast] at h
        by_cases hL : LongP k (-1) (lists rs)
        · have cL := ref_long true k (-1) A c m _ rs w hm hA hr (iff_yes hL)
          by_cases hm0 : m = 0
          · have _h := h
            clear h hA hH hm hr hL
            subst hm0
            go_enter Try.func5, Try.ntmps5
            go_wp2_with (first
              | (go_at_call 9; (with_reducible refine cH.mono ?_); rintro e w1 ⟨rfl, rfl⟩)
              | (go_at_call 17; (with_reducible refine cL.mono ?_); rintro e w2 ⟨rfl, rfl⟩))
            all_goals
              go_ret
              exact ⟨rfl, Below.refl _ _⟩
          · have hx : (m' : Int) ≠ (k : Int) := by
              rcases h with h | h | h | h | h | h
              · exact absurd h hH
              · omega
              · omega
              · exact absurd hL h
              · omega
              · exact h
            have q1 : ((m : Int) == 0) = false := beq_eq_false_iff_ne.2 (by omega)
            have q2 : (m == 0) = false := beq_eq_false_iff_ne.2 hm0
            have n1 : ((m' : Int) != (k : Int)) = true := bne_iff_ne.2 hx
            have n2 : ((m' : Int) == (k : Int)) = false := beq_eq_false_iff_ne.2 hx
            have n3 : (m' != k) = true := bne_iff_ne.2 (by omega)
            have n4 : (m' == k) = false := beq_eq_false_iff_ne.2 (by omega)
            clear h hA hH hm hr hL
            go_enter Try.func5, Try.ntmps5
            go_wp2_with (first
              | (go_at_call 9; (with_reducible refine cH.mono ?_); rintro e w1 ⟨rfl, rfl⟩)
              | (go_at_call 17; (with_reducible refine cL.mono ?_); rintro e w2 ⟨rfl, rfl⟩))
            all_goals
              go_ret
              exact ⟨rfl, Below.refl _ _⟩
        · have cL := ref_long false k (-1) A c m _ rs w hm hA hr (iff_no hL)
          clear h hA hH hm hr hL
          go_enter Try.func5, Try.ntmps5
          go_wp2_with (first
            | (go_at_call 9; (with_reducible refine cH.mono ?_); rintro e w1 ⟨rfl, rfl⟩)
            | (go_at_call 17; (with_reducible refine cL.mono ?_); rintro e w2 ⟨rfl, rfl⟩))
          all_goals
            go_ret
            exact ⟨rfl, Below.refl _ _⟩

theorem wrap_mod (i : Int) (m : Nat) (hm : 0 < m) : ∃ a : Nat, a < m ∧ (IntKind.u64.wrap i).tmod (m : Int) = (a : Int) := by
  have h0 := wrap_nonneg i
  generalize IntKind.u64.wrap i = y at *
  rw [Int.tmod_eq_emod_of_nonneg h0]
  have h1 := Int.emod_nonneg y (show (m : Int) ≠ 0 by omega)
  have h2 := Int.emod_lt_of_pos y (show (0 : Int) < (m : Int) by omega)
  exact ⟨(y % (m : Int)).toNat, by omega, by omega⟩
theorem _root_.Go.Proofs.Ytgpgjbdjjanhaaa.OwnRows.less {w : World} {base base' : Nat} {v : Value} {rs : List Row} {ls : List (List UInt8)} (h : OwnRows w base v rs ls) (hb : base' ≤ base) : OwnRows w base' v rs ls :=
  ⟨h.1.less hb, h.2.1, fun r hr => (h.2.2 r hr).less hb⟩
/-- What a row stored into rows of one's own comes to. -/
theorem own_store {ls : List (List UInt8)} {m : Nat} (hll : ls.length = m) {r : Row} {l : List UInt8} (q : Nat) (hq : q < m) {C : World → Nat → Prop} (hr : ∀ W B, C W B → Own W B 5 r.v r.l) (hrl : r.l = l) {rv : Value} (hrv : r.v = rv) :
    Hid (∀ (W : World) (B : Nat) (v : Value) (rs' : List Row), OwnRows W B v rs' ls → C W B → ∃ G cp, v = .slice (some ⟨G, 0, none⟩) m cp ∧ m ≤ cp ∧ cp ≤ maxLen ∧ B ≤ G ∧ (∃ v, W.cell? ⟨G, q, none⟩ = some v) ∧ W.frozen? ⟨G, q, none⟩ = false ∧
      OwnRows (W.setCell ⟨G, q, none⟩ rv) B (.slice (some ⟨G, 0, none⟩) m cp) (rs'.set q r) (ls.set q l) ∧ W.grownBy (W.setCell ⟨G, q, none⟩ rv) (some G)) := fun W B v rs' ho hC => by
  subst hrl hrv
  obtain ⟨G, cp, rfl, h1, h2, h3, h4⟩ := ho.at hll (by omega)
  have hlr : (vals rs').length = m := by rw [vals_length, ho.len, hll]
  exact ⟨G, cp, rfl, h1, h2, h3, ⟨_, ho.1.cell q (by omega)⟩, ho.1.frozen hlr q, ho.set hll q (hr W B hC)⟩
theorem set_others {α : Type} (ls : List α) (q : Nat) (x : α) : (ls.set q x).take q ++ (ls.set q x).drop (q + 1) = ls.take q ++ ls.drop (q + 1) := by
  rw [List.take_set_of_le (Nat.le_refl q), List.drop_set_of_lt (Nat.lt_succ_self q)]
set_option maxHeartbeats 1000000 in
theorem rest_law_go (A : Option Addr) (c m n q : Nat) (at' : Int) (rs : List Row) (w : World) (hm : rs.length = m) (hH : ¬ HeavyP rs) (hn : n ≤ 96) (hm0 : 0 < m) (hl : AllLen n (lists rs)) (hq : q < m) (hQ : (IntKind.u64.wrap at').tmod (m : Int) = (q : Int))
    (hA : SlV w w.heap.size A (vals rs)) (hR : Rws w w.heap.size rs) :
    Calls Try.prog 4 #[.slice A m c, .int .i64 n, .int .i64 at'] w fun e w' => e = .returned (.bool true) ∧ Below w.heap.size w w' := by
  have hm20 : m ≤ 20 := Nat.le_of_not_lt fun h => hH (.inl (by omega))
  have hS : Short 1048576 rs := fun r hr => Nat.le_of_not_lt fun h => hH (.inr ⟨r, hr, by omega⟩)
  have cH := heavy_any false A c m _ rs w hm hA (iff_no hH)
  have cL := ref_long true n (-1) A c m _ rs w hm hA (by omega) (iff_yes (long_all.2 hl))
  have i1 : ¬ (n : Int) < 0 := by omega
  have i2 : ¬ (96 : Int) < (n : Int) := by omega
  have i3 : ((m : Int) == 0) = false := beq_eq_false_iff_ne.2 (by omega)
  have i4 : (m == 0) = false := beq_eq_false_iff_ne.2 (by omega)
  have i5 : (0 : Int) < (m : Int) := by omega
  have i6 : (q : Int) < (m : Int) := by omega
  have i7 : (0 : Int) ≤ (q : Int) := by omega
  have c1 := all_ok n A c rs w hA hR hn (by omega) hl
  have c2 : ∀ W, Below w.heap.size w W → _ := fun W hW => twins_any A c m rs W hm ((hA.below hW).more hW.size) ((hR.below hW).more hW.size) (by omega) hS
  rw [hm] at c1
  have hll : (lists rs).length = m := by rw [lists_length, hm]
  have hP : Hid ((xall n (lists rs)).length = n) := xall_length hl
  obtain ⟨b, off, x, rfl, hb, g, hx, -, -, e1⟩ := row_at hA hR (show q < rs.length by omega)
  have hxl : x.l.length = n := hl _ (List.mem_of_getElem? e1)
  rw [hxl] at g
  have c3 : ∀ (W : World) (G k1 cp : Nat) (X : Option Addr) (rs' : List Row), Below w.heap.size w W → OwnRows W w.heap.size (.slice (some ⟨G, 0, none⟩) m cp) rs' ((lists rs).set q []) → m ≤ cp → cp ≤ maxLen → Sl W W.heap.size X (xall n (lists rs)) →
      Calls Try.prog 13 #[.slice (some ⟨G, 0, none⟩) m cp, .int .i64 q, .slice X n k1] W fun e w' => Ans W.heap.size x.l e w' ∧ Below W.heap.size W w' := fun W G k1 cp X rs' hW ho h1 h2 hX => by
    obtain ⟨A0, c0, hv, _, _, hs, _⟩ := ho.1.form
    simp only [Value.slice.injEq] at hv
    have hlr : rs'.length = m := by rw [ho.len, List.length_set, hll]
    have := rest_ok q (some ⟨G, 0, none⟩) X cp k1 m n rs' (xall n (lists rs)) W hlr hP.out (by rw [hv.1]; exact hs) ho.rws hX hq (by omega) h1 h2 (by omega) (by rw [ho.2.1, set_others]; exact (take_len hl q).append (drop_len hl (q + 1)))
    rw [ho.2.1, set_others, xall_lost hl (show q < (lists rs).length by omega)] at this
    rwa [show (lists rs)[q]'(by omega) = x.l from (List.getElem?_eq_some_iff.1 e1).2] at this
  have c4 : ∀ (W : World) (X : Option Addr) (k : Nat), Below w.heap.size w W → Sl W W.heap.size X x.l → _ := fun W X k hW hX => same_any n X x.A k x.c x.l W hxl hX ((hx.below hW).more hW.size) (by omega)
  have HX : Hid (x.l.length = n) := hxl
  have HS := own_store hll (r := ⟨none, 0, []⟩) (l := []) q hq (C := fun _ _ => True) (fun W B _ => own_nil_row W B) rfl (rv := .slice none 0 0) rfl
  generalize xall n (lists rs) = P at *
  generalize lists rs = ls at *
  clear hA hR hl hH hS hm e1 hx hxl
  go_enter Try.func4, Try.ntmps4
  go_wp2_with (first
    | (go_at_call 9; (with_reducible refine cH.mono ?_); rintro e w1 ⟨rfl, rfl⟩)
    | (go_at_call 17; (with_reducible refine cL.mono ?_); rintro e w2 ⟨rfl, rfl⟩)
    | (go_at_call 12; (with_reducible refine c1.mono ?_); rintro e w1 ⟨⟨v1, rfl, hown1⟩, hb1⟩; obtain ⟨X1, k1, hv1, -, -, hs1, -⟩ := hown1.form; rw [hP.out] at hv1; subst hv1)
    | (go_at_call 10; (with_reducible refine (c2 _ hb1).mono ?_); rintro e w2 ⟨⟨v2, rs2, rfl, ho2⟩, hb2⟩
       obtain ⟨G, cp, rfl, hG1, hG2, hG3, ⟨vc, hcell⟩, hfz, ho3, hg3⟩ := HS.out _ _ _ _ ho2 trivial
       have hbs := hb2.grown hg3 hb2.size (fun y hy => by cases hy; exact hG3)
       have hs13 := hs1.next hbs
       have hb13 := bt hb1 hbs)
    | (go_at_call 13
       (with_reducible refine (c3 _ _ _ _ _ _ hb13 (ho3.less hb1.size) hG1 hG2 hs13).mono ?_)
       rintro e w4 ⟨⟨v4, rfl, hown4⟩, hb4⟩
       obtain ⟨X4, k4, hv4, -, -, hs4, -⟩ := hown4.form
       rw [HX.out] at hv4
       subst hv4
       have hb14 := bt hb13 hb4
       have g4 := (hb14.cell (p := ⟨b, off + q, none⟩) hb).trans g)
    | (go_at_call 15; (with_reducible refine (c4 _ _ _ hb14 hs4).mono ?_); rintro e w5 ⟨rfl, hb5⟩; have hb15 := bt hb14 hb5)
    | (go_at_call 21; (with_reducible refine (wakes_any _).mono ?_); rintro e w6 ⟨rfl, hb6⟩))
  go_ret
  exact ⟨rfl, bt hb15 hb6⟩
theorem xorRest_law (A : Option Addr) (c : Nat) (n at' : Int) (rs : List Row) (w : World) (hA : SlV w w.heap.size A (vals rs)) (hR : Rws w w.heap.size rs) :
    Calls Try.prog 4 #[.slice A rs.length c, .int .i64 n, .int .i64 at'] w fun e w' => e = .returned (.bool true) ∧ Below w.heap.size w w' := by
  by_cases h : HeavyP rs ∨ n < 0 ∨ 96 < n ∨ ¬ LongP n.toNat (-1) (lists rs) ∨ rs.length = 0
  · exact rest_out A c _ n at' rs w rfl (by by_cases hH : HeavyP rs; exact .inr hH; exact .inl (Nat.le_trans (Nat.le_of_not_lt fun k => hH (.inl k)) (by omega))) hA h
  · simp only [not_or, Classical.not_not] at h
    obtain ⟨hH, h0, h1, hL, hm0⟩ := h
    obtain ⟨k, rfl⟩ : ∃ k : Nat, n = k := ⟨n.toNat, by omega⟩
    rw [Int.toNat_natCast] at hL
    obtain ⟨q, hq, hQ⟩ := wrap_mod at' rs.length (by omega)
    exact rest_law_go A c _ k q at' rs w rfl hH (by omega) (by omega) (long_all.1 hL) hq hQ hA hR

theorem set_len {n : Nat} {ls : List (List UInt8)} (h : AllLen n ls) (q : Nat) {y : List UInt8} (hy : y.length = n) : AllLen n (ls.set q y) := fun x hx => by
  rcases List.mem_or_eq_of_mem_set hx with k | rfl
  · exact h x k
  · exact hy
set_option maxHeartbeats 1000000 in
theorem turn_law_go (A A' : Option Addr) (c c' m n q : Nat) (at' : Int) (rs : List Row) (y : List UInt8) (w : World) (hm : rs.length = m) (hH : ¬ HeavyP rs) (hn : n ≤ 96) (hm0 : 0 < m) (hl : AllLen n (lists rs)) (hy : y.length = n) (hq : q < m) (hQ : (IntKind.u64.wrap at').tmod (m : Int) = (q : Int))
    (hA : SlV w w.heap.size A (vals rs)) (hR : Rws w w.heap.size rs) (hY : Sl w w.heap.size A' y) :
    Calls Try.prog 5 #[.slice A m c, .int .i64 n, .int .i64 at', .slice A' n c'] w fun e w' => e = .returned (.bool true) ∧ Below w.heap.size w w' := by
  have hm20 : m ≤ 20 := Nat.le_of_not_lt fun h => hH (.inl (by omega))
  have hS : Short 1048576 rs := fun r hr => Nat.le_of_not_lt fun h => hH (.inr ⟨r, hr, by omega⟩)
  have cH := heavy_any false A c m _ rs w hm hA (iff_no hH)
  have cL := ref_long true n (-1) A c m _ rs w hm hA (by omega) (iff_yes (long_all.2 hl))
  have i1 : ¬ (n : Int) < 0 := by omega
  have i2 : ¬ (96 : Int) < (n : Int) := by omega
  have i3 : ((m : Int) == 0) = false := beq_eq_false_iff_ne.2 (by omega)
  have i4 : (m == 0) = false := beq_eq_false_iff_ne.2 (by omega)
  have i5 : (0 : Int) < (m : Int) := by omega
  have i6 : (q : Int) < (m : Int) := by omega
  have i7 : (0 : Int) ≤ (q : Int) := by omega
  have i8 : ((n : Int) != (n : Int)) = false := bne_self_eq_false _
  have c1 := all_ok n A c rs w hA hR hn (by omega) hl
  have c2 : ∀ W, Below w.heap.size w W → _ := fun W hW => twins_any A c m rs W hm ((hA.below hW).more hW.size) ((hR.below hW).more hW.size) (by omega) hS
  rw [hm] at c1
  have hll : (lists rs).length = m := by rw [lists_length, hm]
  have hPl : (xall n (lists rs)).length = n := xall_length hl
  have hP : Hid ((xall n (lists rs)).length = n) := hPl
  obtain ⟨b, off, x, rfl, hb, g, hx, -, -, e1⟩ := row_at hA hR (show q < rs.length by omega)
  have hxl : x.l.length = n := hl _ (List.mem_of_getElem? e1)
  rw [hxl] at g
  have hZl : (zx (zx (xall n (lists rs)) x.l) y).length = n := zx_length (zx_length hPl hxl) hy
  have HZ : Hid ((zx (zx (xall n (lists rs)) x.l) y).length = n) := hZl
  have c3 : ∀ (W : World) (X : Option Addr) (k : Nat), Below w.heap.size w W → Sl W W.heap.size X (xall n (lists rs)) → _ := fun W X k hW hX => turn_ok X x.A A' k x.c c' n (xall n (lists rs)) x.l y W hPl hxl hy hX ((hx.below hW).more hW.size) ((hY.below hW).more hW.size) (by omega)
  have c4 : ∀ W, Below w.heap.size w W → Calls Try.prog 22 #[.slice A' n c'] W fun e w' => One W.heap.size y e w' ∧ Below W.heap.size W w' := fun W hW => by
    have := twin_any A' c' _ y W (hY.below hW) (by omega)
    rwa [hy] at this
  have c5 : ∀ (W : World) (B G cp : Nat) (rs' : List Row), OwnRows W B (.slice (some ⟨G, 0, none⟩) m cp) rs' ((lists rs).set q y) → Calls Try.prog 12 #[.slice (some ⟨G, 0, none⟩) m cp, .int .i64 n] W fun e w' => Ans W.heap.size (zx (zx (xall n (lists rs)) x.l) y) e w' ∧ Below W.heap.size W w' := fun W B G cp rs' ho => by
    obtain ⟨A0, c0, hv, _, _, hs, _⟩ := ho.1.form
    simp only [Value.slice.injEq] at hv
    have hlr : rs'.length = m := by rw [ho.len, List.length_set, hll]
    have := all_ok n (some ⟨G, 0, none⟩) cp rs' W (by rw [hv.1]; exact hs) ho.rws hn (by omega) (by rw [ho.2.1]; exact set_len hl q hy)
    rw [ho.2.1, hlr, xall_set hl (show q < (lists rs).length by omega) hy] at this
    rwa [show (lists rs)[q]'(by omega) = x.l from (List.getElem?_eq_some_iff.1 e1).2] at this
  have c6 := fun (W : World) (X Y : Option Addr) (k k' : Nat) (hX : Sl W W.heap.size X (zx (zx (xall n (lists rs)) x.l) y)) (hY : Sl W W.heap.size Y (zx (zx (xall n (lists rs)) x.l) y)) => same_any n X Y k k' _ W hZl hX hY (by omega)
  have HS := fun (X : Option Addr) (cx : Nat) => own_store hll (r := ⟨X, cx, y⟩) (l := y) q hq (C := fun W B => Own W B 5 (.slice X n cx) y) (fun W B h => by
    show Own W B 5 (.slice X y.length cx) y
    rw [hy]
    exact h) rfl (rv := .slice X n cx) (by unfold Row.v; rw [hy])
  have HY : Hid (y.length = n) := hy
  generalize zx (zx (xall n (lists rs)) x.l) y = Z at *
  generalize xall n (lists rs) = P at *
  generalize lists rs = ls at *
  clear hA hR hl hH hS hm e1 hx hxl hPl hZl hy hY
  go_enter Try.func5, Try.ntmps5
  go_wp2_with (first
    | (go_at_call 9; (with_reducible refine cH.mono ?_); rintro e w1 ⟨rfl, rfl⟩)
    | (go_at_call 17; (with_reducible refine cL.mono ?_); rintro e w2 ⟨rfl, rfl⟩)
    | (go_at_call 12; (with_reducible refine c1.mono ?_); rintro e w1 ⟨⟨v1, rfl, hown1⟩, hb1⟩; obtain ⟨X1, k1, hv1, -, -, hs1, -⟩ := hown1.form; rw [hP.out] at hv1; subst hv1; have g1 := (hb1.cell (p := ⟨b, off + q, none⟩) hb).trans g)
    | (go_at_call 14
       (with_reducible refine (c3 _ _ _ hb1 hs1).mono ?_)
       rintro e w2 ⟨⟨v2, rfl, hown2⟩, hb2⟩
       obtain ⟨X2, k2, hv2, -, -, hs2, -⟩ := hown2.form
       rw [HZ.out] at hv2
       subst hv2
       have hb12 := bt hb1 hb2)
    | (go_at_call 10; (with_reducible refine (c2 _ hb12).mono ?_); rintro e w3 ⟨⟨v3, rs3, rfl, ho3⟩, hb3⟩; have hb13 := bt hb12 hb3)
    | (go_at_call 22
       (with_reducible refine (c4 _ hb13).mono ?_)
       rintro e w4 ⟨⟨v4, rfl, hown4⟩, hb4⟩
       obtain ⟨X4, k4, hv4, -, -, hs4, -⟩ := hown4.form
       rw [HY.out] at hv4
       subst hv4
       obtain ⟨G, cp, rfl, hG1, hG2, hG3, ⟨vc, hcell⟩, hfz, ho5, hg5⟩ := (HS X4 k4).out _ _ _ _ (ho3.below hb4) (hown4.less hb3.size)
       have hbs := (bt hb3 hb4).grown hg5 (Nat.le_trans hb3.size hb4.size) (fun y hy => by cases hy; exact hG3)
       have hs25 := hs2.next hbs
       have hb15 := bt hb12 hbs)
    | (go_at_call 12
       (with_reducible refine (c5 _ _ _ _ _ ho5).mono ?_)
       rintro e w6 ⟨⟨v6, rfl, hown6⟩, hb6⟩
       obtain ⟨X6, k6, hv6, -, -, hs6, -⟩ := hown6.form
       rw [HZ.out] at hv6
       subst hv6
       have hb16 := bt hb15 hb6
       have hs26 := hs25.next hb6)
    | (go_at_call 15; (with_reducible refine (c6 _ _ _ _ _ hs26 hs6).mono ?_); rintro e w7 ⟨rfl, hb7⟩; have hb17 := bt hb16 hb7)
    | (go_at_call 21; (with_reducible refine (wakes_any _).mono ?_); rintro e w8 ⟨rfl, hb8⟩))
  go_ret
  exact ⟨rfl, bt hb17 hb8⟩
theorem xorTurn_law (A A' : Option Addr) (c c' : Nat) (n at' : Int) (rs : List Row) (y : List UInt8) (w : World) (hA : SlV w w.heap.size A (vals rs)) (hR : Rws w w.heap.size rs) (hY : Sl w w.heap.size A' y) :
    Calls Try.prog 5 #[.slice A rs.length c, .int .i64 n, .int .i64 at', .slice A' y.length c'] w fun e w' => e = .returned (.bool true) ∧ Below w.heap.size w w' := by
  by_cases h : HeavyP rs ∨ n < 0 ∨ 96 < n ∨ ¬ LongP n.toNat (-1) (lists rs) ∨ rs.length = 0 ∨ (y.length : Int) ≠ n
  · exact turn_out A A' c c' _ _ n at' rs w rfl (by by_cases hH : HeavyP rs; exact .inr hH; exact .inl (Nat.le_trans (Nat.le_of_not_lt fun k => hH (.inl k)) (by omega))) hA h
  · simp only [not_or, Classical.not_not] at h
    obtain ⟨hH, h0, h1, hL, hm0, hy⟩ := h
    obtain ⟨k, rfl⟩ : ∃ k : Nat, n = k := ⟨n.toNat, by omega⟩
    rw [Int.toNat_natCast] at hL
    obtain ⟨q, hq, hQ⟩ := wrap_mod at' rs.length (by omega)
    have hy' : y.length = k := by omega
    rw [hy']
    exact turn_law_go A A' c c' _ k q at' rs y w rfl hH (by omega) (by omega) (long_all.1 hL) hy' hq hQ hA hR hY
end Go.Proofs.Ytgpgjbdjjanhaaa.par
